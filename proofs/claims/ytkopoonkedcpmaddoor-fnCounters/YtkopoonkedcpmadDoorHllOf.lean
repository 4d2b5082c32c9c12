/- HllOf, of the program and of the model. -/
import Derived.Test.YtkopoonkedcpmadDoorHllAdd
namespace Go.Proofs.YtkopoonkedcpmadDoor
open Go.RowKit Go.Deep

/-- The registers that have counted the first k users. -/
def regsTo (S : Nat → ByteArray) : Nat → List Int
  | 0 => zeros
  | k + 1 => addL (regsTo S k) (S k)

theorem regsTo_is (S : Nat → ByteArray) : ∀ k, IsRegs (regsTo S k)
  | 0 => zeros_is
  | k + 1 => addL_is (regsTo_is S k) _

theorem nums_regs {l : List Int} (h : IsRegs l) : numsOf (strOfNums l) = l := nums_str l fun x hx => by have := h.2 x hx; omega

theorem hllAdd_regs {l : List Int} (h : IsRegs l) {u : ByteArray} (hu : userB u = true) : hllAdd (strOfNums l) u = strOfNums (addL l u) := by
  rw [hllAdd_yes (hllB_regs h) hu, nums_regs h]

def hllOf (S : Nat → ByteArray) (len : Nat) : ByteArray := if usersB S len then strOfNums (regsTo S len) else ⟨#[]⟩
theorem hllOf_no {S : Nat → ByteArray} {len : Nat} (h : usersB S len = false) : hllOf S len = ⟨#[]⟩ := by unfold hllOf; rw [h]; rfl
theorem hllOf_yes {S : Nat → ByteArray} {len : Nat} (h : usersB S len = true) : hllOf S len = strOfNums (regsTo S len) := by unfold hllOf; rw [h]; rfl

theorem mk64 (w : World) : (Instr.makeSlice 22 (.int .i64 64) (.int .i64 64)).run Tryd.prog w = .ok (.slice (some ⟨w.heap.size, 0, none⟩) 64 64) (w.alloc (.cells (vals zeros) 5)) := by kernel_rfl

theorem mk64_text (w : World) : (convert 22 9 (.slice (some ⟨w.heap.size, 0, none⟩) 64 64)).run Tryd.prog (w.alloc (.cells (vals zeros) 5)) = .ok (.string (strOfNums zeros)) (w.alloc (.cells (vals zeros) 5)) := by
  refine run_convert_bytes_arg (P := Tryd.prog) _ 22 5 Tryd.underlying22 Tryd.underlying5 w.heap.size 0 64 64 zeros rfl (fun i hi => ?_) 9 Tryd.underlying9
  rw [Nat.zero_add, cell_of_row _ _ _ _ _ _ (heap_alloc_new w _), vals_get, List.getD, List.getElem?_eq_getElem (by rw [zeros_is.1]; exact hi)]
  rfl

set_option maxHeartbeats 1000000 in
set_option maxRecDepth 100000 in
theorem spec_HllOf (a : Option Addr) (len cap : Nat) (S : Nat → ByteArray) (w : World) (hl : len ≤ 1048576) (hS : StrAt w w.heap.size a len S) :
    Calls Tryd.prog 7 #[.slice a len cap] w fun e w' => e = .returned (.string (hllOf S len)) ∧ Below w.heap.size w w' := by
  have HS := hide hS
  cases hu : usersB S len with
  | false =>
    have HV := hide (hllOf_no hu)
    have cu := hu ▸ spec_UsersOk a len cap S w hl hS
    clear hS
    go_enter Tryd.func7, Tryd.ntmps7
    go_wp2_with fail
    refine cu.mono ?_
    rintro e w1 ⟨rfl, rfl⟩
    go_wp2
    go_ret
    exact ⟨ret_str HV.out.symm, Below.refl _ _⟩
  | true =>
    have HV := hide (hllOf_yes hu)
    have HU := hide (usersB_out hu)
    have cu := hu ▸ spec_UsersOk a len cap S w hl hS
    have hmk := mk64
    have hct := mk64_text w
    have hB := hide ((Below.refl w.heap.size w).alloc (Nat.le_refl _) (.cells (vals zeros) 5))
    clear hS hu
    go_enter Tryd.func7, Tryd.ntmps7
    go_wp2_with fail
    refine cu.mono ?_
    rintro e w1 ⟨rfl, rfl⟩
    clear cu
    go_wp2
    go_loopw [3, 4] (fun o i wr => ∃ k : Nat, o = .string (strOfNums (regsTo S k)) ∧ i = .int .i64 k ∧ k ≤ len ∧ Hid (Below w.heap.size w wr)) (fun _ i _ => len - (intOf i).toNat)
    case atStart => exact ⟨0, rfl, rfl, by omega, hB.out⟩
    case round =>
      obtain ⟨k, rfl, rfl, hk, HB⟩ := hrel
      by_cases hlt : k < len
      · obtain ⟨b, off, rfl, _, hc⟩ := (HS.out.below HB.out).at hlt
        have huk := HU.out.2 k hlt
        have hsz := (userB_bd huk).2
        have HE := hide (hllAdd_regs (regsTo_is S k) huk)
        clear huk
        go_wp2_with fail
        refine (spec_HllAdd _ _ (by unfold maxLen; omega) _).mono ?_
        rintro e w2 ⟨rfl, hb2⟩
        have HB2 := hide (HB.out.trans (hb2.mono HB.out.size))
        clear hb2
        go_wp2
        rw [HE.out]
        exact ⟨⟨k + 1, rfl, by go_num, by omega, HB2⟩, by simp [intOf]; omega⟩
      · obtain rfl : k = len := by omega
        go_wp2
        go_ret
        exact ⟨ret_str HV.out.symm, HB.out⟩

set_option maxHeartbeats 1000000 in
set_option maxRecDepth 100000 in
theorem impl_HllOf (a : Option Addr) (len cap : Nat) (S : Nat → ByteArray) (w : World) (hl : len ≤ 1048576) (hS : StrAt w w.heap.size a len S) (hT : TabAt w) :
    Calls Tryd.prog 6 #[.slice a len cap] w fun e w' => e = .returned (.string (hllOf S len)) ∧ Below w.heap.size w w' := by
  have HS := hide hS
  have HT := hide hT
  cases hu : usersB S len with
  | false =>
    have HV := hide (hllOf_no hu)
    have cu := hu ▸ impl_UsersOk a len cap S w hl hS
    clear hS hT
    go_enter Tryd.func6, Tryd.ntmps6
    go_wp2_with fail
    refine cu.mono ?_
    rintro e w1 ⟨rfl, rfl⟩
    go_wp2
    go_ret
    exact ⟨ret_str HV.out.symm, Below.refl _ _⟩
  | true =>
    have HV := hide (hllOf_yes hu)
    have HU := hide (usersB_out hu)
    have cu := hu ▸ impl_UsersOk a len cap S w hl hS
    have hz := zero_regs
    have hB := hide ((Below.refl w.heap.size w).alloc (Nat.le_refl _) (.cells (vals zeros) 34))
    have hE := hide (heap_alloc_new w (.cells (vals zeros) 34))
    clear hS hu hT
    go_enter Tryd.func6, Tryd.ntmps6
    go_wp2_with fail
    refine cu.mono ?_
    rintro e w1 ⟨rfl, rfl⟩
    clear cu
    go_wp2
    go_loopw [11] (fun i wr => ∃ k : Nat, i = .int .i64 k ∧ k ≤ len ∧ Hid (Below w.heap.size w wr ∧ wr.heap[w.heap.size]? = some (.cells (vals (regsTo S k)) 34))) (fun i _ => len - (intOf i).toNat)
    case atStart => exact ⟨0, rfl, by omega, hB.out, hE.out⟩
    case round =>
      obtain ⟨k, rfl, hk, HB⟩ := hrel
      by_cases hlt : k < len
      · obtain ⟨b, off, rfl, _, hc⟩ := (HS.out.below HB.out.1).at hlt
        have huk := HU.out.2 k hlt
        have hsz := (userB_bd huk).2
        clear huk
        go_wp2_with (refine wpList_load_row rfl 34 _ rfl w.heap.size rfl 34 (vals (regsTo S k)) (0, 0) _ HB.out.2 Tryd.underlying34 rfl (regs_size (regsTo_is S k)) ?_)
        refine (impl_with _ (regsTo_is S k) _ (by unfold maxLen; omega) _ (HT.out.below HB.out.1 HT.out.pos)).mono ?_
        rintro e w2 ⟨rfl, hb2⟩
        have e2 : w2.heap[w.heap.size]? = some (.cells (vals (regsTo S k)) 34) := (hb2.block _ (Array.getElem?_eq_some_iff.1 HB.out.2).1).trans HB.out.2
        have s2 : (vals (addL (regsTo S k) (S k))).size = 64 := by rw [vals_size]; exact (addL_is (regsTo_is S k) _).1
        have hst := st_row (P := Tryd.prog) _ _ _ _ (vals (addL (regsTo S k) (S k))) e2 (by rw [s2, vals_size]; exact (regsTo_is S k).1) (vals_one _)
        have HB2 : Hid (Below w.heap.size w (w2.setRow w.heap.size (vals (addL (regsTo S k) (S k)))) ∧ (w2.setRow w.heap.size (vals (addL (regsTo S k) (S k)))).heap[w.heap.size]? = some (.cells (vals (regsTo S (k + 1))) 34)) :=
          ⟨below_setRow (HB.out.1.trans (hb2.mono HB.out.1.size)) (Nat.le_refl _) _, setRow_heap _ _ _ _ _ _ e2⟩
        clear e2 hb2
        go_wp2
        exact ⟨⟨k + 1, by go_num, by omega, HB2⟩, by simp [intOf]; omega⟩
      · obtain rfl : k = len := by omega
        go_wp2_with (refine wpList_load_row rfl 34 _ rfl w.heap.size rfl 34 (vals (regsTo S k)) (0, 0) _ HB.out.2 Tryd.underlying34 rfl (regs_size (regsTo_is S k)) ?_)
        refine (impl_text _ (regsTo_is S k) _).mono ?_
        rintro e w2 ⟨rfl, hb2⟩
        have HB2 := hide (HB.out.1.trans (hb2.mono HB.out.1.size))
        clear hb2
        go_wp2
        go_ret
        exact ⟨ret_str HV.out.symm, HB2.out⟩

end Go.Proofs.YtkopoonkedcpmadDoor
