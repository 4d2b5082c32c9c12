/- The program's registersOf and text: registers out of their text, and back. -/
import Derived.Test.YtkopoonkedcpmadDoorRegs
namespace Go.Proofs.YtkopoonkedcpmadDoor
open Go.RowKit

theorem regs_info : (Tryd.prog.info? 34).map (·.size) = some 64 := by kernel_rfl

theorem zeros_lit : vals zeros = #[.int .u8 0, .int .u8 0, .int .u8 0, .int .u8 0, .int .u8 0, .int .u8 0, .int .u8 0, .int .u8 0, .int .u8 0, .int .u8 0, .int .u8 0, .int .u8 0, .int .u8 0, .int .u8 0, .int .u8 0, .int .u8 0, .int .u8 0, .int .u8 0, .int .u8 0, .int .u8 0, .int .u8 0, .int .u8 0, .int .u8 0, .int .u8 0, .int .u8 0, .int .u8 0, .int .u8 0, .int .u8 0, .int .u8 0, .int .u8 0, .int .u8 0, .int .u8 0, .int .u8 0, .int .u8 0, .int .u8 0, .int .u8 0, .int .u8 0, .int .u8 0, .int .u8 0, .int .u8 0, .int .u8 0, .int .u8 0, .int .u8 0, .int .u8 0, .int .u8 0, .int .u8 0, .int .u8 0, .int .u8 0, .int .u8 0, .int .u8 0, .int .u8 0, .int .u8 0, .int .u8 0, .int .u8 0, .int .u8 0, .int .u8 0, .int .u8 0, .int .u8 0, .int .u8 0, .int .u8 0, .int .u8 0, .int .u8 0, .int .u8 0, .int .u8 0] := by
  kernel_rfl

theorem build_zeros (w : World) : (Instr.build 34 #[]).run Tryd.prog w = .ok (.agg (vals zeros)) w :=
  run_build w 34 #[] (vals zeros) (by kernel_rfl)

theorem zero_regs (w : World) : (zeroValue 34).run Tryd.prog w = .ok (.agg (vals zeros)) w := by
  rw [zeros_lit]; exact Tryd.zeroValue34 w

theorem regs_size {l : List Int} (h : IsRegs l) : (Tryd.prog.info? 34).map (·.size) = some (vals l).size := by
  rw [vals_size, h.1]; exact regs_info

theorem ret_regs {l : List Int} {a b : Bool} (h : a = b) : Ending.returned (.tuple #[.agg (vals l), .bool b]) = .returned (.tuple #[.agg (vals l), .bool a]) := by rw [h]

set_option maxHeartbeats 1000000 in
set_option maxRecDepth 100000 in
theorem impl_registersOf (s : ByteArray) (w : World) :
    Calls Tryd.prog 20 #[.string s] w fun e w' => (∃ l : List Int, e = .returned (.tuple #[.agg (vals l), .bool (hllB s)]) ∧ IsRegs l ∧ (hllB s = true → l = numsOf s)) ∧ Below w.heap.size w w' := by
  have hb := build_zeros
  have hz := zero_regs
  have hsz : (vals zeros).size = 64 := by rw [vals_size]; rfl
  have hg0 := heap_alloc2_old w (.cells (vals zeros) 34) (.cells (vals zeros) 34)
  have hg1 := heap_alloc2_new w (.cells (vals zeros) 34) (.cells (vals zeros) 34)
  have H0 := hide hg0
  have H1 := hide hg1
  clear hg0 hg1
  have h1 := vals_one zeros
  by_cases h64 : s.size = 64
  · have hB : Hid (Below w.heap.size w ((w.alloc (.cells (vals zeros) 34)).alloc (.cells (vals zeros) 34))) := ((Below.refl _ _).alloc (Nat.le_refl _) _).alloc (by simp) _
    go_enter Tryd.func20, Tryd.ntmps20
    go_wp2
    go_loopw [10] (fun i wr => ∃ (k : Nat) (l : List Int), i = .int .i64 k ∧ k ≤ 64 ∧ Hid (l.length = 64 ∧ (∀ i, i < k → l[i]? = (numsOf s)[i]?) ∧ (∀ x ∈ l, 0 ≤ x ∧ x ≤ 58) ∧ wr.heap[w.heap.size]? = some (.cells (vals zeros) 34) ∧ wr.heap[w.heap.size + 1]? = some (.cells (vals l) 34) ∧ Below w.heap.size w wr) ∧ Hid (∀ i (hi : i < s.size), i < k → ¬ (58 : Int) < (((s[i]'hi).toNat : Nat) : Int)))
      (fun i _ => 64 - (intOf i).toNat)
    case atStart => exact ⟨0, zeros, rfl, by omega, ⟨rfl, fun _ h => absurd h (by omega), zeros_is.2, H0.out, H1.out, hB.out⟩, fun _ _ h => absurd h (by omega)⟩
    case round =>
      obtain ⟨k, l, rfl, hk, HR, HK⟩ := hrel
      by_cases hlt : k < 64
      · obtain ⟨hl, hgot, hbd, e0, e1, hbel⟩ := HR.out
        have hlt' : k < s.size := by omega
        by_cases hgt : (58 : Int) < (((s[k]'hlt').toNat : Nat) : Int)
        · have HV : Hid (hllB s = false) := hllB_no k hlt' hgt
          have hst := st_row (P := Tryd.prog) _ _ _ _ (vals zeros) e0 rfl h1
          clear h1
          clear hgot hbd e0 e1 hbel HK
          go_wp2
          exact bodyPost_ret (v := .tuple #[.agg (vals zeros), .bool false]) (results_row_tmp Tryd.results20 _ _ _ _ _ _ _ rfl (setRow_heap _ _ _ (vals zeros) _ _ HR.out.2.2.2.1) Tryd.underlying34 rfl (regs_size zeros_is)) rfl
            ⟨⟨zeros, ret_regs HV.out, zeros_is, fun h => by rw [HV.out] at h; cases h⟩, below_setRow HR.out.2.2.2.2.2 (Nat.le_refl _) _⟩
        · have hx := numsOf_get s k hlt'
          obtain ⟨x, hxe⟩ : ∃ x, (((s[k]'hlt').toNat : Nat) : Int) = x := ⟨_, rfl⟩
          have HK2 : Hid (∀ i (hi : i < s.size), i < k + 1 → ¬ (58 : Int) < (((s[i]'hi).toNat : Nat) : Int)) := fun i hi h => by
            rcases Nat.lt_or_eq_of_le (Nat.le_of_lt_succ h) with h | h
            · exact HK.out i hi h
            · subst h; exact hgt
          obtain ⟨y, hy⟩ : ∃ y, l[k]? = some y := ⟨_, List.getElem?_eq_getElem (by omega)⟩
          have hc : wr.cell? ⟨w.heap.size + 1, k, none⟩ = some (.int .u8 y) := by rw [cell_of_row _ _ _ _ _ _ e1, vals_get, hy]; rfl
          have hf : wr.frozen? ⟨w.heap.size + 1, k, none⟩ = false := frozen_of_row _ _ _ _ _ e1
          have e1' := heap_setCell_same wr (w.heap.size + 1) k (vals l) _ (.int .u8 x) e1
          rw [vals_set] at e1'
          rw [hxe] at hx
          have hx58 : 0 ≤ x ∧ x ≤ 58 := by omega
          have HR2 : Hid ((l.set k x).length = 64 ∧ (∀ i, i < k + 1 → (l.set k x)[i]? = (numsOf s)[i]?) ∧ (∀ z ∈ l.set k x, 0 ≤ z ∧ z ≤ 58) ∧ (wr.setCell ⟨w.heap.size + 1, k, none⟩ (.int .u8 x)).heap[w.heap.size]? = some (.cells (vals zeros) 34) ∧ (wr.setCell ⟨w.heap.size + 1, k, none⟩ (.int .u8 x)).heap[w.heap.size + 1]? = some (.cells (vals (l.set k x)) 34) ∧ Below w.heap.size w (wr.setCell ⟨w.heap.size + 1, k, none⟩ (.int .u8 x))) := by
            refine ⟨by simpa using hl, fun i hi => ?_, fun z hz => ?_, ?_, e1', Below.setCell hbel (by simp) _⟩
            · by_cases hik : k = i
              · subst hik
                rw [List.getElem?_set_self (by omega), hx]
              · rw [List.getElem?_set_ne hik]; exact hgot i (by omega)
            · rcases List.mem_or_eq_of_mem_set hz with h | h
              · exact hbd z h
              · omega
            · rw [heap_setCell_other _ _ _ _ (by simp)]; exact e0
          rw [← hxe] at HR2
          clear hxe hx hx58 e1' e0 e1 hgot hbd hbel HR HK hz hb h1 hy hl
          go_wp2
          exact ⟨⟨k + 1, _, by go_num, by omega, HR2, HK2⟩, by simp [intOf]; omega⟩
      · obtain rfl : k = 64 := by omega
        obtain ⟨hl, hgot, hbd, e0, e1, hbel⟩ := HR.out
        have hln : l = numsOf s := list_of_all (by rw [numsOf_len]; omega) fun i hi => hgot i (by rw [numsOf_len] at hi; omega)
        subst hln
        have HV : Hid (hllB s = true) := hllB_yes h64 fun i hi => HK.out i hi (by omega)
        have hst := st_row (P := Tryd.prog) _ _ _ _ (vals (numsOf s)) e0 (by rw [vals_size, vals_size, hl]; rfl) (vals_one _)
        have hsz2 : (vals (numsOf s)).size = 64 := by rw [vals_size]; omega
        clear h1 hgot hbd e0 e1 hbel hl HK
        go_wp2_with (refine wpList_load_row rfl 34 _ rfl (w.heap.size + 1) rfl 34 (vals (numsOf s)) (0, 0) _ HR.out.2.2.2.2.1 Tryd.underlying34 rfl (regs_size (hllB_out HV.out)) ?_)
        exact bodyPost_ret (v := .tuple #[.agg (vals (numsOf s)), .bool true]) (results_row_tmp Tryd.results20 _ _ _ _ _ _ _ rfl (setRow_heap _ _ _ (vals (numsOf s)) _ _ HR.out.2.2.2.1) Tryd.underlying34 rfl (regs_size (hllB_out HV.out))) rfl
          ⟨⟨numsOf s, ret_regs HV.out, hllB_out HV.out, fun _ => rfl⟩, below_setRow HR.out.2.2.2.2.2 (Nat.le_refl _) _⟩
  · have h64' : ((s.size : Int) == 64) = false := by simp; omega
    have hst := st_row (P := Tryd.prog) _ _ _ _ (vals zeros) H0.out rfl h1
    clear h1
    go_enter Tryd.func20, Tryd.ntmps20
    go_wp2
    have hf : hllB s = false := hllB_size h64
    exact bodyPost_ret (v := .tuple #[.agg (vals zeros), .bool false]) (results_row_tmp Tryd.results20 _ _ _ _ _ _ _ rfl (setRow_heap _ _ _ (vals zeros) _ _ H0.out) Tryd.underlying34 rfl (regs_size zeros_is)) rfl
      ⟨⟨zeros, ret_regs hf, zeros_is, fun h => by rw [hf] at h; cases h⟩, below_setRow (((Below.refl _ _).alloc (Nat.le_refl _) _).alloc (by simp) _) (Nat.le_refl _) _⟩

theorem impl_regs_yes (s : ByteArray) (h : hllB s = true) (w : World) :
    Calls Tryd.prog 20 #[.string s] w fun e w' => e = .returned (.tuple #[.agg (vals (numsOf s)), .bool true]) ∧ Below w.heap.size w w' :=
  (impl_registersOf s w).mono fun e w' hx => by
    obtain ⟨⟨l, h1, _, h2⟩, h3⟩ := hx
    rw [h2 h, h] at h1
    exact ⟨h1, h3⟩

theorem impl_regs_no (s : ByteArray) (h : hllB s = false) (w : World) :
    Calls Tryd.prog 20 #[.string s] w fun e w' => (∃ l, e = .returned (.tuple #[.agg (vals l), .bool false]) ∧ IsRegs l) ∧ Below w.heap.size w w' :=
  (impl_registersOf s w).mono fun e w' hx => by
    obtain ⟨⟨l, h1, h2, _⟩, h3⟩ := hx
    rw [h] at h1
    exact ⟨⟨l, h1, h2⟩, h3⟩

/-- A variable of registers of one's own, just laid and filled. -/
theorem regs_var {W w1 : World} (hb : Below W.heap.size W w1) {l : List Int} (hl : IsRegs l) :
    (vals l).size = 64 ∧ ∃ W2 : World, (storeCells ⟨w1.heap.size, 0, none⟩ (vals l).toList).run Tryd.prog (w1.alloc (.cells (vals zeros) 34)) = .ok () W2 ∧
      W2.heap[w1.heap.size]? = some (.cells (vals l) 34) ∧ Below W.heap.size W W2 ∧ W2.heap.size = w1.heap.size + 1 ∧ Below w1.heap.size w1 W2 := by
  have s1 : (vals l).size = 64 := by rw [vals_size]; exact hl.1
  refine ⟨s1, _, st_row (P := Tryd.prog) _ _ _ _ (vals l) (heap_alloc_new w1 (.cells (vals zeros) 34)) (by rw [s1, vals_size]; rfl) (vals_one l), setRow_heap _ _ _ (vals l) _ _ (heap_alloc_new w1 _), below_setRow (hb.alloc hb.size _) hb.size _, ?_, below_setRow ((Below.refl _ _).alloc (Nat.le_refl _) _) (Nat.le_refl _) _⟩
  rw [setRow_size]; simp

end Go.Proofs.YtkopoonkedcpmadDoor
