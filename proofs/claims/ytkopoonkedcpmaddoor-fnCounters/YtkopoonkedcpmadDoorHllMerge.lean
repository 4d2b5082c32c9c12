/- HllMerge, of the program and of the model, and its law. -/
import Derived.Test.YtkopoonkedcpmadDoorHllOk
import Derived.Test.YtkopoonkedcpmadDoorFRow
import Derived.Test.YtkopoonkedcpmadDoorHllText
namespace Go.Proofs.YtkopoonkedcpmadDoor
open Go.RowKit

/-- Of each register the greater one. -/
def mrg (l m : List Int) : List Int := List.zipWith (fun a b => if a < b then b else a) l m

theorem mrg_len {l m : List Int} (h : l.length = m.length) : (mrg l m).length = m.length := by simp [mrg]; omega
theorem mrg_get {l m : List Int} {i : Nat} {a b : Int} (ha : l[i]? = some a) (hb : m[i]? = some b) : (mrg l m)[i]? = some (if a < b then b else a) := by
  simp [mrg, List.getElem?_zipWith, ha, hb]
theorem mrg_is {l m : List Int} (hl : IsRegs l) (hm : IsRegs m) : IsRegs (mrg l m) := by
  refine ⟨by rw [mrg_len (by rw [hl.1, hm.1]), hm.1], fun x hx => ?_⟩
  obtain ⟨i, hi, rfl⟩ := List.getElem_of_mem hx
  simp only [mrg, List.getElem_zipWith]
  have h1 := hl.2 _ (List.getElem_mem (l := l) (n := i) (by simp [mrg] at hi; omega))
  have h2 := hm.2 _ (List.getElem_mem (l := m) (n := i) (by simp [mrg] at hi; omega))
  split <;> omega

def hllMerge (a b : ByteArray) : ByteArray := if hllB a && hllB b then strOfNums (mrg (numsOf a) (numsOf b)) else ⟨#[]⟩

theorem hllMerge_no {a b : ByteArray} (h : hllB a = false ∨ hllB b = false) : hllMerge a b = ⟨#[]⟩ := by
  unfold hllMerge
  rcases h with h | h <;> rw [h] <;> simp

theorem hllMerge_yes {a b : ByteArray} (ha : hllB a = true) (hb : hllB b = true) : hllMerge a b = strOfNums (mrg (numsOf a) (numsOf b)) := by
  unfold hllMerge
  rw [ha, hb]; rfl

set_option maxHeartbeats 1000000 in
set_option maxRecDepth 100000 in
theorem impl_HllMerge_no (a b : ByteArray) (h : hllB a = false ∨ hllB b = false) (w : World) :
    Calls Tryd.prog 9 #[.string a, .string b] w fun e w' => e = .returned (.string (hllMerge a b)) ∧ Below w.heap.size w w' := by
  have HV := hide (hllMerge_no h)
  have hz := zero_regs
  cases ha : hllB a with
  | false =>
    have ca := impl_regs_no a ha
    have cb := impl_registersOf b
    clear ha h
    go_enter Tryd.func9, Tryd.ntmps9
    go_wp2_with fail
    refine (ca _).mono ?_
    rintro e w1 ⟨⟨la, rfl, hla⟩, hb1⟩
    obtain ⟨s1, W2, st1, e1, b1, z1, _⟩ := regs_var hb1 hla
    have B1 := hide b1
    clear e1 b1 z1 hla ca hb1
    go_wp2_with fail
    refine (cb _).mono ?_
    rintro e w3 ⟨⟨lb, rfl, hlb, _⟩, hb3⟩
    obtain ⟨s2, W4, st2, e2, b2, z2, _⟩ := regs_var (B1.out.trans (hb3.mono B1.out.size)) hlb
    have B2 := hide b2
    clear e2 b2 z2 hlb cb hb3
    go_wp2
    go_ret
    exact ⟨ret_str HV.out.symm, B2.out⟩
  | true =>
    have hb : hllB b = false := by rcases h with h | h; · rw [ha] at h; cases h
                                   · exact h
    have ca := impl_regs_yes a ha
    have cb := impl_regs_no b hb
    have hla := hllB_out ha
    clear ha h hb
    go_enter Tryd.func9, Tryd.ntmps9
    go_wp2_with fail
    refine (ca _).mono ?_
    rintro e w1 ⟨rfl, hb1⟩
    obtain ⟨s1, W2, st1, e1, b1, z1, _⟩ := regs_var hb1 hla
    have B1 := hide b1
    clear e1 b1 z1 hla ca hb1
    go_wp2_with fail
    refine (cb _).mono ?_
    rintro e w3 ⟨⟨lb, rfl, hlb⟩, hb3⟩
    obtain ⟨s2, W4, st2, e2, b2, z2, _⟩ := regs_var (B1.out.trans (hb3.mono B1.out.size)) hlb
    have B2 := hide b2
    clear e2 b2 z2 hlb cb hb3
    go_wp2
    go_ret
    exact ⟨ret_str HV.out.symm, B2.out⟩

set_option maxHeartbeats 1000000 in
set_option maxRecDepth 100000 in
theorem impl_HllMerge_yes (a b : ByteArray) (ha : hllB a = true) (hb : hllB b = true) (w : World) :
    Calls Tryd.prog 9 #[.string a, .string b] w fun e w' => e = .returned (.string (hllMerge a b)) ∧ Below w.heap.size w w' := by
  have HV := hide (hllMerge_yes ha hb)
  have hz := zero_regs
  have ca := impl_regs_yes a ha
  have cb := impl_regs_yes b hb
  have RA := hide (hllB_out ha)
  have RB := hide (hllB_out hb)
  have hsa : a.size = 64 := by rw [← numsOf_len]; exact RA.out.1
  have hsb : b.size = 64 := by rw [← numsOf_len]; exact RB.out.1
  clear ha hb
  go_enter Tryd.func9, Tryd.ntmps9
  go_wp2_with fail
  refine (ca _).mono ?_
  rintro e w1 ⟨rfl, hb1⟩
  obtain ⟨s1, W2, st1, e1, b1, z1, _⟩ := regs_var hb1 RA.out
  have B1 := hide b1
  have E1 := hide e1
  have Z1 := hide z1
  have H1 := hide hb1.size
  clear e1 b1 z1 ca hb1
  go_wp2_with fail
  refine (cb _).mono ?_
  rintro e w3 ⟨rfl, hb3⟩
  obtain ⟨s2, W4, st2, e2, b2, z2, b4⟩ := regs_var (B1.out.trans (hb3.mono B1.out.size)) RB.out
  have B2 := hide b2
  have hz3 : w1.heap.size < w3.heap.size := by have := hb3.size; have := Z1.out; omega
  have E2 : Hid (W4.heap[w3.heap.size]? = some (.cells (vals (numsOf b)) 34) ∧ W4.heap[w1.heap.size]? = some (.cells (vals (numsOf a)) 34)) := ⟨e2, by
    rw [b4.block _ hz3, hb3.block _ (by have := Z1.out; omega)]; exact E1.out⟩
  have HZ3 := hide hz3
  clear e2 b2 z2 cb hb3 b4 hz3
  go_wp2
  go_loopw [26] (fun i wr => ∃ (k : Nat) (l : List Int), i = .int .i64 k ∧ k ≤ 64 ∧ Hid (l.length = 64 ∧ (∀ i, i < k → l[i]? = (mrg (numsOf a) (numsOf b))[i]?) ∧ (∀ i, k ≤ i → l[i]? = (numsOf a)[i]?) ∧ wr.heap[w1.heap.size]? = some (.cells (vals l) 34) ∧ wr.heap[w3.heap.size]? = some (.cells (vals (numsOf b)) 34) ∧ Below w.heap.size w wr))
    (fun i _ => 64 - (intOf i).toNat)
  case atStart => exact ⟨0, numsOf a, rfl, by omega, RA.out.1, fun _ h => absurd h (by omega), fun _ _ => rfl, E2.out.2, E2.out.1, B2.out⟩
  case round =>
    obtain ⟨k, l, rfl, hk, HR⟩ := hrel
    by_cases hlt : k < 64
    · obtain ⟨hl, hgot, hrest, ea, eb, hbl⟩ := HR.out
      obtain ⟨x, hx⟩ : ∃ x, (numsOf a)[k]? = some x := ⟨_, List.getElem?_eq_getElem (by rw [RA.out.1]; exact hlt)⟩
      obtain ⟨y, hy⟩ : ∃ y, (numsOf b)[k]? = some y := ⟨_, List.getElem?_eq_getElem (by rw [RB.out.1]; exact hlt)⟩
      have hxl : l[k]? = some x := by rw [hrest k (Nat.le_refl _), hx]
      have ca : wr.cell? ⟨w1.heap.size, k, none⟩ = some (.int .u8 x) := by rw [cell_of_row _ _ _ _ _ _ ea, vals_get, hxl]; rfl
      have cb : wr.cell? ⟨w3.heap.size, k, none⟩ = some (.int .u8 y) := by rw [cell_of_row _ _ _ _ _ _ eb, vals_get, hy]; rfl
      have cf : wr.frozen? ⟨w1.heap.size, k, none⟩ = false := frozen_of_row _ _ _ _ _ ea
      have hm := mrg_get hx hy
      obtain ⟨z, hz'⟩ : ∃ z, (if x < y then y else x) = z := ⟨_, rfl⟩
      have ea' := heap_setCell_same wr w1.heap.size k (vals l) _ (.int .u8 z) ea
      rw [vals_set] at ea'
      rw [hz'] at hm
      have HR2 : Hid ((l.set k z).length = 64 ∧ (∀ i, i < k + 1 → (l.set k z)[i]? = (mrg (numsOf a) (numsOf b))[i]?) ∧ (∀ i, k + 1 ≤ i → (l.set k z)[i]? = (numsOf a)[i]?) ∧ (wr.setCell ⟨w1.heap.size, k, none⟩ (.int .u8 z)).heap[w1.heap.size]? = some (.cells (vals (l.set k z)) 34) ∧ (wr.setCell ⟨w1.heap.size, k, none⟩ (.int .u8 z)).heap[w3.heap.size]? = some (.cells (vals (numsOf b)) 34) ∧ Below w.heap.size w (wr.setCell ⟨w1.heap.size, k, none⟩ (.int .u8 z))) := by
        refine ⟨by simpa using hl, fun i hi => ?_, fun i hi => ?_, ea', ?_, Below.setCell hbl H1.out _⟩
        · by_cases e : k = i
          · subst e
            rw [List.getElem?_set_self (by omega), hm]
          · rw [List.getElem?_set_ne e]; exact hgot i (by omega)
        · rw [List.getElem?_set_ne (by omega)]; exact hrest i (by omega)
        · rw [heap_setCell_other _ _ _ _ (by have := HZ3.out; simp; omega)]; exact eb
      rw [← hz'] at HR2
      clear hl hgot hrest ea eb hbl hx hy hxl HR ea' hz' hm hz
      go_wp2
      go_region
      go_wp2
      exact ⟨⟨k + 1, _, by go_num, by omega, HR2.out.1, HR2.out.2.1, HR2.out.2.2.1, HR2.out.2.2.2.1, HR2.out.2.2.2.2.1, Below.drew HR2.out.2.2.2.2.2⟩, by simp [intOf]; omega⟩
    · obtain rfl : k = 64 := by omega
      obtain ⟨hl, hgot, hrest, ea, eb, hbl⟩ := HR.out
      have hmi := mrg_is RA.out RB.out
      have hln : l = mrg (numsOf a) (numsOf b) := list_of_all (by rw [hl, hmi.1]) fun i hi => hgot i (by rw [hmi.1] at hi; exact hi)
      rw [hln] at ea
      have EA := hide ea
      have HB := hide hbl
      have HM := hide hmi
      clear hl hgot hrest ea eb hbl hmi hln HR
      go_wp2_with (refine wpList_load_row rfl 34 _ rfl w1.heap.size rfl 34 (vals (mrg (numsOf a) (numsOf b))) (0, 0) _ EA.out Tryd.underlying34 rfl (regs_size HM.out) ?_)
      refine (impl_text _ HM.out _).mono ?_
      rintro e w5 ⟨rfl, hb5⟩
      have HB5 := hide (HB.out.trans (hb5.mono HB.out.size))
      clear hb5
      go_wp2
      go_ret
      exact ⟨ret_str HV.out.symm, HB5.out⟩

theorem impl_HllMerge (a b : ByteArray) (w : World) :
    Calls Tryd.prog 9 #[.string a, .string b] w fun e w' => e = .returned (.string (hllMerge a b)) ∧ Below w.heap.size w w' := by
  by_cases h : hllB a = false ∨ hllB b = false
  · exact impl_HllMerge_no a b h w
  · exact impl_HllMerge_yes a b (by cases ha : hllB a; exact absurd (Or.inl ha) h; rfl) (by cases hb : hllB b; exact absurd (Or.inr hb) h; rfl) w

end Go.Proofs.YtkopoonkedcpmadDoor
