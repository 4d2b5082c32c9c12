/- The marks in a row of runs: laid and looked for. -/
import Derived.Test.YtjcoejabpagaiaaMkEntry
import Derived.Test.YtjcoejabpagaiaaSplQ
import Derived.Test.YtjcoejabpagaiaaReg
namespace Go.Proofs.Ytjcoejabpagaiaa
set_option maxRecDepth 100000
open Go.RowKit Go.Deep

/-- The block of a run's row. -/
def blkR (r : RunV) : Nat := match r.a with
  | some p => p.block
  | none => 0
/-- How many marks lie ahead of the i-th run. -/
def kO (L : List RunV) (i : Nat) : Nat := ((L.take i).map fun r => r.es.length).sum * 4
theorem kO_zero (L : List RunV) : kO L 0 = 0 := by simp [kO]
theorem kO_succ {L : List RunV} {i : Nat} {r : RunV} (h : L[i]? = some r) : kO L (i + 1) = kO L i + r.es.length * 4 := by
  obtain ⟨hi, hri⟩ := List.getElem?_eq_some_iff.1 h
  unfold kO
  rw [List.take_succ_eq_append_getElem hi, List.map_append, List.sum_append, hri]
  simp [Nat.add_mul]
theorem kO_le (L : List RunV) : ∀ i k, kO L i ≤ kO L (i + k)
  | i, 0 => Nat.le_refl _
  | i, k + 1 => by
    have h := kO_le L i k
    cases e : L[i + k]? with
    | some r => rw [← Nat.add_assoc, kO_succ e]; omega
    | none =>
      have hl : L.length ≤ i + k := by simpa using e
      have e2 : kO L (i + (k + 1)) = kO L (i + k) := by
        unfold kO
        rw [List.take_of_length_le (by omega), List.take_of_length_le hl]
      rw [e2]; exact h
/-- Runs whose rows lie in blocks of their own, none of them the outer row's. -/
structure RunSt (gv : Nat) (L : List RunV) : Prop where
  at_ : ∀ r, r ∈ L → r.a = some ⟨blkR r, 0, none⟩
  far : ∀ r, r ∈ L → gv ≠ blkR r
  ap : ∀ (t u : Nat) (r s : RunV), L[t]? = some r → L[u]? = some s → t ≠ u → blkR r ≠ blkR s
/-- The first i runs are marked. -/
structure MkR (B gv : Nat) (L : List RunV) (i : Nat) (w x : World) : Prop where
  low : Below B w x
  row : ∀ t r, L[t]? = some r → x.cell? ⟨gv, t, none⟩ = some r.v
  wr : ∀ r, r ∈ L → B ≤ blkR r ∧ blkR r < x.heap.size ∧ ∀ j, j < r.es.length * 4 → (∃ u, x.cell? ⟨blkR r, j, none⟩ = some u) ∧ x.frozen? ⟨blkR r, j, none⟩ = false
  ok : ∀ t r, t < i → L[t]? = some r → ∀ j, j < r.es.length * 4 → x.cell? ⟨blkR r, j, none⟩ = some (mkCell kdEntryS (1 + kO L t) j)
theorem MkR.step {B gv i K n : Nat} {L : List RunV} {w x y : World} {r : RunV} (h : MkR B gv L i w x) (hs : RunSt gv L) (hr : L[i]? = some r) (hB : B ≤ x.heap.size) (hn : n = r.es.length * 4) (hK : K = 1 + kO L i) (k : Mk kdEntryS (blkR r) n K n x y) : MkR B gv L (i + 1) w y := by
  subst hn
  subst hK
  have hm := List.mem_of_getElem? hr
  have hlt : ∀ {p : Addr} {u : Value}, x.cell? p = some u → p.block < x.heap.size := fun h => World.block_lt_of_cell? _ _ h
  refine ⟨h.low.trans (k.mv.below hB (h.wr r hm).1), fun t s hts => ?_, fun s hs2 => ?_, fun t s ht hts j hj => ?_⟩
  · have h1 := h.row t s hts
    rw [k.mv.cell (p := ⟨gv, t, none⟩) (hlt h1) (hs.far r hm)]
    exact h1
  · obtain ⟨h1, h2, h3⟩ := h.wr s hs2
    refine ⟨h1, Nat.lt_of_lt_of_le h2 k.mv.size, fun j hj => ?_⟩
    by_cases e : blkR s = blkR r
    · obtain ⟨t, hts⟩ := List.getElem?_of_mem hs2
      have ht : t = i := by
        by_cases e2 : t = i
        · exact e2
        · exact absurd e (hs.ap t i s r hts hr e2)
      subst ht
      rw [hr] at hts
      obtain rfl : r = s := by simpa using hts
      exact k.wr j hj
    · obtain ⟨⟨u, hu⟩, hf⟩ := h3 j hj
      exact ⟨⟨u, by rw [k.mv.cell (p := ⟨blkR s, j, none⟩) h2 e]; exact hu⟩, by rw [k.mv.frozen (p := ⟨blkR s, j, none⟩) h2 e]; exact hf⟩
  · by_cases e : t = i
    · subst e
      rw [hr] at hts
      obtain rfl : r = s := by simpa using hts
      exact k.ok j hj
    · have h2 := (h.wr s (List.mem_of_getElem? hts)).2.1
      rw [k.mv.cell (p := ⟨blkR s, j, none⟩) h2 (hs.ap t i s r hts hr e)]
      exact h.ok t s (by omega) hts j hj

set_option maxHeartbeats 2000000 in
theorem laws_markRunS (B gv c : Nat) (va : Option Addr) (L : List RunV) (w : World) (hs : RunSt gv L) (hva : L = [] ∨ va = some ⟨gv, 0, none⟩) (hB : B ≤ w.heap.size) (hl : L.length ≤ 1048576) (hk : kO L L.length ≤ 1000000) (h : MkR B gv L 0 w w) :
    Calls Try.prog 12 #[.slice va L.length c, .int .i64 1] w fun e w' => e = .returned (.int .i64 ((1 + kO L L.length : Nat) : Int)) ∧ MkR B gv L L.length w w' := by
  have H0 := hide h
  have HK := hide hk
  clear h hk
  go_enter Try.func12, Try.ntmps12
  go_wp2
  go_loopw [1, 5] (fun q i wr => ∃ (k m : Nat), q = .int .i64 ((1 + m : Nat) : Int) ∧ i = .int .i64 (k : Int) ∧ k ≤ L.length ∧ Hid (m = kO L k) ∧ Hid (MkR B gv L k w wr)) (fun _ i _ => L.length - (intOf i).toNat)
  case atStart => exact ⟨0, 0, rfl, rfl, by omega, (kO_zero L).symm, H0⟩
  case round =>
    obtain ⟨k, m, rfl, rfl, hkl, HM, HR⟩ := hrel
    clear H0
    by_cases hlt : k < L.length
    · obtain ⟨r, hr⟩ : ∃ r, L[k]? = some r := ⟨_, List.getElem?_eq_getElem hlt⟩
      obtain rfl : va = some ⟨gv, 0, none⟩ := by
        rcases hva with h | h
        · rw [h] at hlt; simp at hlt
        · exact h
      have hki : (k : Int) < (L.length : Int) := by omega
      have hmem := List.mem_of_getElem? hr
      have hcell := HR.out.row k r hr
      have hra := hs.at_ r hmem
      unfold RunV.v at hcell
      rw [hra] at hcell
      have hke : kO L (k + 1) = kO L k + r.es.length * 4 := kO_succ hr
      have hkle := kO_le L (k + 1) (L.length - (k + 1))
      rw [show k + 1 + (L.length - (k + 1)) = L.length by omega] at hkle
      have hm2 : m + r.es.length * 4 ≤ 1000000 := by have h1 := HM.out; have h2 := HK.out; omega
      have hrl : r.es.length ≤ 1048576 := by omega
      have HKE := hide hke
      have HHR := hide hr
      clear hke hkle hr hra
      go_wp2_with fail
      refine (laws_markEntryS (1 + m) _ rfl (by omega) (some ⟨blkR r, 0, none⟩) r.es.length r.p (blkR r) wr hrl (.inr rfl) ((HR.out.wr r hmem).2.2)).mono ?_
      rintro e w1 ⟨rfl, hM⟩
      have hz : B ≤ wr.heap.size := Nat.le_trans hB HR.out.low.size
      have HR1 := hide (HR.out.step hs HHR.out hz rfl (by rw [HM.out]) hM)
      have HM1 : Hid (m + r.es.length * 4 = kO L (k + 1)) := by show _ = _; rw [HKE.out, ← HM.out]
      clear hM hz HR hcell
      go_wp2
      exact ⟨⟨k + 1, m + r.es.length * 4, by first | rfl | (congr 1; push_cast; omega), by go_num, by omega, HM1, HR1⟩, by simp [intOf]; omega⟩
    · obtain rfl : k = L.length := by omega
      go_wp2
      go_ret
      exact ⟨by rw [HM.out]; rfl, HR.out⟩

set_option maxHeartbeats 2000000 in
theorem laws_heldRunS (B gv c : Nat) (va : Option Addr) (L : List RunV) (w0 w : World) (hs : RunSt gv L) (hva : L = [] ∨ va = some ⟨gv, 0, none⟩) (hl : L.length ≤ 1048576) (hk : kO L L.length ≤ 1000000) (h : MkR B gv L L.length w0 w) :
    Calls Try.prog 13 #[.slice va L.length c, .int .i64 1] w fun e w' => e = .returned (.int .i64 ((1 + kO L L.length : Nat) : Int)) ∧ Below w.heap.size w w' := by
  have H0 := hide h
  have HK := hide hk
  have HB0 := hide (Below.refl w.heap.size w)
  clear h hk
  go_enter Try.func13, Try.ntmps13
  go_wp2
  go_loopw [1, 5] (fun q i wr => ∃ (k m : Nat), q = .int .i64 ((1 + m : Nat) : Int) ∧ i = .int .i64 (k : Int) ∧ k ≤ L.length ∧ Hid (m = kO L k) ∧ Hid (Below w.heap.size w wr)) (fun _ i _ => L.length - (intOf i).toNat)
  case atStart => exact ⟨0, 0, rfl, rfl, by omega, (kO_zero L).symm, HB0⟩
  case round =>
    obtain ⟨k, m, rfl, rfl, hkl, HM, HB⟩ := hrel
    clear HB0
    by_cases hlt : k < L.length
    · obtain ⟨r, hr⟩ : ∃ r, L[k]? = some r := ⟨_, List.getElem?_eq_getElem hlt⟩
      obtain rfl : va = some ⟨gv, 0, none⟩ := by
        rcases hva with h | h
        · rw [h] at hlt; simp at hlt
        · exact h
      have hki : (k : Int) < (L.length : Int) := by omega
      have hmem := List.mem_of_getElem? hr
      have hcell := keepc HB.out (H0.out.row k r hr)
      have hra := hs.at_ r hmem
      unfold RunV.v at hcell
      rw [hra] at hcell
      have hke : kO L (k + 1) = kO L k + r.es.length * 4 := kO_succ hr
      have hkle := kO_le L (k + 1) (L.length - (k + 1))
      rw [show k + 1 + (L.length - (k + 1)) = L.length by omega] at hkle
      have hm2 : m + r.es.length * 4 ≤ 1000000 := by have h1 := HM.out; have h2 := HK.out; omega
      have hrl : r.es.length ≤ 1048576 := by omega
      have hok : ∀ j, j < r.es.length * 4 → wr.cell? ⟨blkR r, j, none⟩ = some (mkCell kdEntryS (1 + m) j) := fun j hj => by
        rw [HM.out]
        exact keepc HB.out (H0.out.ok k r hlt hr j hj)
      have HOK := hide hok
      have HKE := hide hke
      clear hke hkle hr hra hok
      go_wp2_with fail
      refine (laws_heldEntryS (1 + m) _ rfl (by omega) (some ⟨blkR r, 0, none⟩) r.es.length r.p (blkR r) wr hrl (.inr rfl) HOK.out).mono ?_
      rintro e w1 ⟨rfl, hb1⟩
      have HB1 := hide (HB.out.trans (hb1.mono HB.out.size))
      have HM1 : Hid (m + r.es.length * 4 = kO L (k + 1)) := by show _ = _; rw [HKE.out, ← HM.out]
      have hneg : ¬ (((1 + m + r.es.length * 4 : Nat) : Int) < 0) := by omega
      clear hb1 HB hcell HOK
      go_wp2
      exact ⟨⟨k + 1, m + r.es.length * 4, by first | rfl | (congr 1; push_cast; omega), by go_num, by omega, HM1, HB1⟩, by simp [intOf]; omega⟩
    · obtain rfl : k = L.length := by omega
      go_wp2
      go_ret
      exact ⟨by rw [HM.out]; rfl, HB.out⟩

end Go.Proofs.Ytjcoejabpagaiaa
