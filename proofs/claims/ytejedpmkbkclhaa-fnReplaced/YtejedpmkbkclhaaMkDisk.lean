/- The marks that the laws lay into a disk (three rows), and look for; a disk that an answer owns. (By gen_mkdisk.py.) -/
import Derived.Test.YtejedpmkbkclhaaMkFile
import Derived.Test.YtejedpmkbkclhaaMkDOp
import Derived.Test.YtejedpmkbkclhaaMine
import Derived.Test.YtejedpmkbkclhaaDCp
namespace Go.Proofs.Ytejedpmkbkclhaa
set_option maxRecDepth 100000
open Go.RowKit Go.Deep

/-- Of block g something may have turned, if n is not 0; nothing else. -/
structure Mz (n g : Nat) (w w' : World) : Prop where
  os : w'.os = w.os
  tape : w'.tape = w.tape
  output : w'.output = w.output
  size : w.heap.size ≤ w'.heap.size
  block : ∀ k, k < w.heap.size → (n = 0 ∨ k ≠ g) → w'.heap[k]? = w.heap[k]?
theorem Mz.cell {n g : Nat} {w w' : World} (h : Mz n g w w') {p : Addr} (hp : p.block < w.heap.size) (hg : n = 0 ∨ p.block ≠ g) : w'.cell? p = w.cell? p := World.cell?_of_block (h.block p.block hp hg)
theorem Mz.frozen {n g : Nat} {w w' : World} (h : Mz n g w w') {p : Addr} (hp : p.block < w.heap.size) (hg : n = 0 ∨ p.block ≠ g) : w'.frozen? p = w.frozen? p := World.frozen?_of_block (h.block p.block hp hg)
theorem Mz.box {n g F : Nat} {w w' : World} {cs : Array Value} {t : TypeId} (h : Mz n g w w') (hb : BoxIs w F cs t) (hg : n = 0 ∨ F ≠ g) : BoxIs w' F cs t := (h.block F hb.lt hg).trans hb
theorem marksFile (K0 : Nat) (kv : Int) (hkv : kv = (K0 : Int)) (hK : 1 ≤ K0 ∧ K0 ≤ 50000000) (a : Option Addr) (len cap g : Nat) (w : World) (hl : len ≤ 1048576) (hg : len = 0 ∨ a = some ⟨g, 0, none⟩) (hw : ∀ j, j < len * 2 → (∃ v, w.cell? ⟨g, j, none⟩ = some v) ∧ w.frozen? ⟨g, j, none⟩ = false) :
    Calls Try.prog 59 #[.slice a len cap, .int .i64 kv] w fun e w' => e = .returned (.int .i64 ((K0 + len * 2 : Nat) : Int)) ∧ Mz len g w w' ∧ ∀ j, j < len * 2 → w'.cell? ⟨g, j, none⟩ = some (mkCell kdFileS K0 j) := by
  by_cases h0 : len = 0
  · subst h0
    refine (laws_markFileS K0 kv hkv hK a 0 cap w.heap.size w hl (.inl rfl) (fun j hj => by omega)).mono ?_
    rintro e w' ⟨he, hm⟩
    exact ⟨he, ⟨hm.mv.os, hm.mv.tape, hm.mv.output, hm.mv.size, fun i hi _ => hm.mv.block i hi (by omega)⟩, fun j hj => by omega⟩
  · refine (laws_markFileS K0 kv hkv hK a len cap g w hl hg hw).mono ?_
    rintro e w' ⟨he, hm⟩
    exact ⟨he, ⟨hm.mv.os, hm.mv.tape, hm.mv.output, hm.mv.size, fun i hi hh => hm.mv.block i hi (by omega)⟩, hm.ok⟩
theorem marksDOp (K0 : Nat) (kv : Int) (hkv : kv = (K0 : Int)) (hK : 1 ≤ K0 ∧ K0 ≤ 50000000) (a : Option Addr) (len cap g : Nat) (w : World) (hl : len ≤ 1048576) (hg : len = 0 ∨ a = some ⟨g, 0, none⟩) (hw : ∀ j, j < len * 4 → (∃ v, w.cell? ⟨g, j, none⟩ = some v) ∧ w.frozen? ⟨g, j, none⟩ = false) :
    Calls Try.prog 60 #[.slice a len cap, .int .i64 kv] w fun e w' => e = .returned (.int .i64 ((K0 + len * 4 : Nat) : Int)) ∧ Mz len g w w' ∧ ∀ j, j < len * 4 → w'.cell? ⟨g, j, none⟩ = some (mkCell kdDOpS K0 j) := by
  by_cases h0 : len = 0
  · subst h0
    refine (laws_markDOpS K0 kv hkv hK a 0 cap w.heap.size w hl (.inl rfl) (fun j hj => by omega)).mono ?_
    rintro e w' ⟨he, hm⟩
    exact ⟨he, ⟨hm.mv.os, hm.mv.tape, hm.mv.output, hm.mv.size, fun i hi _ => hm.mv.block i hi (by omega)⟩, fun j hj => by omega⟩
  · refine (laws_markDOpS K0 kv hkv hK a len cap g w hl hg hw).mono ?_
    rintro e w' ⟨he, hm⟩
    exact ⟨he, ⟨hm.mv.os, hm.mv.tape, hm.mv.output, hm.mv.size, fun i hi hh => hm.mv.block i hi (by omega)⟩, hm.ok⟩
/-- Of a disk's rows something may have turned, nothing else. -/
structure M3 (c : DiskC) (g0 g1 g2 : Nat) (w w' : World) : Prop where
  os : w'.os = w.os
  tape : w'.tape = w.tape
  output : w'.output = w.output
  size : w.heap.size ≤ w'.heap.size
  block : ∀ k, k < w.heap.size → (c.n0 = 0 ∨ k ≠ g0) → (c.n1 = 0 ∨ k ≠ g1) → (c.n2 = 0 ∨ k ≠ g2) → w'.heap[k]? = w.heap[k]?
theorem M3.below {c : DiskC} {g0 g1 g2 B : Nat} {w w' : World} (h : M3 c g0 g1 g2 w w') (hB : B ≤ w.heap.size) (h0 : c.n0 = 0 ∨ B ≤ g0) (h1 : c.n1 = 0 ∨ B ≤ g1) (h2 : c.n2 = 0 ∨ B ≤ g2) : Below B w w' :=
  ⟨h.os, h.tape, h.output, h.size, fun k hk => h.block k (by omega) (by omega) (by omega) (by omega)⟩
theorem M3.box {c : DiskC} {g0 g1 g2 F : Nat} {w w' : World} {cs : Array Value} {t : TypeId} (h : M3 c g0 g1 g2 w w') (hb : BoxIs w F cs t) (h0 : c.n0 = 0 ∨ F ≠ g0) (h1 : c.n1 = 0 ∨ F ≠ g1) (h2 : c.n2 = 0 ∨ F ≠ g2) : BoxIs w' F cs t := (h.block F hb.lt h0 h1 h2).trans hb
/-- The cells of a disk's rows as they are when they are marked. -/
structure Ok3 (c : DiskC) (K0 g0 g1 g2 : Nat) (w : World) : Prop where
  c0 : ∀ j, j < c.n0 * 2 → w.cell? ⟨g0, j, none⟩ = some (mkCell kdFileS K0 j)
  c1 : ∀ j, j < c.n1 * 2 → w.cell? ⟨g1, j, none⟩ = some (mkCell kdFileS (K0 + c.n0 * 2) j)
  c2 : ∀ j, j < c.n2 * 4 → w.cell? ⟨g2, j, none⟩ = some (mkCell kdDOpS (K0 + c.n0 * 2 + c.n1 * 2) j)
theorem Ok3.next {c : DiskC} {K0 g0 g1 g2 : Nat} {w w' : World} (h : Ok3 c K0 g0 g1 g2 w) (hb : Below w.heap.size w w') : Ok3 c K0 g0 g1 g2 w' :=
  ⟨fun j hj => keepc hb (h.c0 j hj), fun j hj => keepc hb (h.c1 j hj), fun j hj => keepc hb (h.c2 j hj)⟩
theorem Ok3.hid {c : DiskC} {K0 g0 g1 g2 : Nat} {w : World} (h : Ok3 c K0 g0 g1 g2 w) : Hid (Ok3 c K0 g0 g1 g2 w) := h
/-- Where its rows lie: each by itself, to be written into. -/
structure At3 (w : World) (a0 a1 a2 : Option Addr) (c : DiskC) (g0 g1 g2 : Nat) : Prop where
  a0 : c.n0 = 0 ∨ a0 = some ⟨g0, 0, none⟩
  a1 : c.n1 = 0 ∨ a1 = some ⟨g1, 0, none⟩
  a2 : c.n2 = 0 ∨ a2 = some ⟨g2, 0, none⟩
  w0 : ∀ j, j < c.n0 * 2 → (∃ v, w.cell? ⟨g0, j, none⟩ = some v) ∧ w.frozen? ⟨g0, j, none⟩ = false
  w1 : ∀ j, j < c.n1 * 2 → (∃ v, w.cell? ⟨g1, j, none⟩ = some v) ∧ w.frozen? ⟨g1, j, none⟩ = false
  w2 : ∀ j, j < c.n2 * 4 → (∃ v, w.cell? ⟨g2, j, none⟩ = some v) ∧ w.frozen? ⟨g2, j, none⟩ = false
  l0 : c.n0 = 0 ∨ g0 < w.heap.size
  l1 : c.n1 = 0 ∨ g1 < w.heap.size
  l2 : c.n2 = 0 ∨ g2 < w.heap.size
  d01 : c.n0 = 0 ∨ c.n1 = 0 ∨ g0 ≠ g1
  d02 : c.n0 = 0 ∨ c.n2 = 0 ∨ g0 ≠ g2
  d12 : c.n1 = 0 ∨ c.n2 = 0 ∨ g1 ≠ g2
theorem At3.hid {w : World} {a0 a1 a2 : Option Addr} {c : DiskC} {g0 g1 g2 : Nat} (h : At3 w a0 a1 a2 c g0 g1 g2) : Hid (At3 w a0 a1 a2 c g0 g1 g2) := h
theorem wr_next {w w' : World} {g n : Nat} (h : ∀ j, j < n → (∃ v, w.cell? ⟨g, j, none⟩ = some v) ∧ w.frozen? ⟨g, j, none⟩ = false) (hb : Below w.heap.size w w') : ∀ j, j < n → (∃ v, w'.cell? ⟨g, j, none⟩ = some v) ∧ w'.frozen? ⟨g, j, none⟩ = false := fun j hj => by
  obtain ⟨⟨v, hv⟩, hf⟩ := h j hj
  exact ⟨⟨v, keepc hb hv⟩, (hb.frozen (p := ⟨g, j, none⟩) (World.block_lt_of_cell? _ ⟨g, j, none⟩ hv)).trans hf⟩
theorem wr_mz {w w' : World} {g m n x : Nat} (h : ∀ j, j < n → (∃ v, w.cell? ⟨g, j, none⟩ = some v) ∧ w.frozen? ⟨g, j, none⟩ = false) (hb : Mz m x w w') (hx : m = 0 ∨ g ≠ x) : ∀ j, j < n → (∃ v, w'.cell? ⟨g, j, none⟩ = some v) ∧ w'.frozen? ⟨g, j, none⟩ = false := fun j hj => by
  obtain ⟨⟨v, hv⟩, hf⟩ := h j hj
  have hl := World.block_lt_of_cell? _ ⟨g, j, none⟩ hv
  exact ⟨⟨v, (hb.cell (p := ⟨g, j, none⟩) hl hx).trans hv⟩, (hb.frozen (p := ⟨g, j, none⟩) hl hx).trans hf⟩
theorem sw1 {a b x y : Nat} (h : a = 0 ∨ b = 0 ∨ x ≠ y) (hb : ¬ b = 0) : a = 0 ∨ y ≠ x := by
  rcases h with h | h | h
  · exact .inl h
  · exact absurd h hb
  · exact .inr (Ne.symm h)
theorem sw2 {a b x y : Nat} (h : a = 0 ∨ b = 0 ∨ x ≠ y) (ha : ¬ a = 0) : b = 0 ∨ x ≠ y := by
  rcases h with h | h | h
  · exact absurd h ha
  · exact .inl h
  · exact .inr h
theorem At3.next {w w' : World} {a0 a1 a2 : Option Addr} {c : DiskC} {g0 g1 g2 : Nat} (h : At3 w a0 a1 a2 c g0 g1 g2) (hb : Below w.heap.size w w') : At3 w' a0 a1 a2 c g0 g1 g2 := by
  have hs := hb.size
  exact ⟨h.a0, h.a1, h.a2, wr_next h.w0 hb, wr_next h.w1 hb, wr_next h.w2 hb, by have := h.l0; omega, by have := h.l1; omega, by have := h.l2; omega, h.d01, h.d02, h.d12⟩

set_option maxHeartbeats 1000000 in
set_option linter.unusedVariables false in
theorem laws_markDisk (K0 : Nat) (kv : Int) (hkv : kv = (K0 : Int)) (hK : 1 ≤ K0 ∧ K0 ≤ 30000000) (a0 : Option Addr) (p0 g0 : Nat) (a1 : Option Addr) (p1 g1 : Nat) (a2 : Option Addr) (p2 g2 : Nat) (c : DiskC) (w : World) (hl : c.Fit) (hA : At3 w a0 a1 a2 c g0 g1 g2) :
    Calls Try.prog 21 #[.agg #[.slice a0 c.n0 p0, .slice a1 c.n1 p1, .slice a2 c.n2 p2], .int .i64 kv] w fun e w' => e = .returned (.int .i64 ((K0 + c.n0 * 2 + c.n1 * 2 + c.n2 * 4 : Nat) : Int)) ∧ M3 c g0 g1 g2 w w' ∧ Ok3 c K0 g0 g1 g2 w' := by
  obtain ⟨⟨hl0, hl1, hl2⟩, _⟩ := hl
  have hb := below_one w (.cells #[.slice a0 c.n0 p0, .slice a1 c.n1 p1, .slice a2 c.n2 p2] 31)
  have hB : BoxIs (w.alloc (.cells #[.slice a0 c.n0 p0, .slice a1 c.n1 p1, .slice a2 c.n2 p2] 31)) w.heap.size #[.slice a0 c.n0 p0, .slice a1 c.n1 p1, .slice a2 c.n2 p2] 31 := BoxIs.new _ _ _ rfl
  have HA := (hA.next hb).hid
  have HB := hB.hid
  have HL := hide hb
  have hq0 : c.n0 = 0 ∨ w.heap.size ≠ g0 := by have := hA.l0; omega
  have hq1 : c.n1 = 0 ∨ w.heap.size ≠ g1 := by have := hA.l1; omega
  subst hkv
  clear hb hB hA
  go_enter Try.func21, Try.ntmps21
  go_wp2_with fail
  generalize w.alloc (.cells #[.slice a0 c.n0 p0, .slice a1 c.n1 p1, .slice a2 c.n2 p2] 31) = W at HA HB HL ⊢
  refine (marksFile K0 _ rfl ⟨hK.1, by omega⟩ a0 c.n0 p0 g0 W hl0 HA.out.a0 HA.out.w0).mono ?_
  rintro e w1 ⟨rfl, hM, hok0⟩
  have HM0 := hide hM
  have HK0 := hide hok0
  have HB1 := (hM.box HB.out hq0).hid
  have HW1 := hide (fun j (hj : j < c.n1 * 2) => wr_mz HA.out.w1 hM (sw1 HA.out.d01 (by omega)) j hj)
  have HW2 := hide (fun j (hj : j < c.n2 * 4) => wr_mz HA.out.w2 hM (sw1 HA.out.d02 (by omega)) j hj)
  clear hM hok0 HB
  have k0 := HB1.out.cell 0
  have k1 := HB1.out.cell 1
  have k2 := HB1.out.cell 2
  go_wp2_with fail
  clear k0 k1 k2
  refine (marksFile (K0 + c.n0 * 2) _ rfl ⟨by omega, by omega⟩ a1 c.n1 p1 g1 w1 hl1 HA.out.a1 HW1.out).mono ?_
  rintro e w2 ⟨rfl, hM, hok1⟩
  have HM1 := hide hM
  have HK1 := hide hok1
  have HB2 := (hM.box HB1.out hq1).hid
  have HW22 := hide (fun j (hj : j < c.n2 * 4) => wr_mz HW2.out hM (sw1 HA.out.d12 (by omega)) j hj)
  clear hM hok1 HB1 HW1 HW2
  have k0 := HB2.out.cell 0
  have k1 := HB2.out.cell 1
  have k2 := HB2.out.cell 2
  go_wp2_with fail
  clear k0 k1 k2
  refine (marksDOp (K0 + c.n0 * 2 + c.n1 * 2) _ rfl ⟨by omega, by omega⟩ a2 c.n2 p2 g2 w2 hl2 HA.out.a2 HW22.out).mono ?_
  rintro e w3 ⟨rfl, hM, hok2⟩
  have HM2 := hide hM
  have HK2 := hide hok2
  clear hM hok2 HB2 HW22
  go_wp2
  go_ret
  refine ⟨rfl, ⟨?_, ?_, ?_, ?_, fun k hk h0 h1 h2 => ?_⟩, ⟨fun j hj => ?_, fun j hj => ?_, HK2.out⟩⟩
  · rw [HM2.out.os, HM1.out.os, HM0.out.os, HL.out.os]
  · rw [HM2.out.tape, HM1.out.tape, HM0.out.tape, HL.out.tape]
  · rw [HM2.out.output, HM1.out.output, HM0.out.output, HL.out.output]
  · have s0 := HL.out.size; have s1 := HM0.out.size; have s2 := HM1.out.size; have s3 := HM2.out.size; omega
  · have s0 := HL.out.size; have s1 := HM0.out.size; have s2 := HM1.out.size
    rw [HM2.out.block k (by omega) h2, HM1.out.block k (by omega) h1, HM0.out.block k (by omega) h0, HL.out.block k hk]
  · have hc := HK0.out j hj
    have hl := World.block_lt_of_cell? _ ⟨g0, j, none⟩ hc
    have s2 := HM1.out.size
    have h1 := HM1.out.cell (p := ⟨g0, j, none⟩) hl (sw2 HA.out.d01 (by omega))
    rw [HM2.out.cell (p := ⟨g0, j, none⟩) (Nat.lt_of_lt_of_le hl s2) (sw2 HA.out.d02 (by omega)), h1]
    exact hc
  · have hc := HK1.out j hj
    have hl := World.block_lt_of_cell? _ ⟨g1, j, none⟩ hc
    rw [HM2.out.cell (p := ⟨g1, j, none⟩) hl (sw2 HA.out.d12 (by omega))]
    exact hc

set_option maxHeartbeats 1000000 in
set_option linter.unusedVariables false in
theorem laws_heldDisk (K0 : Nat) (kv : Int) (hkv : kv = (K0 : Int)) (hK : 1 ≤ K0 ∧ K0 ≤ 30000000) (a0 : Option Addr) (p0 g0 : Nat) (a1 : Option Addr) (p1 g1 : Nat) (a2 : Option Addr) (p2 g2 : Nat) (c : DiskC) (w : World) (hl : c.Fit) (h0 : c.n0 = 0 ∨ a0 = some ⟨g0, 0, none⟩) (h1 : c.n1 = 0 ∨ a1 = some ⟨g1, 0, none⟩) (h2 : c.n2 = 0 ∨ a2 = some ⟨g2, 0, none⟩) (hok : Ok3 c K0 g0 g1 g2 w) :
    Calls Try.prog 22 #[.agg #[.slice a0 c.n0 p0, .slice a1 c.n1 p1, .slice a2 c.n2 p2], .int .i64 kv] w fun e w' => e = .returned (.int .i64 ((K0 + c.n0 * 2 + c.n1 * 2 + c.n2 * 4 : Nat) : Int)) ∧ Below w.heap.size w w' := by
  obtain ⟨⟨hl0, hl1, hl2⟩, _⟩ := hl
  have hb := below_one w (.cells #[.slice a0 c.n0 p0, .slice a1 c.n1 p1, .slice a2 c.n2 p2] 31)
  have hB : BoxIs (w.alloc (.cells #[.slice a0 c.n0 p0, .slice a1 c.n1 p1, .slice a2 c.n2 p2] 31)) w.heap.size #[.slice a0 c.n0 p0, .slice a1 c.n1 p1, .slice a2 c.n2 p2] 31 := BoxIs.new _ _ _ rfl
  have HK := (hok.next hb).hid
  have HB := hB.hid
  have HL := hide hb
  subst hkv
  clear hb hB hok
  go_enter Try.func22, Try.ntmps22
  go_wp2_with fail
  generalize w.alloc (.cells #[.slice a0 c.n0 p0, .slice a1 c.n1 p1, .slice a2 c.n2 p2] 31) = W at HK HB HL ⊢
  refine (laws_heldFileS K0 _ rfl ⟨hK.1, by omega⟩ a0 c.n0 p0 g0 W hl0 h0 HK.out.c0).mono ?_
  rintro e w1 ⟨rfl, hb⟩
  have HL1 := hide (HL.out.trans (hb.mono HL.out.size))
  have HK1 := (HK.out.next hb).hid
  have HB1 := (HB.out.next hb).hid
  have q0 : ¬ (((K0 + c.n0 * 2 : Nat) : Int) < 0) := by omega
  clear hb HL HK HB
  have k0 := HB1.out.cell 0
  have k1 := HB1.out.cell 1
  have k2 := HB1.out.cell 2
  go_wp2_with fail
  clear k0 k1 k2 q0
  refine (laws_heldFileS (K0 + c.n0 * 2) _ rfl ⟨by omega, by omega⟩ a1 c.n1 p1 g1 w1 hl1 h1 HK1.out.c1).mono ?_
  rintro e w2 ⟨rfl, hb⟩
  have HL2 := hide (HL1.out.trans (hb.mono HL1.out.size))
  have HK2 := (HK1.out.next hb).hid
  have HB2 := (HB1.out.next hb).hid
  have q0 : ¬ (((K0 + c.n0 * 2 + c.n1 * 2 : Nat) : Int) < 0) := by omega
  clear hb HL1 HK1 HB1
  have k0 := HB2.out.cell 0
  have k1 := HB2.out.cell 1
  have k2 := HB2.out.cell 2
  go_wp2_with fail
  clear k0 k1 k2 q0
  refine (laws_heldDOpS (K0 + c.n0 * 2 + c.n1 * 2) _ rfl ⟨by omega, by omega⟩ a2 c.n2 p2 g2 w2 hl2 h2 HK2.out.c2).mono ?_
  rintro e w3 ⟨rfl, hb⟩
  have HL3 := hide (HL2.out.trans (hb.mono HL2.out.size))
  have q0 : ¬ (((K0 + c.n0 * 2 + c.n1 * 2 + c.n2 * 4 : Nat) : Int) < 0) := by omega
  clear hb HL2 HK2 HB2
  go_wp2
  go_ret
  exact ⟨rfl, HL3.out⟩

/-- A disk out of lists. -/
def dc (l s : List File1) (q : List DOp1) : DiskC := ⟨l.length, fnFile l, s.length, fnFile s, q.length, fnDOp q⟩
/-- A disk that an answer owns. -/
def DiskOwn (w : World) (B : Nat) (v : Value) (c : DiskC) : Prop := ∃ a0 p0 a1 p1 a2 p2, v = .agg #[.slice a0 c.n0 p0, .slice a1 c.n1 p1, .slice a2 c.n2 p2] ∧ Mine w B 96 2 a0 p0 c.n0 (fileCell c.r0) ∧ Mine w B 96 2 a1 p1 c.n1 (fileCell c.r1) ∧ Mine w B 40 4 a2 p2 c.n2 (dOpCell c.r2) ∧ (c.n1 = 0 ∨ ∀ g, a0 = some ⟨g, 0, none⟩ → a1 ≠ some ⟨g, 0, none⟩)
theorem DiskMade.own {w : World} {B : Nat} {v : Value} {l s : List File1} {q : List DOp1} (h : DiskMade w B v l s q) : DiskOwn w B v (dc l s q) := by
  obtain ⟨v0, v1, v2, rfl, h0, h1, h2, h3⟩ := h
  obtain ⟨a0, p0, rfl, m0⟩ := h0.mine
  obtain ⟨a1, p1, rfl, m1⟩ := h1.mine
  obtain ⟨a2, p2, rfl, m2⟩ := h2.mine
  refine ⟨a0, p0, a1, p1, a2, p2, rfl, m0, m1, m2, ?_⟩
  rcases h3 with rfl | h3 | h3
  · exact .inl rfl
  · refine .inr fun g e => ?_
    rw [e] at h3; simp [Value.ownBlock] at h3
  · refine .inr fun g e e2 => ?_
    rw [e, e2] at h3; simp [Value.ownBlock] at h3
theorem DiskIs.of_mine {w : World} {B : Nat} {a0 : Option Addr} {p0 : Nat} {a1 : Option Addr} {p1 : Nat} {a2 : Option Addr} {p2 : Nat} {c : DiskC} (h0 : Mine w B 96 2 a0 p0 c.n0 (fileCell c.r0)) (h1 : Mine w B 96 2 a1 p1 c.n1 (fileCell c.r1)) (h2 : Mine w B 40 4 a2 p2 c.n2 (dOpCell c.r2)) : DiskIs w (.agg #[.slice a0 c.n0 p0, .slice a1 c.n1 p1, .slice a2 c.n2 p2]) c :=
  ⟨a0, p0, a1, p1, a2, p2, rfl, fileAt_mine h0, fileAt_mine h1, dOpAt_mine h2⟩
theorem DiskOwn.is {w : World} {B : Nat} {v : Value} {c : DiskC} (h : DiskOwn w B v c) : DiskIs w v c := by
  obtain ⟨a0, p0, a1, p1, a2, p2, rfl, m0, m1, m2, _⟩ := h
  exact DiskIs.of_mine m0 m1 m2
/-- Its rows, taken together. -/
structure Mine3 (w : World) (B : Nat) (a0 : Option Addr) (p0 : Nat) (a1 : Option Addr) (p1 : Nat) (a2 : Option Addr) (p2 : Nat) (c : DiskC) : Prop where
  m0 : Mine w B 96 2 a0 p0 c.n0 (fileCell c.r0)
  m1 : Mine w B 96 2 a1 p1 c.n1 (fileCell c.r1)
  m2 : Mine w B 40 4 a2 p2 c.n2 (dOpCell c.r2)
  ap : c.n1 = 0 ∨ ∀ g, a0 = some ⟨g, 0, none⟩ → a1 ≠ some ⟨g, 0, none⟩
theorem DiskOwn.mine {w : World} {B : Nat} {v : Value} {c : DiskC} (h : DiskOwn w B v c) : ∃ a0 p0 a1 p1 a2 p2, v = .agg #[.slice a0 c.n0 p0, .slice a1 c.n1 p1, .slice a2 c.n2 p2] ∧ Mine3 w B a0 p0 a1 p1 a2 p2 c := by
  obtain ⟨a0, p0, a1, p1, a2, p2, hv, m0, m1, m2, ha⟩ := h
  exact ⟨a0, p0, a1, p1, a2, p2, hv, ⟨m0, m1, m2, ha⟩⟩
theorem Mine3.is {w : World} {B : Nat} {a0 : Option Addr} {p0 : Nat} {a1 : Option Addr} {p1 : Nat} {a2 : Option Addr} {p2 : Nat} {c : DiskC} (h : Mine3 w B a0 p0 a1 p1 a2 p2 c) : DiskIs w (.agg #[.slice a0 c.n0 p0, .slice a1 c.n1 p1, .slice a2 c.n2 p2]) c := DiskIs.of_mine h.m0 h.m1 h.m2
theorem Mine3.next {w w' : World} {B : Nat} {a0 : Option Addr} {p0 : Nat} {a1 : Option Addr} {p1 : Nat} {a2 : Option Addr} {p2 : Nat} {c : DiskC} (h : Mine3 w B a0 p0 a1 p1 a2 p2 c) (hb : Below w.heap.size w w') : Mine3 w' B a0 p0 a1 p1 a2 p2 c := ⟨h.m0.next hb, h.m1.next hb, h.m2.next hb, h.ap⟩
theorem Mine3.hid {w : World} {B : Nat} {a0 : Option Addr} {p0 : Nat} {a1 : Option Addr} {p1 : Nat} {a2 : Option Addr} {p2 : Nat} {c : DiskC} (h : Mine3 w B a0 p0 a1 p1 a2 p2 c) : Hid (Mine3 w B a0 p0 a1 p1 a2 p2 c) := h
theorem Mine3.m3 {w w' : World} {B : Nat} {a0 : Option Addr} {p0 : Nat} {a1 : Option Addr} {p1 : Nat} {a2 : Option Addr} {p2 : Nat} {c d : DiskC} {g0 g1 g2 : Nat} (h : Mine3 w B a0 p0 a1 p1 a2 p2 c) (hm : M3 d g0 g1 g2 w w') (h0 : d.n0 = 0 ∨ g0 < B) (h1 : d.n1 = 0 ∨ g1 < B) (h2 : d.n2 = 0 ∨ g2 < B) : Mine3 w' B a0 p0 a1 p1 a2 p2 c :=
  ⟨h.m0.block fun g hg hl => hm.block g hl (by omega) (by omega) (by omega), h.m1.block fun g hg hl => hm.block g hl (by omega) (by omega) (by omega), h.m2.block fun g hg hl => hm.block g hl (by omega) (by omega) (by omega), h.ap⟩
theorem Mine.place {w : World} {B : Nat} {ty : TypeId} {k : Nat} {a : Option Addr} {p n : Nat} {f : Nat → Value} (h : Mine w B ty k a p n f) : ∃ g, (n = 0 ∨ (a = some ⟨g, 0, none⟩ ∧ B ≤ g ∧ g < w.heap.size ∧ ∃ cur, w.heap[g]? = some (.cells cur ty))) ∧ ∀ j, j < n * k → (∃ v, w.cell? ⟨g, j, none⟩ = some v) ∧ w.frozen? ⟨g, j, none⟩ = false := by
  rcases h with h | ⟨g, cur, ha, hg, hh, hn, hc⟩
  · exact ⟨0, .inl h.2.2, fun j hj => by rw [h.2.2, Nat.zero_mul] at hj; omega⟩
  · have hb : BoxIs w g cur ty := hh
    exact ⟨g, .inr ⟨ha, hg, (Array.getElem?_eq_some_iff.1 hh).1, cur, hh⟩, fun j hj => ⟨⟨_, (hb.cell j).trans (hc j hj)⟩, hb.free j⟩⟩
/-- What its rows give those who write into them. -/
theorem Mine3.at3 {w : World} {B : Nat} {a0 : Option Addr} {p0 : Nat} {a1 : Option Addr} {p1 : Nat} {a2 : Option Addr} {p2 : Nat} {c : DiskC} (h : Mine3 w B a0 p0 a1 p1 a2 p2 c) : ∃ g0 g1 g2, At3 w a0 a1 a2 c g0 g1 g2 ∧ (c.n0 = 0 ∨ B ≤ g0) ∧ (c.n1 = 0 ∨ B ≤ g1) ∧ (c.n2 = 0 ∨ B ≤ g2) := by
  obtain ⟨g0, h0, w0⟩ := h.m0.place
  obtain ⟨g1, h1, w1⟩ := h.m1.place
  obtain ⟨g2, h2, w2⟩ := h.m2.place
  have hty : ∀ (g : Nat) (x y : Array Value), w.heap[g]? = some (.cells x 96) → w.heap[g]? = some (.cells y 40) → False := fun g x y e1 e2 => by
    rw [e1] at e2
    simp only [Option.some.injEq, Obj.cells.injEq] at e2
    exact absurd e2.2.1 (by decide)
  refine ⟨g0, g1, g2, ⟨?_, ?_, ?_, w0, w1, w2, ?_, ?_, ?_, ?_, ?_, ?_⟩, ?_, ?_, ?_⟩
  · rcases h0 with h | h
    · exact .inl h
    · exact .inr h.1
  · rcases h1 with h | h
    · exact .inl h
    · exact .inr h.1
  · rcases h2 with h | h
    · exact .inl h
    · exact .inr h.1
  · rcases h0 with h | h
    · exact .inl h
    · exact .inr h.2.2.1
  · rcases h1 with h | h
    · exact .inl h
    · exact .inr h.2.2.1
  · rcases h2 with h | h
    · exact .inl h
    · exact .inr h.2.2.1
  · rcases h0 with e | ⟨e0, _⟩
    · exact .inl e
    rcases h1 with e | ⟨e1, _⟩
    · exact .inr (.inl e)
    refine .inr ?_
    rcases h.ap with e | ha
    · exact .inl e
    · exact .inr fun e => ha g0 e0 (by rw [e1, e])
  · rcases h0 with e | ⟨_, _, _, x, e0⟩
    · exact .inl e
    rcases h2 with e | ⟨_, _, _, y, e2⟩
    · exact .inr (.inl e)
    exact .inr (.inr fun e => hty g0 x y e0 (by rw [e]; exact e2))
  · rcases h1 with e | ⟨_, _, _, x, e0⟩
    · exact .inl e
    rcases h2 with e | ⟨_, _, _, y, e2⟩
    · exact .inr (.inl e)
    exact .inr (.inr fun e => hty g1 x y e0 (by rw [e]; exact e2))
  · rcases h0 with h | h
    · exact .inl h
    · exact .inr h.2.1
  · rcases h1 with h | h
    · exact .inl h
    · exact .inr h.2.1
  · rcases h2 with h | h
    · exact .inl h
    · exact .inr h.2.1
/-- What the copy that the laws make gives them. -/
theorem at3_rows {w : World} {c : DiskC} {g0 g1 g2 : Nat} (h0 : w.rowIs g0 96 (c.n0 * 2) (fileCell c.r0)) (h1 : w.rowIs g1 96 (c.n1 * 2) (fileCell c.r1)) (h2 : w.rowIs g2 40 (c.n2 * 4) (dOpCell c.r2)) (h01 : g0 < g1) (h12 : g1 < g2) :
    At3 w (some ⟨g0, 0, none⟩) (some ⟨g1, 0, none⟩) (some ⟨g2, 0, none⟩) c g0 g1 g2 :=
  ⟨.inr rfl, .inr rfl, .inr rfl, rowIs_mark h0, rowIs_mark h1, rowIs_mark h2, .inr h0.lt, .inr h1.lt, .inr h2.lt, .inr (.inr (by omega)), .inr (.inr (by omega)), .inr (.inr (by omega))⟩

end Go.Proofs.Ytejedpmkbkclhaa
