/- What both walks of Replace want; no walk. -/
import Derived.Test.YtejedpmkbkclhaaRpP
namespace Go.Proofs.Ytejedpmkbkclhaa
set_option maxRecDepth 100000
open Go.RowKit Go.Deep

theorem runD_none (c : DiskC) : runD c [] = (0, c) := rfl
theorem runD_done {c : DiskC} {o : DOp1} (h : doK c o = 0) (r : List DOp1) : runD c (o :: r) = runD (doC c o) r := by rw [runD, if_pos h]
theorem runD_fail {c : DiskC} {o : DOp1} (h : ¬ doK c o = 0) (r : List DOp1) : runD c (o :: r) = (doK c o, c) := by rw [runD, if_neg h]
theorem rp_no {c : DiskC} (h : dB c = false) (m d : ByteArray) : rpK c m d = 1 ∧ rpC c m d = dc [] [] [] := by unfold rpK rpC; rw [h]; exact ⟨rfl, rfl⟩
theorem rp_yes {c x : DiskC} {m d : ByteArray} (h : dB c = true) (hr : runD c (opsRp c m d) = (0, x)) : rpK c m d = 0 ∧ rpC c m d = x := by unfold rpK rpC; rw [h, hr]; exact ⟨rfl, rfl⟩
theorem rp_fail {c x : DiskC} {m d : ByteArray} {q : Int} (h : dB c = true) (hr : runD c (opsRp c m d) = (q, x)) (hq : ¬ q = 0) : rpK c m d = q ∧ rpC c m d = dc (filesL c.r0 c.n0) (filesL c.r1 c.n1) (dOpsL c.r2 c.n2) := by unfold rpK rpC; rw [h, hr]; exact ⟨rfl, if_neg hq⟩
theorem own_eq {w : World} {B : Nat} {v : Value} {c c' : DiskC} (h : DiskOwn w B v c) (e : c' = c) : DiskOwn w B v c' := by rw [e]; exact h
theorem own_put3 {w : World} {B F : Nat} {v : Value} {c : DiskC} {cs : Array Value} (h : DiskOwn w B v c) (hb : BoxIs w F cs 31) (x y z : Value) : DiskOwn (((w.setCell ⟨F, 0, none⟩ x).setCell ⟨F, 1, none⟩ y).setCell ⟨F, 2, none⟩ z) B v c := by
  obtain ⟨a0, p0, a1, p1, a2, p2, rfl, hm⟩ := h.mine
  have h3 := ((hm.setBox hb 0 x).setBox (hb.set 0 x) 1 y).setBox ((hb.set 0 x).set 1 y) 2 z
  exact ⟨a0, p0, a1, p1, a2, p2, rfl, h3.m0, h3.m1, h3.m2, h3.ap⟩
theorem DiskOwn.base2 {w : World} {B B' : Nat} {v : Value} {c : DiskC} (h : DiskOwn w B v c) (hB : B' ≤ B) : DiskOwn w B' v c := by
  obtain ⟨a0, p0, a1, p1, a2, p2, rfl, hm⟩ := h.mine
  have h3 := hm.base hB
  exact ⟨a0, p0, a1, p1, a2, p2, rfl, h3.m0, h3.m1, h3.m2, h3.ap⟩
theorem DiskOwn.next2 {w w' : World} {B : Nat} {v : Value} {c : DiskC} (h : DiskOwn w B v c) (hb : Below w.heap.size w w') : DiskOwn w' B v c := by
  obtain ⟨a0, p0, a1, p1, a2, p2, rfl, hm⟩ := h.mine
  have h3 := hm.next hb
  exact ⟨a0, p0, a1, p1, a2, p2, rfl, h3.m0, h3.m1, h3.m2, h3.ap⟩
theorem DiskOwn.hid {w : World} {B : Nat} {v : Value} {c : DiskC} (h : DiskOwn w B v c) : Hid (DiskOwn w B v c) := h
theorem DiskOwn.shape {w : World} {B : Nat} {v : Value} {c : DiskC} (h : DiskOwn w B v c) : ∃ a0 p0 a1 p1 a2 p2, v = .agg #[.slice a0 c.n0 p0, .slice a1 c.n1 p1, .slice a2 c.n2 p2] := by
  obtain ⟨a0, p0, a1, p1, a2, p2, rfl, _⟩ := h
  exact ⟨a0, p0, a1, p1, a2, p2, rfl⟩
theorem below_set {w w' : World} {F B : Nat} (h : Below B w w') (hF : B ≤ F) (j : Nat) (x : Value) : Below B w (w'.setCell ⟨F, j, none⟩ x) := h.setCell (p := ⟨F, j, none⟩) hF x


theorem copy_doC (x : DiskC) (o : DOp1) : dc (filesL (doC x o).r0 (doC x o).n0) (filesL (doC x o).r1 (doC x o).n1) (dOpsL (doC x o).r2 (doC x o).n2) = doC x o := by
  unfold doC
  rw [dc_live, dc_safe, dc_ops]
theorem step_pack {x : DiskC} {o : DOp1} (hf : x.Fit) (ht : o.t.size ≤ 1048576) (hd : o.d.size ≤ 1048576) :
    ∃ y, y = doC x o ∧ y.Fit ∧ (doK x o = 0 → dB y = true ∧ ∀ r, runD x (o :: r) = runD y r) ∧ dc (filesL y.r0 y.n0) (filesL y.r1 y.n1) (dOpsL y.r2 y.n2) = y :=
  ⟨doC x o, rfl, doC_fit hf ht hd, fun h => ⟨do_right h, runD_done h⟩, copy_doC x o⟩

end Go.Proofs.Ytejedpmkbkclhaa
