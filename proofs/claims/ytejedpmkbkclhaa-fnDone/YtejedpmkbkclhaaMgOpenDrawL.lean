/- A law's bound on its bytes, and the reader opened. (The same as in DrawB, DrawSc, under other names.) -/
import Derived.Test.YtejedpmkbkclhaaDraw
import Derived.Test.YtejedpmkbkclhaaDrawK
import Derived.BigQuiet
import Derived.Laws.StructEq
namespace Go.Proofs.Ytejedpmkbkclhaa
set_option maxRecDepth 100000
open Go.RowKit

theorem laws_bigO (a : Option Addr) (len cap : Nat) (hl : len ≤ maxLen) (w : World) :
    Calls Try.prog 34 #[.slice a len cap] w fun e w' => e = .returned (.bool (decide (1048576 < len))) ∧ w = w' := by
  unfold maxLen at hl
  by_cases h : 1048576 < len
  · have h' : (1048576 : Int) < (len : Int) := by omega
    go_enter Try.func34, Try.ntmps34
    go_wp2
    go_ret
    exact ⟨congrArg (fun b => Ending.returned (.bool b)) (decide_eq_true h).symm, rfl⟩
  · have h' : ¬ ((1048576 : Int) < (len : Int)) := by omega
    go_enter Try.func34, Try.ntmps34
    go_wp2
    go_ret
    exact ⟨rfl, rfl⟩

theorem open_rdO (W : World) (a : Option Addr) (len cap : Nat) (W0 : World) (h0 : Below W0.heap.size W0 W) :
    Calls Try.prog 70 #[.slice a len cap] W fun e w' => e = .returned (.pointer (some ⟨W.heap.size, 0, none⟩)) ∧ Rd W0 w' W.heap.size a len cap ∧ Below W.heap.size W w' := by
  go_enter Try.func70, Try.ntmps70
  go_wp2
  go_ret
  refine ⟨rfl, ⟨h0.size, by simp, h0.trans ((Below.refl _ _).alloc h0.size _), ?_, ⟨0, Nat.zero_le _, ?_⟩, ?_⟩, (Below.refl _ _).alloc (Nat.le_refl _) _⟩
  · simp
  · simp
  · simp

end Go.Proofs.Ytejedpmkbkclhaa

/- A drawn disk as the laws hold it: lists; files held against each other; what DrawDiskOk draws. -/
namespace Go.Proofs.Ytejedpmkbkclhaa
set_option maxRecDepth 100000
open Go.RowKit Go.Deep

theorem FileAt.congr {w : World} {B : Nat} {a : Option Addr} {n : Nat} {O P : Files} (h : FileAt w B a n O) (e : ∀ i, i < n → O.N i = P.N i ∧ O.D i = P.D i) : FileAt w B a n P := by
  rcases h with h | ⟨b, off, ea, hB, hc⟩
  · exact .inl h
  · exact .inr ⟨b, off, ea, hB, fun i hi => by rw [← (e i hi).1, ← (e i hi).2]; exact hc i hi⟩
theorem FileAt.list {w : World} {B : Nat} {a : Option Addr} {n : Nat} {O : Files} (h : FileAt w B a n O) : FileAt w B a (filesL O n).length (fnFile (filesL O n)) := by
  rw [filesL_len]
  refine h.congr fun i hi => ?_
  have := fnFile_at (filesL O n) i (by rw [filesL_len]; exact hi)
  simp only [filesL, List.getElem_map, List.getElem_range, fileAt1, File1.mk.injEq] at this
  exact ⟨this.1.symm, this.2.symm⟩
theorem DOpAt.list {w : World} {B : Nat} {a : Option Addr} {n : Nat} {O : DOps} (h : DOpAt w B a n O) : DOpAt w B a (dOpsL O n).length (fnDOp (dOpsL O n)) := by
  rw [dOpsL_len]
  rcases h with h | ⟨b, off, ea, hB, hc⟩
  · exact .inl h
  · refine .inr ⟨b, off, ea, hB, fun i hi => ?_⟩
    have := fnDOp_at (dOpsL O n) i (by rw [dOpsL_len]; exact hi)
    simp only [dOpsL, List.getElem_map, List.getElem_range, dOpAt1, DOp1.mk.injEq] at this
    obtain ⟨e0, e1, e2, e3⟩ := this
    have f0 : (fnDOp (dOpsL O n)).K i = O.K i := e0
    have f1 : (fnDOp (dOpsL O n)).N i = O.N i := e1
    have f2 : (fnDOp (dOpsL O n)).T i = O.T i := e2
    have f3 : (fnDOp (dOpsL O n)).D i = O.D i := e3
    rw [f0, f1, f2, f3]
    exact hc i hi

/-- A disk in a box, as lists: its rows lie anywhere. -/
structure DskAt (x : World) (a0 : Option Addr) (p0 : Nat) (a1 : Option Addr) (p1 : Nat) (a2 : Option Addr) (p2 : Nat) (l s : List File1) (q : List DOp1) : Prop where
  h0 : FileAt x x.heap.size a0 l.length (fnFile l)
  h1 : FileAt x x.heap.size a1 s.length (fnFile s)
  h2 : DOpAt x x.heap.size a2 q.length (fnDOp q)
theorem DskAt.next {x y : World} {a0 a1 a2 : Option Addr} {p0 p1 p2 : Nat} {l s : List File1} {q : List DOp1} (h : DskAt x a0 p0 a1 p1 a2 p2 l s q) (b : Below x.heap.size x y) : DskAt y a0 p0 a1 p1 a2 p2 l s q := ⟨h.h0.next b, h.h1.next b, h.h2.next b⟩
theorem DskAt.is {x : World} {a0 a1 a2 : Option Addr} {p0 p1 p2 : Nat} {l s : List File1} {q : List DOp1} (h : DskAt x a0 p0 a1 p1 a2 p2 l s q) : DiskIs x (.agg #[.slice a0 l.length p0, .slice a1 s.length p1, .slice a2 q.length p2]) (dc l s q) := ⟨a0, p0, a1, p1, a2, p2, rfl, h.h0, h.h1, h.h2⟩
theorem DskAt.hid {x : World} {a0 a1 a2 : Option Addr} {p0 p1 p2 : Nat} {l s : List File1} {q : List DOp1} (h : DskAt x a0 p0 a1 p1 a2 p2 l s q) : Hid (DskAt x a0 p0 a1 p1 a2 p2 l s q) := h
theorem DiskIs.lists {x : World} {v : Value} {c : DiskC} (h : DiskIs x v c) : ∃ a0 p0 a1 p1 a2 p2, v = .agg #[.slice a0 (filesL c.r0 c.n0).length p0, .slice a1 (filesL c.r1 c.n1).length p1, .slice a2 (dOpsL c.r2 c.n2).length p2] ∧ DskAt x a0 p0 a1 p1 a2 p2 (filesL c.r0 c.n0) (filesL c.r1 c.n1) (dOpsL c.r2 c.n2) := by
  obtain ⟨a0, p0, a1, p1, a2, p2, rfl, h0, h1, h2⟩ := h
  exact ⟨a0, p0, a1, p1, a2, p2, by rw [filesL_len, filesL_len, dOpsL_len], h0.list, h1.list, h2.list⟩
theorem DskAt.made {x : World} {B : Nat} {v : Value} {l s : List File1} {q : List DOp1} (h : DiskMade x B v l s q) : ∃ a0 p0 a1 p1 a2 p2, v = .agg #[.slice a0 l.length p0, .slice a1 s.length p1, .slice a2 q.length p2] ∧ DskAt x a0 p0 a1 p1 a2 p2 l s q := by
  obtain ⟨a0, p0, a1, p1, a2, p2, e, h0, h1, h2⟩ := h.is
  exact ⟨a0, p0, a1, p1, a2, p2, e, h0, h1, h2⟩

theorem laws_sameFilesR (a b : Option Addr) (len ca cb : Nat) (O : Files) (w : World) (hl : len ≤ 1048576) (ha : FileAt w w.heap.size a len O) (hb : FileAt w w.heap.size b len O) :
    Calls Try.prog 36 #[.slice a len ca, .slice b len cb] w fun e w' => e = .returned (.bool true) ∧ Below w.heap.size w w' := by
  have HA := hide ha
  have HB := hide hb
  have HW0 := hide (Below.refl w.heap.size w)
  clear ha hb
  go_enter Try.func36, Try.ntmps36
  go_wp2
  go_loopw [5] (fun i wr => ∃ k : Nat, i = .int .i64 k ∧ k ≤ len ∧ Hid (Below w.heap.size w wr)) (fun i _ => len - (intOf i).toNat)
  case atStart => exact ⟨0, rfl, by omega, HW0⟩
  case round =>
    obtain ⟨k, rfl, hk, HW⟩ := hrel
    by_cases hlt : k < len
    · obtain ⟨g1, o1, rfl, _, c0, c1⟩ := (HA.out.below HW.out).at hlt
      obtain ⟨g2, o2, rfl, _, d0, d1⟩ := (HB.out.below HW.out).at hlt
      have hki : (k : Int) < (len : Int) := by omega
      go_wp2
      go_quiet (fail)
      go_wp2
      exact ⟨⟨k + 1, by go_num, by omega, below_drewN HW.out _⟩, by simp [intOf]; omega⟩
    · obtain rfl : k = len := by omega
      go_wp2
      go_ret
      exact ⟨rfl, HW.out⟩
/-- Files of one list twice. -/
theorem laws_sameFilesL {a b : Option Addr} {ca cb : Nat} {l m : List File1} {n k : Nat} {w : World} (hn : n = l.length) (hk : k = m.length) (h : m = l) (hl : l.length ≤ 1048576) (ha : FileAt w w.heap.size a l.length (fnFile l)) (hb : FileAt w w.heap.size b m.length (fnFile m)) :
    Calls Try.prog 36 #[.slice a n ca, .slice b k cb] w fun e w' => e = .returned (.bool true) ∧ Below w.heap.size w w' := by
  subst h
  subst hn
  subst hk
  exact laws_sameFilesR _ _ _ _ _ _ w hl ha hb

set_option linter.unusedVariables false in
set_option maxHeartbeats 2000000 in
theorem draw_DiskOk (W w : World) (a : Option Addr) (len cap : Nat) (hc : IsCode W a len) (hl : len ≤ 1048576) (hb : Below W.heap.size W w) :
    Calls Try.prog 35 #[.slice a len cap] w fun e w' => ∃ a0 p0 a1 p1 a2 p2 l s q, e = .returned (.agg #[.slice a0 (l : List File1).length p0, .slice a1 (s : List File1).length p1, .slice a2 (q : List DOp1).length p2]) ∧ (dc l s q).Fit ∧ DskAt w' a0 p0 a1 p1 a2 p2 l s q ∧ Below w.heap.size w w' := by
  go_enter Try.func35, Try.ntmps35
  go_wp2_with fail
  have hb0 : Below w.heap.size w (w.alloc (.cells #[.slice none 0 0, .slice none 0 0, .slice none 0 0] 31)) := below_one _ _
  have hR0 : BoxIs (w.alloc (.cells #[.slice none 0 0, .slice none 0 0, .slice none 0 0] 31)) w.heap.size #[.slice none 0 0, .slice none 0 0, .slice none 0 0] 31 := BoxIs.new w _ _ rfl
  generalize w.alloc (.cells #[.slice none 0 0, .slice none 0 0, .slice none 0 0] 31) = W0 at hb0 hR0 ⊢
  have hlt0 := hR0.lt
  refine (open_rdO W0 a len cap W (hb.trans (hb0.mono hb.size))).mono ?_
  rintro e w1 ⟨rfl, hr, hb1⟩
  have hlow1 := hb0.trans (hb1.mono hb0.size)
  have hR1 := hR0.next hb1
  generalize W0.heap.size = g at hr hlt0 hb1 ⊢
  clear hb hb0 hb1 hR0
  go_wp2_with fail
  refine (rd_disk W _ g a len cap hc hl hr).mono ?_
  rintro e w2 ⟨v, c, rfl, hf, ho, hr2, hm2⟩
  have hlow2 := hlow1.trans (hm2.below hlow1.size (by omega))
  have hR2 := hR1.mv hm2 (by omega)
  obtain ⟨a0, p0, a1, p1, a2, p2, rfl, hD⟩ := ho.is.lists
  have hD3 := ho.put3 hR2 (.slice a0 (filesL c.r0 c.n0).length p0) (.slice a1 (filesL c.r1 c.n1).length p1) (.slice a2 (dOpsL c.r2 c.n2).length p2)
  obtain ⟨b0, q0, b1, q1, b2, q2, e, hE⟩ := hD3.is.lists
  simp only [Value.agg.injEq, Array.mk.injEq, List.cons.injEq, and_true, Value.slice.injEq, true_and] at e
  obtain ⟨⟨rfl, rfl⟩, ⟨rfl, rfl⟩, rfl, rfl⟩ := e
  have HD := hE.hid
  have HB := hide (hlow2.trans ((below_put3 (Below.refl w.heap.size w2) (Nat.le_refl _) (.slice a0 (filesL c.r0 c.n0).length p0) (.slice a1 (filesL c.r1 c.n1).length p1) (.slice a2 (dOpsL c.r2 c.n2).length p2))))
  have HF := hide (copyC_fit hf)
  have t0 := hR2.cell 0
  have t1 := hR2.cell 1
  have t2 := hR2.cell 2
  have tf := hR2.free
  simp only [List.getElem?_toArray, List.getElem?_cons_succ, List.getElem?_cons_zero] at t0 t1 t2
  clear hE hD hD3 hlow2 hR2 hr2 hm2 ho hf hr hlow1 hR1
  generalize filesL c.r0 c.n0 = l at HD HB HF ⊢
  generalize filesL c.r1 c.n1 = s at HD HB HF ⊢
  generalize dOpsL c.r2 c.n2 = q at HD HB HF ⊢
  go_wp2
  exact bodyPost_ret (v := .agg #[.slice a0 l.length p0, .slice a1 s.length p1, .slice a2 q.length p2]) (by simp [results, Try.results35, go_sem, t0, t1, t2]) rfl ⟨a0, p0, a1, p1, a2, p2, l, s, q, rfl, HF.out, HD.out, HB.out⟩

end Go.Proofs.Ytejedpmkbkclhaa
