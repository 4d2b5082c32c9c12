/- Sync of both sides, as the law on it asks. -/
import Derived.Test.YtejedpmkbkclhaaDSy
import Derived.Test.YtejedpmkbkclhaaMkDisk
import Derived.Test.YtejedpmkbkclhaaMgDoPDoA
import Derived.Test.YtejedpmkbkclhaaDoS
import Derived.Test.YtejedpmkbkclhaaMgOwnMv
namespace Go.Proofs.Ytejedpmkbkclhaa
set_option maxRecDepth 100000
open Go.RowKit Go.Deep

/-- A list of files that fits. -/
def fitL (l : List File1) : Prop := l.length ≤ 1048576 ∧ ∀ x, x ∈ l → x.n.size ≤ 1048576 ∧ x.d.size ≤ 1048576
def fitQ (q : List DOp1) : Prop := q.length ≤ 1048576 ∧ ∀ x, x ∈ q → x.n.size ≤ 1048576 ∧ x.t.size ≤ 1048576 ∧ x.d.size ≤ 1048576
theorem fitL_nil : fitL [] := ⟨Nat.zero_le _, fun x h => by cases h⟩
theorem fitQ_nil : fitQ [] := ⟨Nat.zero_le _, fun x h => by cases h⟩
theorem fitL_files {O : Files} {n : Nat} (hn : n ≤ 1048576) (h : ∀ i, i < n → (O.N i).size ≤ 1048576 ∧ (O.D i).size ≤ 1048576) : fitL (filesL O n) :=
  ⟨by rw [filesL_len]; exact hn, fun x hx => by obtain ⟨i, hi, rfl⟩ := List.mem_map.1 hx; exact h i (List.mem_range.1 hi)⟩
theorem fitQ_ops {O : DOps} {n : Nat} (hn : n ≤ 1048576) (h : ∀ i, i < n → (O.N i).size ≤ 1048576 ∧ (O.T i).size ≤ 1048576 ∧ (O.D i).size ≤ 1048576) : fitQ (dOpsL O n) :=
  ⟨by rw [dOpsL_len]; exact hn, fun x hx => by obtain ⟨i, hi, rfl⟩ := List.mem_map.1 hx; exact h i (List.mem_range.1 hi)⟩
theorem dc_fit {l s : List File1} {q : List DOp1} (hl : fitL l) (hs : fitL s) (hq : fitQ q) : (dc l s q).Fit := by
  refine ⟨⟨hl.1, hs.1, hq.1⟩, fun i hi => ?_, fun i hi => ?_, fun i hi => ?_⟩
  · have h1 : i < l.length := hi
    have h2 := hl.2 _ (List.getElem_mem h1)
    have h3 := fnFile_at l i h1
    rw [← h3] at h2; exact h2
  · have h1 : i < s.length := hi
    have h2 := hs.2 _ (List.getElem_mem h1)
    have h3 := fnFile_at s i h1
    rw [← h3] at h2; exact h2
  · have h1 : i < q.length := hi
    have h2 := hq.2 _ (List.getElem_mem h1)
    have h3 := fnDOp_at q i h1
    rw [← h3] at h2; exact h2
def syC (c : DiskC) : DiskC := dc (syL c) (syL c) []
theorem syL_fit {c : DiskC} (hf : c.Fit) : fitL (syL c) := by
  unfold syL
  split
  · exact fitL_files hf.1.1 hf.2.1
  · exact fitL_nil
theorem syC_fit {c : DiskC} (hf : c.Fit) : (syC c).Fit := dc_fit (syL_fit hf) (syL_fit hf) fitQ_nil
theorem spec_SyncO (v : Value) (c : DiskC) (w : World) (hf : c.Fit) (hv : DiskIs w v c) :
    Calls Try.prog 23 #[v] w fun e w' => (∃ u, e = .returned u ∧ DiskOwn w' w.heap.size u (syC c)) ∧ Below w.heap.size w w' :=
  (spec_Sync v c w hf hv).mono (by rintro e w' ⟨⟨u, hu, ho⟩, hb⟩; exact ⟨⟨u, hu, ho.own⟩, hb⟩)
theorem impl_SyncO (v : Value) (c : DiskC) (w : World) (hf : c.Fit) (hv : DiskIs w v c) :
    Calls Try.prog 24 #[v] w fun e w' => (∃ u, e = .returned u ∧ DiskOwn w' w.heap.size u (syC c)) ∧ Below w.heap.size w w' :=
  (impl_Sync v c w hf hv).mono (by rintro e w' ⟨⟨u, hu, ho⟩, hb⟩; exact ⟨⟨u, hu, ho.own⟩, hb⟩)

end Go.Proofs.Ytejedpmkbkclhaa

/- Do of both sides, as the law on it asks. -/
namespace Go.Proofs.Ytejedpmkbkclhaa
set_option maxRecDepth 100000
open Go.RowKit Go.Deep

theorem do_is0 {c : DiskC} {o : DOp1} (h : doK c o = 0) : dB c = true ∧ formB o = true ∧ fitsB (doF (filesL c.r0 c.n0) o) = true := by
  unfold doK at h
  cases h1 : dB c with
  | false => rw [h1] at h; simp at h
  | true =>
    cases h2 : formB o with
    | false => rw [h1, h2] at h; simp at h
    | true =>
      cases h3 : fitsB (doF (filesL c.r0 c.n0) o) with
      | true => exact ⟨rfl, rfl, rfl⟩
      | false => rw [h1, h2, h3] at h; simp at h; split at h <;> omega
def doC (c : DiskC) (o : DOp1) : DiskC := dc (doL c o) (doS c o) (doQ c o)
theorem doC_fit {c : DiskC} (hf : c.Fit) {o : DOp1} (hs : o.t.size ≤ 1048576) (hd : o.d.size ≤ 1048576) : (doC c o).Fit := by
  have h0 : fitL (filesL c.r0 c.n0) := fitL_files hf.1.1 hf.2.1
  have h1 : fitL (filesL c.r1 c.n1) := fitL_files hf.1.2.1 hf.2.2.1
  have h2 : fitQ (dOpsL c.r2 c.n2) := fitQ_ops hf.1.2.2 hf.2.2.2
  refine dc_fit ?_ ?_ ?_
  · unfold doL
    split
    · exact fitL_nil
    · split
      · rename_i hk
        obtain ⟨hdd, hfo, hfi⟩ := do_is0 hk
        obtain ⟨hl0, _, _⟩ := dB_parts hdd
        obtain ⟨_, hnm, _, _⟩ := filesB_ris hl0
        have hnn : ∀ x, x ∈ filesL c.r0 c.n0 → nameB x.n = true := fun x hx => by obtain ⟨i, hi, rfl⟩ := List.mem_map.1 hx; exact hnm i (List.mem_range.1 hi)
        obtain ⟨q1, q2⟩ := fits_sizes hfi
        refine ⟨by omega, fun x hx => ⟨?_, ?_⟩⟩
        · have := nameB_size (names_do hfo hnn x hx); omega
        · have := sizeF_mem hx; omega
      · exact h0
  · unfold doS
    split
    · exact fitL_nil
    · exact h1
  · unfold doQ
    split
    · exact fitQ_nil
    · split
      · rename_i hk
        obtain ⟨hdd, hfo, _⟩ := do_is0 hk
        obtain ⟨_, _, h200⟩ := dB_parts hdd
        have hm := form_n hfo
        refine ⟨by rw [List.length_append, dOpsL_len, List.length_singleton]; omega, fun x hx => ?_⟩
        rcases List.mem_append.1 hx with h | h
        · exact h2.2 x h
        · obtain rfl := List.mem_singleton.1 h
          exact ⟨by omega, hs, hd⟩
      · exact h2
theorem spec_DoO (v : Value) (c : DiskC) (k : Int) (m s d : ByteArray) (w : World) (hf : c.Fit) (hm : m.size ≤ 1048576) (hs : s.size ≤ 1048576) (hd : d.size ≤ 1048576) (hv : DiskIs w v c) :
    Calls Try.prog 18 #[v, .agg #[.int .i64 k, .string m, .string s, .string d]] w fun e w' => (∃ u, e = .returned (.tuple #[u, .int .i64 (doK c ⟨k, m, s, d⟩)]) ∧ DiskOwn w' w.heap.size u (doC c ⟨k, m, s, d⟩)) ∧ Below w.heap.size w w' :=
  (spec_Do v c k m s d w hf (by omega) hs hd hv).mono (by rintro e w' ⟨⟨u, hu, ho⟩, hb⟩; exact ⟨⟨u, hu, ho.own⟩, hb⟩)
theorem impl_DoO (v : Value) (c : DiskC) (k : Int) (m s d : ByteArray) (w : World) (hf : c.Fit) (hm : m.size ≤ 1048576) (hs : s.size ≤ 1048576) (hd : d.size ≤ 1048576) (hv : DiskIs w v c) :
    Calls Try.prog 20 #[v, .agg #[.int .i64 k, .string m, .string s, .string d]] w fun e w' => (∃ u, e = .returned (.tuple #[u, .int .i64 (doK c ⟨k, m, s, d⟩)]) ∧ DiskOwn w' w.heap.size u (doC c ⟨k, m, s, d⟩)) ∧ Below w.heap.size w w' :=
  (impl_Do v c k m s d w hf (by omega) hs hd hv).mono (by rintro e w' ⟨⟨u, hu, ho⟩, hb⟩; exact ⟨⟨u, hu, ho.own⟩, hb⟩)

theorem Mine.setBoxD {w : World} {B : Nat} {ty t : TypeId} {k F : Nat} {a : Option Addr} {p n : Nat} {f : Nat → Value} {cs : Array Value} (h : Mine w B ty k a p n f) (hb : BoxIs w F cs t) (hne : t ≠ ty) (j : Nat) (v : Value) : Mine (w.setCell ⟨F, j, none⟩ v) B ty k a p n f := by
  rcases h with h | ⟨g, cur, ha, hB, hh, hn, hc⟩
  · exact .inl h
  · have hg : F ≠ g := fun e => by
      subst e
      have h1 : w.heap[F]? = some (.cells cs t) := hb
      rw [h1] at hh
      simp only [Option.some.injEq, Obj.cells.injEq] at hh
      exact hne hh.2.1
    exact .inr ⟨g, cur, ha, hB, (show BoxIs w g cur ty from hh).set_other (p := ⟨F, j, none⟩) hg v, hn, hc⟩
theorem Mine3.setBox {w : World} {B F : Nat} {a0 : Option Addr} {p0 : Nat} {a1 : Option Addr} {p1 : Nat} {a2 : Option Addr} {p2 : Nat} {c : DiskC} {cs : Array Value} (h : Mine3 w B a0 p0 a1 p1 a2 p2 c) (hb : BoxIs w F cs 31) (j : Nat) (v : Value) : Mine3 (w.setCell ⟨F, j, none⟩ v) B a0 p0 a1 p1 a2 p2 c :=
  ⟨h.m0.setBoxD hb (by decide) j v, h.m1.setBoxD hb (by decide) j v, h.m2.setBoxD hb (by decide) j v, h.ap⟩
theorem Mine3.base {w : World} {B B' : Nat} {a0 : Option Addr} {p0 : Nat} {a1 : Option Addr} {p1 : Nat} {a2 : Option Addr} {p2 : Nat} {c : DiskC} (h : Mine3 w B a0 p0 a1 p1 a2 p2 c) (hB : B' ≤ B) : Mine3 w B' a0 p0 a1 p1 a2 p2 c := ⟨h.m0.base hB, h.m1.base hB, h.m2.base hB, h.ap⟩
/-- A box of another kind is none of its rows' blocks. -/
theorem Mine.ne_box {w : World} {B : Nat} {ty t : TypeId} {k F g : Nat} {a : Option Addr} {p n : Nat} {f : Nat → Value} {cs : Array Value} (h : Mine w B ty k a p n f) (hb : BoxIs w F cs t) (hne : t ≠ ty) (ha : n = 0 ∨ a = some ⟨g, 0, none⟩) : n = 0 ∨ F ≠ g := by
  rcases ha with ha | ha
  · exact .inl ha
  · rcases h with h | ⟨g', cur, ha', hB, hh, hn, hc⟩
    · exact .inl h.2.2
    · rw [ha] at ha'
      simp only [Option.some.injEq, Addr.mk.injEq, and_true] at ha'
      subst ha'
      refine .inr fun e => ?_
      subst e
      have h1 : w.heap[F]? = some (.cells cs t) := hb
      rw [h1] at hh
      simp only [Option.some.injEq, Obj.cells.injEq] at hh
      exact hne hh.2.1

/-- An op that came in. -/
def IsDOp (v : Value) : Prop := ∃ k m s d, v = .agg #[.int .i64 k, .string m, .string s, .string d] ∧ m.size ≤ maxLen ∧ s.size ≤ maxLen ∧ d.size ≤ maxLen
theorem open_dop {H : Type} {enc : TypeId × Value → H} {w : World} {r : Reach} {b0 base : Nat} {spare : Nat → Bool} {held : Bool} {v : Value} {d : DataW H} {p : List MemPlace}
    (hv : Value.okWide Try.prog w r b0 36 v) (h : DataW.Trod enc Try.prog w base spare held 36 v d p) : IsDOp v := by
  obtain ⟨cs, rfl, hsz⟩ := WideShapes.okWide_struct Try.underlying36 hv
  obtain ⟨fuel, hf⟩ := h
  obtain ⟨k, m, s, d', e, h1, h2, h3⟩ := dOp_trod hf
  have : cs = #[.int .i64 k, .string m, .string s, .string d'] := Array.toList_inj.1 (by simpa [Value.cells] using e)
  subst this
  exact ⟨k, m, s, d', rfl, h1, h2, h3⟩

end Go.Proofs.Ytejedpmkbkclhaa

/- What Replace answers: lists; and that Do and Sync keep a disk right. No program in sight. -/
namespace Go.Proofs.Ytejedpmkbkclhaa
set_option maxRecDepth 100000
open Go.RowKit

theorem see_congr {S : List File1} {O Q : DOps} : ∀ {k : Nat}, (∀ i, i < k → opAt O i = opAt Q i) → seeF S O k = seeF S Q k ∧ seeB S O k = seeB S Q k
  | 0, _ => ⟨rfl, rfl⟩
  | k + 1, h => by
    obtain ⟨e1, e2⟩ := see_congr (S := S) (k := k) (fun i hi => h i (Nat.lt_succ_of_lt hi))
    have e3 := h k (Nat.lt_succ_self k)
    exact ⟨by simp only [seeF, e1, e3], by simp only [seeB, e1, e2, e3]⟩

theorem dc_live (l s : List File1) (q : List DOp1) : filesL (dc l s q).r0 (dc l s q).n0 = l := fnFile_list l
theorem dc_safe (l s : List File1) (q : List DOp1) : filesL (dc l s q).r1 (dc l s q).n1 = s := fnFile_list s
theorem dc_ops (l s : List File1) (q : List DOp1) : dOpsL (dc l s q).r2 (dc l s q).n2 = q := fnDOp_list q

theorem dB_all {c : DiskC} (h : dB c = true) : filesB c.r0 c.n0 = true ∧ filesB c.r1 c.n1 = true ∧ c.n2 ≤ 200 ∧ seeB (filesL c.r1 c.n1) c.r2 c.n2 = true ∧ seeF (filesL c.r1 c.n1) c.r2 c.n2 = filesL c.r0 c.n0 := by
  unfold dB diskB at h
  simp only [Bool.and_eq_true, decide_eq_true_eq] at h
  obtain ⟨⟨⟨⟨h1, h2⟩, h3⟩, h4⟩, h5⟩ := h
  obtain ⟨r1, _, _, _⟩ := filesB_ris h2
  obtain ⟨r0, _, _, _⟩ := filesB_ris h1
  exact ⟨h1, h2, h3, h4, (sameB_iff (risF_see r1 _ _) r0).1 h5⟩

theorem files_nm {O : Files} {n : Nat} (h : filesB O n = true) : ∀ f, f ∈ filesL O n → nameB f.n = true := fun x hx => by
  obtain ⟨_, hnm, _, _⟩ := filesB_ris h
  obtain ⟨i, hi, rfl⟩ := List.mem_map.1 hx; exact hnm i (List.mem_range.1 hi)
theorem files_dc {O : Files} {n : Nat} (h : filesB O n = true) : filesB (fnFile (filesL O n)) (filesL O n).length = true := by
  rw [filesB_list (filesB_ris h).1 (files_nm h)]; exact filesB_fits h

/-- Do that is told done keeps a disk right. -/
theorem do_right {c : DiskC} {o : DOp1} (h : doK c o = 0) : dB (doC c o) = true := by
  obtain ⟨hd, hfo, hfi⟩ := do_is0 h
  have hdo : doB (filesL c.r0 c.n0) o = true := by
    cases e : doB (filesL c.r0 c.n0) o with
    | true => rfl
    | false => have := (do_3 hd hfo e).1; omega
  have hn2 : ¬ c.n2 = 200 := fun e => by have := (do_4 hd hfo hdo (.inl e)).1; omega
  obtain ⟨_, e1, e2, e3⟩ := do_0 hd hfo hdo hn2 hfi
  obtain ⟨f0, f1, f2, f3, f4⟩ := dB_all hd
  have hri := (filesB_ris f0).1
  unfold doC
  rw [e1, e2, e3]
  have hag : ∀ i, i < c.n2 → opAt (fnDOp (dOpsL c.r2 c.n2 ++ [o])) i = opAt c.r2 i := fun i hi => by
    have hl : i < (dOpsL c.r2 c.n2 ++ [o]).length := by rw [List.length_append, dOpsL_len]; omega
    have := fnDOp_at (dOpsL c.r2 c.n2 ++ [o]) i hl
    rw [List.getElem_append_left (by rw [dOpsL_len]; exact hi)] at this
    simpa [dOpsL, dOpAt1, opAt] using this
  have hat : opAt (fnDOp (dOpsL c.r2 c.n2 ++ [o])) c.n2 = o := by
    have hl : c.n2 < (dOpsL c.r2 c.n2 ++ [o]).length := by rw [List.length_append, dOpsL_len]; simp
    have := fnDOp_at (dOpsL c.r2 c.n2 ++ [o]) c.n2 hl
    rw [List.getElem_append_right (by rw [dOpsL_len]; exact Nat.le_refl _)] at this
    simpa [dOpsL_len, dOpAt1, opAt] using this
  obtain ⟨s1, s2⟩ := see_congr (S := filesL c.r1 c.n1) hag
  have hlen : (dOpsL c.r2 c.n2 ++ [o]).length = c.n2 + 1 := by rw [List.length_append, dOpsL_len]; rfl
  show diskB (fnFile (doF (filesL c.r0 c.n0) o)) (doF (filesL c.r0 c.n0) o).length (fnFile (filesL c.r1 c.n1)) (filesL c.r1 c.n1).length (fnDOp (dOpsL c.r2 c.n2 ++ [o])) (dOpsL c.r2 c.n2 ++ [o]).length = true
  unfold diskB
  rw [hlen, fnFile_list, fnFile_list, filesB_list (risF_do hri o) (names_do hfo (files_nm f0)), hfi, files_dc f1, decide_eq_true (show c.n2 + 1 ≤ 200 by omega)]
  simp only [Bool.true_and, seeB, seeF, s1, s2, hat, f3, f4, hfo, hdo, hfi]
  exact (sameB_iff (risF_do hri o) (risF_do hri o)).2 rfl

theorem sync_right {c : DiskC} (h : dB c = true) : dB (syC c) = true := by
  obtain ⟨f0, f1, f2, f3, f4⟩ := dB_all h
  have hri := (filesB_ris f0).1
  have e : syL c = filesL c.r0 c.n0 := by unfold syL; rw [if_pos h]
  unfold syC
  rw [e]
  show diskB (fnFile (filesL c.r0 c.n0)) (filesL c.r0 c.n0).length (fnFile (filesL c.r0 c.n0)) (filesL c.r0 c.n0).length (fnDOp []) ([] : List DOp1).length = true
  unfold diskB
  rw [fnFile_list, files_dc f0]
  simp only [List.length_nil, seeB, seeF, Bool.true_and, Bool.and_eq_true]
  exact ⟨by decide, (sameB_iff hri hri).2 rfl⟩

/-- The ops that are done one behind the other, as long as they are told done. -/
def runD (c : DiskC) : List DOp1 → Int × DiskC
  | [] => (0, c)
  | o :: r => if doK c o = 0 then runD (doC c o) r else (doK c o, c)
def newB : ByteArray := ⟨#[46, 110, 101, 119]⟩
def opsRp (c : DiskC) (m d : ByteArray) : List DOp1 := (if (lkF (filesL c.r0 c.n0) (m ++ newB)).isSome then [⟨3, m ++ newB, ⟨#[]⟩, ⟨#[]⟩⟩] else []) ++ [⟨1, m ++ newB, ⟨#[]⟩, d⟩, ⟨2, m ++ newB, m, ⟨#[]⟩⟩]
def rpK (c : DiskC) (m d : ByteArray) : Int := if dB c then (runD c (opsRp c m d)).1 else 1
def rpC (c : DiskC) (m d : ByteArray) : DiskC := if dB c then (if (runD c (opsRp c m d)).1 = 0 then (runD c (opsRp c m d)).2 else dc (filesL c.r0 c.n0) (filesL c.r1 c.n1) (dOpsL c.r2 c.n2)) else dc [] [] []
theorem copyC_fit {c : DiskC} (hf : c.Fit) : (dc (filesL c.r0 c.n0) (filesL c.r1 c.n1) (dOpsL c.r2 c.n2)).Fit := dc_fit (fitL_files hf.1.1 hf.2.1) (fitL_files hf.1.2.1 hf.2.2.1) (fitQ_ops hf.1.2.2 hf.2.2.2)
theorem run_fit : ∀ (l : List DOp1) {c : DiskC}, c.Fit → (∀ o, o ∈ l → o.t.size ≤ 1048576 ∧ o.d.size ≤ 1048576) → (runD c l).2.Fit
  | [], _, h, _ => h
  | o :: r, c, h, hl => by
    unfold runD
    split
    · exact run_fit r (doC_fit h (hl o (by simp)).1 (hl o (by simp)).2) (fun x hx => hl x (by simp [hx]))
    · exact h
theorem ops_fit (c : DiskC) {m d : ByteArray} (hm : m.size ≤ 1048576) (hd : d.size ≤ 1048576) : ∀ o, o ∈ opsRp c m d → o.n.size ≤ 2000000 ∧ o.t.size ≤ 1048576 ∧ o.d.size ≤ 1048576 := fun o ho => by
  have hs : (m ++ newB).size = m.size + 4 := by rw [ByteArray.size_append]; rfl
  have h0 : (⟨#[]⟩ : ByteArray).size = 0 := rfl
  unfold opsRp at ho
  split at ho <;> simp only [List.cons_append, List.nil_append, List.mem_cons, List.not_mem_nil, or_false] at ho
  · rcases ho with rfl | rfl | rfl <;> exact ⟨by show (m ++ newB).size ≤ _; omega, by first | exact hm | (show (⟨#[]⟩ : ByteArray).size ≤ _; omega), by first | exact hd | (show (⟨#[]⟩ : ByteArray).size ≤ _; omega)⟩
  · rcases ho with rfl | rfl <;> exact ⟨by show (m ++ newB).size ≤ _; omega, by first | exact hm | (show (⟨#[]⟩ : ByteArray).size ≤ _; omega), by first | exact hd | (show (⟨#[]⟩ : ByteArray).size ≤ _; omega)⟩
theorem rpC_fit {c : DiskC} (hf : c.Fit) (m d : ByteArray) (hm : m.size ≤ 1048576) (hd : d.size ≤ 1048576) : (rpC c m d).Fit := by
  unfold rpC
  split
  · split
    · exact run_fit _ hf (fun o ho => (ops_fit c hm hd o ho).2)
    · exact copyC_fit hf
  · exact dc_fit fitL_nil fitL_nil fitQ_nil

end Go.Proofs.Ytejedpmkbkclhaa

/- What both walks of Replace want; no walk. -/
namespace Go.Proofs.Ytejedpmkbkclhaa
set_option maxRecDepth 100000
open Go.RowKit Go.Deep

theorem runD_none (c : DiskC) : runD c [] = (0, c) := rfl
theorem runD_done {c : DiskC} {o : DOp1} (h : doK c o = 0) (r : List DOp1) : runD c (o :: r) = runD (doC c o) r := by rw [runD, if_pos h]
theorem runD_fail {c : DiskC} {o : DOp1} (h : ¬ doK c o = 0) (r : List DOp1) : runD c (o :: r) = (doK c o, c) := by rw [runD, if_neg h]
theorem rp_no {c : DiskC} (h : dB c = false) (m d : ByteArray) : rpK c m d = 1 ∧ rpC c m d = dc [] [] [] := by unfold rpK rpC; rw [h]; exact ⟨rfl, rfl⟩
theorem rp_yes {c x : DiskC} {m d : ByteArray} (h : dB c = true) (hr : runD c (opsRp c m d) = (0, x)) : rpK c m d = 0 ∧ rpC c m d = x := by unfold rpK rpC; rw [h, hr]; exact ⟨rfl, rfl⟩
theorem rp_fail {c x : DiskC} {m d : ByteArray} {q : Int} (h : dB c = true) (hr : runD c (opsRp c m d) = (q, x)) (hq : ¬ q = 0) : rpK c m d = q ∧ rpC c m d = dc (filesL c.r0 c.n0) (filesL c.r1 c.n1) (dOpsL c.r2 c.n2) := by unfold rpK rpC; rw [h, hr]; exact ⟨rfl, if_neg hq⟩
theorem own_eq {w : World} {B : Nat} {v : Value} {c c' : DiskC} (h : DiskOwn w B v c) (e : c' = c) : DiskOwn w B v c' := by rw [e]; exact h
theorem own_put3 {w : World} {B F : Nat} {v : Value} {c : DiskC} {cs : Array Value} (h : DiskOwn w B v c) (hb : BoxIs w F cs 31) (x y z : Value) : DiskOwn (((w.setCell ⟨F, 0, none⟩ x).setCell ⟨F, 1, none⟩ y).setCell ⟨F, 2, none⟩ z) B v c := by
  obtain ⟨a0, p0, a1, p1, a2, p2, rfl, hm⟩ := h.mine
  have h3 := ((hm.setBox hb 0 x).setBox (hb.set 0 x) 1 y).setBox ((hb.set 0 x).set 1 y) 2 z
  exact ⟨a0, p0, a1, p1, a2, p2, rfl, h3.m0, h3.m1, h3.m2, h3.ap⟩
theorem DiskOwn.base2 {w : World} {B B' : Nat} {v : Value} {c : DiskC} (h : DiskOwn w B v c) (hB : B' ≤ B) : DiskOwn w B' v c := by
  obtain ⟨a0, p0, a1, p1, a2, p2, rfl, hm⟩ := h.mine
  have h3 := hm.base hB
  exact ⟨a0, p0, a1, p1, a2, p2, rfl, h3.m0, h3.m1, h3.m2, h3.ap⟩
theorem DiskOwn.next2 {w w' : World} {B : Nat} {v : Value} {c : DiskC} (h : DiskOwn w B v c) (hb : Below w.heap.size w w') : DiskOwn w' B v c := by
  obtain ⟨a0, p0, a1, p1, a2, p2, rfl, hm⟩ := h.mine
  have h3 := hm.next hb
  exact ⟨a0, p0, a1, p1, a2, p2, rfl, h3.m0, h3.m1, h3.m2, h3.ap⟩
theorem DiskOwn.hid {w : World} {B : Nat} {v : Value} {c : DiskC} (h : DiskOwn w B v c) : Hid (DiskOwn w B v c) := h
theorem DiskOwn.shape {w : World} {B : Nat} {v : Value} {c : DiskC} (h : DiskOwn w B v c) : ∃ a0 p0 a1 p1 a2 p2, v = .agg #[.slice a0 c.n0 p0, .slice a1 c.n1 p1, .slice a2 c.n2 p2] := by
  obtain ⟨a0, p0, a1, p1, a2, p2, rfl, _⟩ := h
  exact ⟨a0, p0, a1, p1, a2, p2, rfl⟩
theorem below_set {w w' : World} {F B : Nat} (h : Below B w w') (hF : B ≤ F) (j : Nat) (x : Value) : Below B w (w'.setCell ⟨F, j, none⟩ x) := h.setCell (p := ⟨F, j, none⟩) hF x


theorem copy_doC (x : DiskC) (o : DOp1) : dc (filesL (doC x o).r0 (doC x o).n0) (filesL (doC x o).r1 (doC x o).n1) (dOpsL (doC x o).r2 (doC x o).n2) = doC x o := by
  unfold doC
  rw [dc_live, dc_safe, dc_ops]
theorem step_pack {x : DiskC} {o : DOp1} (hf : x.Fit) (ht : o.t.size ≤ 1048576) (hd : o.d.size ≤ 1048576) :
    ∃ y, y = doC x o ∧ y.Fit ∧ (doK x o = 0 → dB y = true ∧ ∀ r, runD x (o :: r) = runD y r) ∧ dc (filesL y.r0 y.n0) (filesL y.r1 y.n1) (dOpsL y.r2 y.n2) = y :=
  ⟨doC x o, rfl, doC_fit hf ht hd, fun h => ⟨do_right h, runD_done h⟩, copy_doC x o⟩

end Go.Proofs.Ytejedpmkbkclhaa

/- Disks whose rows lie in blocks that are not the reader's: they stay. No walk. -/
namespace Go.Proofs.Ytejedpmkbkclhaa
set_option maxRecDepth 100000
open Go.RowKit Go.Deep Go.Lib

/-- A row of files in a block of files, from block B on. -/
def RowF (w : World) (B : Nat) (a : Option Addr) (n : Nat) (O : Files) : Prop := n = 0 ∨ ∃ (b off : Nat) (cs : Array Value), a = some ⟨b, off, none⟩ ∧ B ≤ b ∧ BoxIs w b cs 96 ∧ ∀ i, i < n → cs[off + i * 2]? = some (.string (O.N i)) ∧ cs[off + i * 2 + 1]? = some (.string (O.D i))
/-- A row of ops likewise. -/
def RowQ (w : World) (B : Nat) (a : Option Addr) (n : Nat) (O : DOps) : Prop := n = 0 ∨ ∃ (b off : Nat) (cs : Array Value), a = some ⟨b, off, none⟩ ∧ B ≤ b ∧ BoxIs w b cs 40 ∧ ∀ i, i < n → cs[off + i * 4]? = some (.int .i64 (O.K i)) ∧ cs[off + i * 4 + 1]? = some (.string (O.N i)) ∧ cs[off + i * 4 + 2]? = some (.string (O.T i)) ∧ cs[off + i * 4 + 3]? = some (.string (O.D i))

theorem RowF.at {w : World} {B : Nat} {a : Option Addr} {n : Nat} {O : Files} (h : RowF w B a n O) : FileAt w w.heap.size a n O := by
  rcases h with h | ⟨b, off, cs, e, _, hb, hc⟩
  · exact .inl h
  · exact .inr ⟨b, off, e, hb.lt, fun i hi => ⟨(hb.cell _).trans (hc i hi).1, (hb.cell _).trans (hc i hi).2⟩⟩
theorem RowQ.at {w : World} {B : Nat} {a : Option Addr} {n : Nat} {O : DOps} (h : RowQ w B a n O) : DOpAt w w.heap.size a n O := by
  rcases h with h | ⟨b, off, cs, e, _, hb, hc⟩
  · exact .inl h
  · exact .inr ⟨b, off, e, hb.lt, fun i hi => ⟨(hb.cell _).trans (hc i hi).1, (hb.cell _).trans (hc i hi).2.1, (hb.cell _).trans (hc i hi).2.2.1, (hb.cell _).trans (hc i hi).2.2.2⟩⟩
theorem RowF.mv {w w' : World} {B g : Nat} {a : Option Addr} {n : Nat} {O : Files} (h : RowF w B a n O) (hm : Mv g w w') (hg : g < B) : RowF w' B a n O := by
  rcases h with h | ⟨b, off, cs, e, hB, hb, hc⟩
  · exact .inl h
  · exact .inr ⟨b, off, cs, e, hB, hb.mv hm (by omega), hc⟩
theorem RowQ.mv {w w' : World} {B g : Nat} {a : Option Addr} {n : Nat} {O : DOps} (h : RowQ w B a n O) (hm : Mv g w w') (hg : g < B) : RowQ w' B a n O := by
  rcases h with h | ⟨b, off, cs, e, hB, hb, hc⟩
  · exact .inl h
  · exact .inr ⟨b, off, cs, e, hB, hb.mv hm (by omega), hc⟩
theorem box_apart {w : World} {b F : Nat} {cs ds : Array Value} {t u : TypeId} (h : BoxIs w b cs t) (k : BoxIs w F ds u) (ht : t ≠ u) : F ≠ b := by
  rintro rfl
  have h' : w.heap[F]? = some (.cells cs t) := h
  have k' : w.heap[F]? = some (.cells ds u) := k
  rw [h'] at k'
  simp only [Option.some.injEq, Obj.cells.injEq] at k'
  exact ht k'.2.1
theorem RowF.setBox {w : World} {B F : Nat} {a : Option Addr} {n : Nat} {O : Files} {ds : Array Value} {t : TypeId} (h : RowF w B a n O) (k : BoxIs w F ds t) (ht : t ≠ 96) (o : Nat) (x : Value) : RowF (w.setCell ⟨F, o, none⟩ x) B a n O := by
  rcases h with h | ⟨b, off, cs, e, hB, hb, hc⟩
  · exact .inl h
  · exact .inr ⟨b, off, cs, e, hB, hb.set_other (p := ⟨F, o, none⟩) (box_apart hb k (Ne.symm ht)) x, hc⟩
theorem RowQ.setBox {w : World} {B F : Nat} {a : Option Addr} {n : Nat} {O : DOps} {ds : Array Value} {t : TypeId} (h : RowQ w B a n O) (k : BoxIs w F ds t) (ht : t ≠ 40) (o : Nat) (x : Value) : RowQ (w.setCell ⟨F, o, none⟩ x) B a n O := by
  rcases h with h | ⟨b, off, cs, e, hB, hb, hc⟩
  · exact .inl h
  · exact .inr ⟨b, off, cs, e, hB, hb.set_other (p := ⟨F, o, none⟩) (box_apart hb k (Ne.symm ht)) x, hc⟩
theorem RowF.next {w w' : World} {B : Nat} {a : Option Addr} {n : Nat} {O : Files} (h : RowF w B a n O) (hm : Below w.heap.size w w') : RowF w' B a n O := by
  rcases h with h | ⟨b, off, cs, e, hB, hb, hc⟩
  · exact .inl h
  · exact .inr ⟨b, off, cs, e, hB, hb.next hm, hc⟩
theorem RowQ.next {w w' : World} {B : Nat} {a : Option Addr} {n : Nat} {O : DOps} (h : RowQ w B a n O) (hm : Below w.heap.size w w') : RowQ w' B a n O := by
  rcases h with h | ⟨b, off, cs, e, hB, hb, hc⟩
  · exact .inl h
  · exact .inr ⟨b, off, cs, e, hB, hb.next hm, hc⟩
theorem RowF.grown {w w' : World} {B : Nat} {a : Option Addr} {n : Nat} {O : Files} {x : Option Nat} (h : RowF w B a n O) (hg : w.grownBy w' x) (hx : n = 0 ∨ ∀ b, x = some b → ∀ p, a = some p → p.block ≠ b) : RowF w' B a n O := by
  rcases h with h | ⟨b, off, cs, e, hB, hb, hc⟩
  · exact .inl h
  · rcases hx with hx | hx
    · exact .inl hx
    · exact .inr ⟨b, off, cs, e, hB, (hg.block b hb.lt (fun k => hx b k.symm _ e rfl)).trans hb, hc⟩
theorem RowQ.grown {w w' : World} {B C : Nat} {a : Option Addr} {n : Nat} {O : DOps} {v : Value} {l : List File1} (h : RowQ w B a n O) (k : OwnFile w C v l) (hg : w.grownBy w' v.ownBlock) : RowQ w' B a n O := by
  rcases h with h | ⟨b, off, cs, e, hB, hb, hc⟩
  · exact .inl h
  · refine .inr ⟨b, off, cs, e, hB, (hg.block b hb.lt (fun j => ?_)).trans hb, hc⟩
    exact k.far hb (by decide) j.symm
theorem RowQ.drop {w : World} {B b off n : Nat} {O : DOps} (h : RowQ w B (some ⟨b, off, none⟩) (n + 1) O) : RowQ w B (some ⟨b, off + 4, none⟩) n ⟨fun i => O.K (i + 1), fun i => O.N (i + 1), fun i => O.T (i + 1), fun i => O.D (i + 1)⟩ := by
  rcases h with h | ⟨b, off, cs, e, hB, hb, hc⟩
  · omega
  · simp only [Option.some.injEq, Addr.mk.injEq, and_true] at e
    obtain ⟨rfl, rfl⟩ := e
    refine .inr ⟨_, _, cs, rfl, hB, hb, fun i hi => ?_⟩
    obtain ⟨c0, c1, c2, c3⟩ := hc (i + 1) (by omega)
    have e1 : off + 4 + i * 4 = off + (i + 1) * 4 := by omega
    rw [e1]
    exact ⟨c0, c1, c2, c3⟩

theorem RowF.of {w : World} {B : Nat} {v : Value} {l : List File1} (h : OwnFile w B v l) : ∃ a p, v = .slice a l.length p ∧ RowF w B a l.length (fnFile l) ∧ ∀ q, a = some q → v.ownBlock = some q.block := by
  rcases h.2 with ⟨rfl, h0⟩ | ⟨g, cap, cur, rfl, hg, hh, hle, hcap, hsz, htake⟩
  · have : l = [] := by simpa using h0
    subst this
    exact ⟨none, 0, rfl, .inl rfl, fun q e => by cases e⟩
  · refine ⟨_, _, rfl, .inr ⟨g, 0, cur, rfl, hg, hh, fun i hi => ?_⟩, fun q e => by cases e; rfl⟩
    have hc : ∀ j u, (cellsFile l)[j]? = some u → cur[j]? = some u := fun j u hu => by
      have hj : j < l.length * 2 := by have := (List.getElem?_eq_some_iff.1 hu).1; rwa [cellsFile_len] at this
      rw [← htake, List.getElem?_take, if_pos hj] at hu
      simpa using hu
    obtain ⟨h0, h1⟩ := cellsFile_get l i l[i] (by simp [hi])
    have hx := fnFile_at l i hi
    simp only [fileAt1] at hx
    rw [← hx] at h0 h1
    simp only [Nat.zero_add]
    exact ⟨hc _ _ h0, hc _ _ h1⟩
theorem RowQ.of {w : World} {B : Nat} {v : Value} {l : List DOp1} (h : OwnDOp w B v l) : ∃ a p, v = .slice a l.length p ∧ RowQ w B a l.length (fnDOp l) ∧ ∀ q, a = some q → v.ownBlock = some q.block := by
  rcases h.2 with ⟨rfl, h0⟩ | ⟨g, cap, cur, rfl, hg, hh, hle, hcap, hsz, htake⟩
  · have : l = [] := by simpa using h0
    subst this
    exact ⟨none, 0, rfl, .inl rfl, fun q e => by cases e⟩
  · refine ⟨_, _, rfl, .inr ⟨g, 0, cur, rfl, hg, hh, fun i hi => ?_⟩, fun q e => by cases e; rfl⟩
    have hc : ∀ j u, (cellsDOp l)[j]? = some u → cur[j]? = some u := fun j u hu => by
      have hj : j < l.length * 4 := by have := (List.getElem?_eq_some_iff.1 hu).1; rwa [cellsDOp_len] at this
      rw [← htake, List.getElem?_take, if_pos hj] at hu
      simpa using hu
    obtain ⟨h0, h1, h2, h3⟩ := cellsDOp_get l i l[i] (by simp [hi])
    have hx := fnDOp_at l i hi
    simp only [dOpAt1] at hx
    rw [← hx] at h0 h1 h2 h3
    simp only [Nat.zero_add]
    exact ⟨hc _ _ h0, hc _ _ h1, hc _ _ h2, hc _ _ h3⟩

/-- A disk whose rows lie in blocks from B on. -/
def DiskRow (w : World) (B : Nat) (v : Value) (c : DiskC) : Prop := ∃ a0 p0 a1 p1 a2 p2, v = .agg #[.slice a0 c.n0 p0, .slice a1 c.n1 p1, .slice a2 c.n2 p2] ∧ RowF w B a0 c.n0 c.r0 ∧ RowF w B a1 c.n1 c.r1 ∧ RowQ w B a2 c.n2 c.r2
theorem DiskRow.is {w : World} {B : Nat} {v : Value} {c : DiskC} (h : DiskRow w B v c) : DiskIs w v c := by
  obtain ⟨a0, p0, a1, p1, a2, p2, e, h0, h1, h2⟩ := h
  exact ⟨a0, p0, a1, p1, a2, p2, e, h0.at, h1.at, h2.at⟩
theorem DiskRow.mv {w w' : World} {B g : Nat} {v : Value} {c : DiskC} (h : DiskRow w B v c) (hm : Mv g w w') (hg : g < B) : DiskRow w' B v c := by
  obtain ⟨a0, p0, a1, p1, a2, p2, e, h0, h1, h2⟩ := h
  exact ⟨a0, p0, a1, p1, a2, p2, e, h0.mv hm hg, h1.mv hm hg, h2.mv hm hg⟩
theorem DiskRow.next {w w' : World} {B : Nat} {v : Value} {c : DiskC} (h : DiskRow w B v c) (hm : Below w.heap.size w w') : DiskRow w' B v c := by
  obtain ⟨a0, p0, a1, p1, a2, p2, e, h0, h1, h2⟩ := h
  exact ⟨a0, p0, a1, p1, a2, p2, e, h0.next hm, h1.next hm, h2.next hm⟩
theorem DiskRow.set {w : World} {B F : Nat} {v : Value} {c : DiskC} {ds : Array Value} (h : DiskRow w B v c) (k : BoxIs w F ds 31) (o : Nat) (x : Value) : DiskRow (w.setCell ⟨F, o, none⟩ x) B v c := by
  obtain ⟨a0, p0, a1, p1, a2, p2, e, h0, h1, h2⟩ := h
  exact ⟨a0, p0, a1, p1, a2, p2, e, h0.setBox k (by decide) o x, h1.setBox k (by decide) o x, h2.setBox k (by decide) o x⟩
theorem DiskRow.put3 {w : World} {B F : Nat} {v : Value} {c : DiskC} {ds : Array Value} (h : DiskRow w B v c) (k : BoxIs w F ds 31) (x y z : Value) : DiskRow (((w.setCell ⟨F, 0, none⟩ x).setCell ⟨F, 1, none⟩ y).setCell ⟨F, 2, none⟩ z) B v c :=
  ((h.set k 0 x).set (k.set 0 x) 1 y).set ((k.set 0 x).set 1 y) 2 z
theorem DiskRow.base {w : World} {B B' : Nat} {v : Value} {c : DiskC} (h : DiskRow w B v c) (hB : B' ≤ B) : DiskRow w B' v c := by
  obtain ⟨a0, p0, a1, p1, a2, p2, e, h0, h1, h2⟩ := h
  have f : ∀ {a n O}, RowF w B a n O → RowF w B' a n O := fun h => by
    rcases h with h | ⟨b, off, cs, e, hb, r⟩
    · exact .inl h
    · exact .inr ⟨b, off, cs, e, Nat.le_trans hB hb, r⟩
  have f2 : ∀ {a n O}, RowQ w B a n O → RowQ w B' a n O := fun h => by
    rcases h with h | ⟨b, off, cs, e, hb, r⟩
    · exact .inl h
    · exact .inr ⟨b, off, cs, e, Nat.le_trans hB hb, r⟩
  exact ⟨a0, p0, a1, p1, a2, p2, e, f h0, f h1, f2 h2⟩
theorem DiskRow.hid {w : World} {B : Nat} {v : Value} {c : DiskC} (h : DiskRow w B v c) : Hid (DiskRow w B v c) := h
theorem DiskMade.row {w : World} {B : Nat} {v : Value} {l s : List File1} {q : List DOp1} (h : DiskMade w B v l s q) : DiskRow w B v (dc l s q) := by
  obtain ⟨v0, v1, v2, rfl, m0, m1, m2, _⟩ := h
  obtain ⟨a0, p0, rfl, r0, _⟩ := RowF.of m0
  obtain ⟨a1, p1, rfl, r1, _⟩ := RowF.of m1
  obtain ⟨a2, p2, rfl, r2, _⟩ := RowQ.of m2
  exact ⟨a0, p0, a1, p1, a2, p2, rfl, r0, r1, r2⟩
/-- Its seen files grow by some. -/
theorem DiskMade.more {w w' : World} {B : Nat} {x0 : Option Addr} {n0 y0 : Nat} {v1 v2 v0' : Value} {l l' s : List File1} {q : List DOp1} (h : DiskMade w B (.agg #[.slice x0 n0 y0, v1, v2]) l s q) (hg : w.grownBy w' (Value.slice x0 n0 y0).ownBlock) (hn : OwnFile w' B v0' l') : DiskRow w' B (.agg #[v0', v1, v2]) (dc l' s q) := by
  obtain ⟨u0, u1, u2, e, m0, m1, m2, m3⟩ := h
  simp only [Value.agg.injEq, Array.mk.injEq, List.cons.injEq, and_true] at e
  obtain ⟨rfl, rfl, rfl⟩ := e
  obtain ⟨a0, p0, rfl, r0, _⟩ := RowF.of hn
  obtain ⟨a1, p1, rfl, r1, k1⟩ := RowF.of m1
  obtain ⟨a2, p2, rfl, r2, _⟩ := RowQ.of m2
  refine ⟨a0, p0, a1, p1, a2, p2, rfl, r0, r1.grown hg ?_, r2.grown m0 hg⟩
  rcases m3 with rfl | m3 | m3
  · exact .inl rfl
  · exact .inr fun b e => by rw [m3] at e; cases e
  · exact .inr fun b e p hp => by have := k1 p hp; rw [e, this] at m3; exact fun k => m3 (by rw [k])
theorem DiskMade.own0 {w : World} {B : Nat} {v0 v1 v2 : Value} {l s : List File1} {q : List DOp1} (h : DiskMade w B (.agg #[v0, v1, v2]) l s q) : OwnFile w B v0 l := by
  obtain ⟨u0, u1, u2, e, m0, m1, m2, m3⟩ := h
  simp only [Value.agg.injEq, Array.mk.injEq, List.cons.injEq, and_true] at e
  obtain ⟨rfl, rfl, rfl⟩ := e
  exact m0

/-- A disk that stays when the reader goes on. -/
def DiskMv (g : Nat) (w : World) (v : Value) (c : DiskC) : Prop := ∀ w', Mv g w w' → DiskIs w' v c
theorem DiskRow.stays {w : World} {B g : Nat} {v : Value} {c : DiskC} (h : DiskRow w B v c) (hg : g < B) : DiskMv g w v c := fun _ h' => (h.mv h' hg).is

/-- Bytes that are all zero. -/
def zerB (n : Nat) : ByteArray := ⟨Array.replicate n 0⟩
theorem zerB_size (n : Nat) : (zerB n).size = n := by show (Array.replicate n (0 : UInt8)).size = n; simp
theorem zerB_own (w : World) (n : Nat) (hn : n ≤ 1000000) : OwnB (w.alloc (.cells (madeCells #[.int .u8 0] n) 5)) w.heap.size 5 (.slice (some ⟨w.heap.size, 0, none⟩) n n) (zerB n) := by
  have hm : madeCells #[Value.int .u8 0] n = Array.replicate n (.int .u8 0) := by
    apply Array.ext
    · simp [madeCells]
    · intro i h1 h2
      simp [madeCells, Nat.mod_one]
  refine .inr ⟨w.heap.size, n, madeCells #[.int .u8 0] n, (0, 0), by rw [zerB_size], Nat.le_refl _, heap_alloc_new w _, .inl rfl, by rw [zerB_size]; exact Nat.le_refl _, by unfold maxLen; omega, by rw [hm]; simp, ?_⟩
  rw [hm, zerB_size]
  unfold zerB strCells
  apply List.ext_getElem
  · simp
  · intro i h1 h2
    simp

/-- One file in a block is a disk with it seen and safe. -/
theorem one_row {w : World} {B F : Nat} {n d : ByteArray} (h : BoxIs w F #[.string n, .string d] 96) (hB : B ≤ F) : DiskRow w B (.agg #[.slice (some ⟨F, 0, none⟩) 1 1, .slice (some ⟨F, 0, none⟩) 1 1, .slice none 0 0]) (dc [⟨n, d⟩] [⟨n, d⟩] []) := by
  have hr : RowF w B (some ⟨F, 0, none⟩) 1 (fnFile [⟨n, d⟩]) := .inr ⟨F, 0, _, rfl, hB, h, fun i hi => by
    obtain rfl : i = 0 := by omega
    exact ⟨rfl, rfl⟩⟩
  exact ⟨_, 1, _, 1, none, 0, rfl, hr, hr, .inl rfl⟩
theorem one_fit {n d : ByteArray} (hn : n.size ≤ 1048576) (hd : d.size ≤ 1048576) : (dc [⟨n, d⟩] [⟨n, d⟩] []).Fit :=
  have h : fitL [⟨n, d⟩] := ⟨by simp, fun x hx => by obtain rfl := List.mem_singleton.1 hx; exact ⟨hn, hd⟩⟩
  dc_fit h h fitQ_nil
theorem fit_dc {l s : List File1} {q : List DOp1} (h : (dc l s q).Fit) : fitL l ∧ fitL s ∧ fitQ q := by
  have h0 := fitL_files h.1.1 h.2.1
  have h1 := fitL_files h.1.2.1 h.2.2.1
  have h2 := fitQ_ops h.1.2.2 h.2.2.2
  rw [dc_live] at h0
  rw [dc_safe] at h1
  rw [dc_ops] at h2
  exact ⟨h0, h1, h2⟩
theorem more_fit {l s : List File1} {q : List DOp1} {f : File1} (h : (dc l s q).Fit) (hl : l.length ≤ 1000) (hn : f.n.size ≤ 1048576) (hd : f.d.size ≤ 1048576) : (dc (l ++ [f]) s q).Fit := by
  obtain ⟨h0, h1, h2⟩ := fit_dc h
  refine dc_fit ⟨by simp; omega, fun x hx => ?_⟩ h1 h2
  rcases List.mem_append.1 hx with hx | hx
  · exact h0.2 x hx
  · obtain rfl := List.mem_singleton.1 hx
    exact ⟨hn, hd⟩
theorem drop_fit {l s : List File1} {o : DOp1} {q : List DOp1} (h : (dc l s (o :: q)).Fit) : (dc l s q).Fit := by
  obtain ⟨h0, h1, h2⟩ := fit_dc h
  exact dc_fit h0 h1 ⟨by have := h2.1; simp at this; omega, fun x hx => h2.2 x (List.mem_cons_of_mem _ hx)⟩
theorem many_right {l s : List File1} {q : List DOp1} (h : dB (dc l s q) = true) : l.length ≤ 60 ∧ s.length ≤ 60 ∧ q.length ≤ 200 := by
  obtain ⟨h0, h1, h2, _⟩ := dB_all h
  exact ⟨(filesB_ris h0).2.2.1, (filesB_ris h1).2.2.1, h2⟩
/-- Its ops without the first one. -/
theorem DiskRow.drop {w : World} {B b off y2 y2' : Nat} {v0 v1 : Value} {l s : List File1} {o : DOp1} {q : List DOp1} (h : DiskRow w B (.agg #[v0, v1, .slice (some ⟨b, off, none⟩) (q.length + 1) y2]) (dc l s (o :: q))) : DiskRow w B (.agg #[v0, v1, .slice (some ⟨b, off + 4, none⟩) q.length y2']) (dc l s q) := by
  obtain ⟨a0, p0, a1, p1, a2, p2, e, h0, h1, h2⟩ := h
  simp only [Value.agg.injEq, Array.mk.injEq, List.cons.injEq, and_true, Value.slice.injEq] at e
  obtain ⟨rfl, rfl, rfl, _, rfl⟩ := e
  exact ⟨a0, p0, a1, p1, _, _, rfl, h0, h1, h2.drop⟩
theorem DiskRow.drop0 {w : World} {B y2 y2' : Nat} {x2 x2' : Option Addr} {v0 v1 : Value} {l s : List File1} {o : DOp1} (h : DiskRow w B (.agg #[v0, v1, .slice x2 1 y2]) (dc l s [o])) : DiskRow w B (.agg #[v0, v1, .slice x2' 0 y2']) (dc l s []) := by
  obtain ⟨a0, p0, a1, p1, a2, p2, e, h0, h1, h2⟩ := h
  simp only [Value.agg.injEq, Array.mk.injEq, List.cons.injEq, and_true, Value.slice.injEq] at e
  obtain ⟨rfl, rfl, rfl, _, rfl⟩ := e
  exact ⟨a0, p0, a1, p1, _, _, rfl, h0, h1, .inl rfl⟩
/-- Where its ops lie. -/
theorem DiskMade.ops {w : World} {B n2 y2 : Nat} {x2 : Option Addr} {v0 v1 : Value} {l s : List File1} {q : List DOp1} (h : DiskMade w B (.agg #[v0, v1, .slice x2 n2 y2]) l s q) : q.length ≤ y2 ∧ (0 < q.length → ∃ b, x2 = some ⟨b, 0, none⟩) := by
  obtain ⟨u0, u1, u2, e, m0, m1, m2, m3⟩ := h
  simp only [Value.agg.injEq, Array.mk.injEq, List.cons.injEq, and_true] at e
  obtain ⟨rfl, rfl, rfl⟩ := e
  rcases m2.2 with ⟨e, h0⟩ | ⟨b, cap, cur, e, hg, hh, hle, r⟩
  · exact ⟨by omega, fun h => by omega⟩
  · simp only [Value.slice.injEq] at e
    obtain ⟨rfl, rfl, rfl⟩ := e
    exact ⟨hle, fun _ => ⟨b, rfl⟩⟩
/-- 'append' onto a row of files, told as growth. -/
theorem wpList_append_fileG {w : World} {ops : Array Oper} {rest : List Oper} {o : Oper} {a : Act} {Q : Exit → Act → World → Prop} (hgd : o.guard = none) (s x : Operand) (t : TypeId)
    (ho : o.op = .call { callee := .builtin .append, args := #[s, x], argTypes := #[t, t] }) (ht : Try.prog.underlying t = some (.slice 96))
    (B : Nat) (v : Value) (es news : List File1) (hs : a.eval s = v) (hown : OwnFile w B v es) (ad : Addr) (m c : Nat) (hx : a.eval x = .slice (some ad) m c) (hm : news.length = m)
    (hnews : ∀ j u, (cellsFile news)[j]? = some u → w.cell? (ad.add j) = some u) (hB : B ≤ w.heap.size) (hlen : es.length + m ≤ 1000000)
    (h : ∀ v' w', OwnFile w' B v' (es ++ news) → w.grownBy w' v.ownBlock → wpList Try.prog ops Q rest (a.put o.dst v') w') : wpList Try.prog ops Q (o :: rest) a w := by
  obtain ⟨i0, hi', hz0, hs0, hb0⟩ := info_parts file_info
  refine wpList_append_own w hgd s x t ho B 96 i0 _ 2 32 ht hi' hz0 hs0 hb0 rfl (by decide) _ es.length (cellsFile es) hs hown ad m c (cellsFile news) hx (by rw [cellsFile_len, hm]) hnews (cellsFile_one news) (by unfold maxLen; omega) (by omega) hB ?_
  intro v' w' h1 h2 _
  refine h v' w' ?_ h2
  unfold OwnFile
  rw [List.length_append, hm, cellsFile_append]
  exact h1
theorem mk_zeros (n : Nat) (hn : n ≤ 1000000) (w : World) : (Instr.makeSlice 57 (.int .i64 (n : Int)) (.int .i64 (n : Int))).run Try.prog w = .ok (.slice (some ⟨w.heap.size, 0, none⟩) n n) (w.alloc (.cells (madeCells #[.int .u8 0] n) 5)) := by
  exact run_make_row' 57 5 (.int .u8 0) 1 Try.underlying57 (by kernel_rfl) rfl .i64 .i64 n (by omega) (by omega) w

end Go.Proofs.Ytejedpmkbkclhaa
