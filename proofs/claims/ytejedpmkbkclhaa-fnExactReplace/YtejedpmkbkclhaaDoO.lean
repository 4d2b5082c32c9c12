/- Do of both sides, as the law on it asks. -/
import Derived.Test.YtejedpmkbkclhaaDoA
import Derived.Test.YtejedpmkbkclhaaDoS
import Derived.Test.YtejedpmkbkclhaaSyO
namespace Go.Proofs.Ytejedpmkbkclhaa
set_option maxRecDepth 100000
open Go.RowKit Go.Deep

theorem do_is0 {c : DiskC} {o : DOp1} (h : doK c o = 0) : dB c = true ∧ formB o = true ∧ fitsB (doF (filesL c.r0 c.n0) o) = true := by
  unfold doK at h
  cases h1 : dB c with
  | false => rw [h1] at h; simp at h
  | true =>
    cases h2 : formB o with
    | false => rw [h1, h2] at h; simp at h
    | true =>
      cases h3 : fitsB (doF (filesL c.r0 c.n0) o) with
      | true => exact ⟨rfl, rfl, rfl⟩
      | false => rw [h1, h2, h3] at h; simp at h; split at h <;> omega
def doC (c : DiskC) (o : DOp1) : DiskC := dc (doL c o) (doS c o) (doQ c o)
theorem doC_fit {c : DiskC} (hf : c.Fit) {o : DOp1} (hs : o.t.size ≤ 1048576) (hd : o.d.size ≤ 1048576) : (doC c o).Fit := by
  have h0 : fitL (filesL c.r0 c.n0) := fitL_files hf.1.1 hf.2.1
  have h1 : fitL (filesL c.r1 c.n1) := fitL_files hf.1.2.1 hf.2.2.1
  have h2 : fitQ (dOpsL c.r2 c.n2) := fitQ_ops hf.1.2.2 hf.2.2.2
  refine dc_fit ?_ ?_ ?_
  · unfold doL
    split
    · exact fitL_nil
    · split
      · rename_i hk
        obtain ⟨hdd, hfo, hfi⟩ := do_is0 hk
        obtain ⟨hl0, _, _⟩ := dB_parts hdd
        obtain ⟨_, hnm, _, _⟩ := filesB_ris hl0
        have hnn : ∀ x, x ∈ filesL c.r0 c.n0 → nameB x.n = true := fun x hx => by obtain ⟨i, hi, rfl⟩ := List.mem_map.1 hx; exact hnm i (List.mem_range.1 hi)
        obtain ⟨q1, q2⟩ := fits_sizes hfi
        refine ⟨by omega, fun x hx => ⟨?_, ?_⟩⟩
        · have := nameB_size (names_do hfo hnn x hx); omega
        · have := sizeF_mem hx; omega
      · exact h0
  · unfold doS
    split
    · exact fitL_nil
    · exact h1
  · unfold doQ
    split
    · exact fitQ_nil
    · split
      · rename_i hk
        obtain ⟨hdd, hfo, _⟩ := do_is0 hk
        obtain ⟨_, _, h200⟩ := dB_parts hdd
        have hm := form_n hfo
        refine ⟨by rw [List.length_append, dOpsL_len, List.length_singleton]; omega, fun x hx => ?_⟩
        rcases List.mem_append.1 hx with h | h
        · exact h2.2 x h
        · obtain rfl := List.mem_singleton.1 h
          exact ⟨by omega, hs, hd⟩
      · exact h2
theorem spec_DoO (v : Value) (c : DiskC) (k : Int) (m s d : ByteArray) (w : World) (hf : c.Fit) (hm : m.size ≤ 1048576) (hs : s.size ≤ 1048576) (hd : d.size ≤ 1048576) (hv : DiskIs w v c) :
    Calls Try.prog 18 #[v, .agg #[.int .i64 k, .string m, .string s, .string d]] w fun e w' => (∃ u, e = .returned (.tuple #[u, .int .i64 (doK c ⟨k, m, s, d⟩)]) ∧ DiskOwn w' w.heap.size u (doC c ⟨k, m, s, d⟩)) ∧ Below w.heap.size w w' :=
  (spec_Do v c k m s d w hf (by omega) hs hd hv).mono (by rintro e w' ⟨⟨u, hu, ho⟩, hb⟩; exact ⟨⟨u, hu, ho.own⟩, hb⟩)
theorem impl_DoO (v : Value) (c : DiskC) (k : Int) (m s d : ByteArray) (w : World) (hf : c.Fit) (hm : m.size ≤ 1048576) (hs : s.size ≤ 1048576) (hd : d.size ≤ 1048576) (hv : DiskIs w v c) :
    Calls Try.prog 20 #[v, .agg #[.int .i64 k, .string m, .string s, .string d]] w fun e w' => (∃ u, e = .returned (.tuple #[u, .int .i64 (doK c ⟨k, m, s, d⟩)]) ∧ DiskOwn w' w.heap.size u (doC c ⟨k, m, s, d⟩)) ∧ Below w.heap.size w w' :=
  (impl_Do v c k m s d w hf (by omega) hs hd hv).mono (by rintro e w' ⟨⟨u, hu, ho⟩, hb⟩; exact ⟨⟨u, hu, ho.own⟩, hb⟩)

theorem Mine.setBoxD {w : World} {B : Nat} {ty t : TypeId} {k F : Nat} {a : Option Addr} {p n : Nat} {f : Nat → Value} {cs : Array Value} (h : Mine w B ty k a p n f) (hb : BoxIs w F cs t) (hne : t ≠ ty) (j : Nat) (v : Value) : Mine (w.setCell ⟨F, j, none⟩ v) B ty k a p n f := by
  rcases h with h | ⟨g, cur, ha, hB, hh, hn, hc⟩
  · exact .inl h
  · have hg : F ≠ g := fun e => by
      subst e
      have h1 : w.heap[F]? = some (.cells cs t) := hb
      rw [h1] at hh
      simp only [Option.some.injEq, Obj.cells.injEq] at hh
      exact hne hh.2.1
    exact .inr ⟨g, cur, ha, hB, (show BoxIs w g cur ty from hh).set_other (p := ⟨F, j, none⟩) hg v, hn, hc⟩
theorem Mine3.setBox {w : World} {B F : Nat} {a0 : Option Addr} {p0 : Nat} {a1 : Option Addr} {p1 : Nat} {a2 : Option Addr} {p2 : Nat} {c : DiskC} {cs : Array Value} (h : Mine3 w B a0 p0 a1 p1 a2 p2 c) (hb : BoxIs w F cs 31) (j : Nat) (v : Value) : Mine3 (w.setCell ⟨F, j, none⟩ v) B a0 p0 a1 p1 a2 p2 c :=
  ⟨h.m0.setBoxD hb (by decide) j v, h.m1.setBoxD hb (by decide) j v, h.m2.setBoxD hb (by decide) j v, h.ap⟩
theorem Mine3.base {w : World} {B B' : Nat} {a0 : Option Addr} {p0 : Nat} {a1 : Option Addr} {p1 : Nat} {a2 : Option Addr} {p2 : Nat} {c : DiskC} (h : Mine3 w B a0 p0 a1 p1 a2 p2 c) (hB : B' ≤ B) : Mine3 w B' a0 p0 a1 p1 a2 p2 c := ⟨h.m0.base hB, h.m1.base hB, h.m2.base hB, h.ap⟩
/-- A box of another kind is none of its rows' blocks. -/
theorem Mine.ne_box {w : World} {B : Nat} {ty t : TypeId} {k F g : Nat} {a : Option Addr} {p n : Nat} {f : Nat → Value} {cs : Array Value} (h : Mine w B ty k a p n f) (hb : BoxIs w F cs t) (hne : t ≠ ty) (ha : n = 0 ∨ a = some ⟨g, 0, none⟩) : n = 0 ∨ F ≠ g := by
  rcases ha with ha | ha
  · exact .inl ha
  · rcases h with h | ⟨g', cur, ha', hB, hh, hn, hc⟩
    · exact .inl h.2.2
    · rw [ha] at ha'
      simp only [Option.some.injEq, Addr.mk.injEq, and_true] at ha'
      subst ha'
      refine .inr fun e => ?_
      subst e
      have h1 : w.heap[F]? = some (.cells cs t) := hb
      rw [h1] at hh
      simp only [Option.some.injEq, Obj.cells.injEq] at hh
      exact hne hh.2.1

/-- An op that came in. -/
def IsDOp (v : Value) : Prop := ∃ k m s d, v = .agg #[.int .i64 k, .string m, .string s, .string d] ∧ m.size ≤ maxLen ∧ s.size ≤ maxLen ∧ d.size ≤ maxLen
theorem open_dop {H : Type} {enc : TypeId × Value → H} {w : World} {r : Reach} {b0 base : Nat} {spare : Nat → Bool} {held : Bool} {v : Value} {d : DataW H} {p : List MemPlace}
    (hv : Value.okWide Try.prog w r b0 36 v) (h : DataW.Trod enc Try.prog w base spare held 36 v d p) : IsDOp v := by
  obtain ⟨cs, rfl, hsz⟩ := WideShapes.okWide_struct Try.underlying36 hv
  obtain ⟨fuel, hf⟩ := h
  obtain ⟨k, m, s, d', e, h1, h2, h3⟩ := dOp_trod hf
  have : cs = #[.int .i64 k, .string m, .string s, .string d'] := Array.toList_inj.1 (by simpa [Value.cells] using e)
  subst this
  exact ⟨k, m, s, d', rfl, h1, h2, h3⟩

end Go.Proofs.Ytejedpmkbkclhaa
