/- What turns while closures over texts of their own run: blocks of texts alone; the closure of lookedAt. -/
import Derived.Test.YtapajchnfjjipaaEnts
import Derived.Test.YtapajchnfjjipaaBox
import Derived.Test.YtapajchnfjjipaaReg
namespace Go.Proofs.Ytapajchnfjjipaa
set_option maxRecDepth 100000
open Go.RowKit Go.Deep

/-- Of what was there blocks of texts from block B on alone may have turned. -/
structure Sm (B : Nat) (w w' : World) : Prop where
  below : Below B w w'
  block : ∀ (k : Nat) (cs : Array Value) (t : TypeId), t ≠ 9 → w.heap[k]? = some (.cells cs t) → w'.heap[k]? = some (.cells cs t)

theorem Sm.refl (B : Nat) (w : World) : Sm B w w := ⟨Below.refl _ _, fun _ _ _ _ h => h⟩
theorem Sm.trans {B : Nat} {a b c : World} (h : Sm B a b) (k : Sm B b c) : Sm B a c := ⟨h.below.trans k.below, fun i cs t ht hh => k.block i cs t ht (h.block i cs t ht hh)⟩
theorem Sm.base {B B' : Nat} {a b : World} (h : Sm B a b) (hB : B' ≤ B) : Sm B' a b := ⟨h.below.mono hB, h.block⟩
theorem Sm.of_below {B : Nat} {a b : World} (h : Below a.heap.size a b) (hB : B ≤ a.heap.size) : Sm B a b :=
  ⟨h.mono hB, fun k _ _ _ hh => (h.block k (Array.getElem?_eq_some_iff.1 hh).1).trans hh⟩
theorem Sm.size {B : Nat} {a b : World} (h : Sm B a b) : a.heap.size ≤ b.heap.size := h.below.size
/-- A text's box is written. -/
theorem Sm.set {B : Nat} {w : World} {g : Nat} {cs : Array Value} (hg : BoxIs w g cs 9) (hB : B ≤ g) (o : Nat) (v : Value) : Sm B w (w.setCell ⟨g, o, none⟩ v) :=
  ⟨(Below.refl _ _).setCell (p := ⟨g, o, none⟩) hB v, fun k cs' t ht hh => by
    by_cases e : k = g
    · subst e
      have hg' : w.heap[k]? = some (.cells cs 9) := hg
      rw [hg'] at hh
      simp only [Option.some.injEq, Obj.cells.injEq] at hh
      exact absurd hh.2.1.symm ht
    · rw [Below.heap_setCell _ _ _ _ (by simpa using e)]; exact hh⟩
theorem BoxIs.sm {B : Nat} {w w' : World} {F : Nat} {cs : Array Value} {t : TypeId} (h : BoxIs w F cs t) (hs : Sm B w w') (ht : t ≠ 9) : BoxIs w' F cs t := hs.block F cs t ht h
theorem ownsRow_sm {B B0 : Nat} {w w' : World} {ty : TypeId} {k : Nat} {v : Value} {n : Nat} {xs : List Value} (h : w.ownsRow B0 ty k v n xs) (hs : Sm B w w') (ht : ty ≠ 9) : w'.ownsRow B0 ty k v n xs := by
  refine ⟨h.1, ?_⟩
  rcases h.2 with hn | ⟨g, cap, cur, hv, hg, hh, r⟩
  · exact .inl hn
  · exact .inr ⟨g, cap, cur, hv, hg, hs.block g cur ty ht hh, r⟩
theorem EntAt.sm {w w' : World} {B : Nat} {a : Option Addr} {len : Nat} {E : Ents} (h : EntAt w B a len E) (hs : Sm B w w') : EntAt w' B a len E := h.below hs.below
theorem BoxIs.ne {w : World} {F G : Nat} {cs ds : Array Value} {t u : TypeId} (h : BoxIs w F cs t) (k : BoxIs w G ds u) (ht : t ≠ u) : F ≠ G := by
  intro e; subst e
  have h' : w.heap[F]? = some (.cells cs t) := h
  have k' : w.heap[F]? = some (.cells ds u) := k
  rw [h'] at k'
  simp only [Option.some.injEq, Obj.cells.injEq] at k'
  exact ht k'.2.1

/-- Is a key of user u and number q looked at as of seq, when the last one was of user p. -/
def lk (seq : Int) (p u : ByteArray) (q : Int) : Bool := decide (u ≠ p) && decide (q ≤ seq)
theorem lk_same {seq : Int} {p u : ByteArray} {q : Int} (h : u = p) : lk seq p u q = false := by unfold lk; simp [h]
theorem lk_high {seq : Int} {p u : ByteArray} {q : Int} (h : seq < q) : lk seq p u q = false := by
  unfold lk; rw [decide_eq_false (p := q ≤ seq) (by omega), Bool.and_false]
theorem lk_yes {seq : Int} {p u : ByteArray} {q : Int} (h : u ≠ p) (h2 : q ≤ seq) : lk seq p u q = true := by unfold lk; simp [h, h2]
def lkp (seq : Int) (p u : ByteArray) (q : Int) : ByteArray := if lk seq p u q = true then u else p

theorem toList_neL {a b : ByteArray} (h : a ≠ b) : ¬ a.toList = b.toList := fun e => h (by
  rw [ByteArray.toList_eq, ByteArray.toList_eq] at e
  exact ByteArray.ext (Array.toList_inj.1 e))

/-- The closure of lookedAt: its two variables lie at g and b. -/
abbrev lookF (g b : Nat) : Value := .func (.func 63) #[] #[.pointer (some ⟨g, 0, none⟩), .pointer (some ⟨b, 0, none⟩)]

set_option maxHeartbeats 400000 in
theorem impl_look (p u : ByteArray) (q k seq : Int) (w : World) (B g b : Nat) (hB : B ≤ g) (hBw : B ≤ w.heap.size) (hg : BoxIs w g #[.string p] 9) (hb : BoxIs w b #[.int .i64 seq] 2) :
    Calls Try.prog 63 #[.agg #[.string u, .int .i64 q, .int .i64 k], .pointer (some ⟨g, 0, none⟩), .pointer (some ⟨b, 0, none⟩)] w fun e w' =>
      e = .returned (.bool (lk seq p u q)) ∧ Sm B w w' ∧ Mv g w w' ∧ BoxIs w' g #[.string (lkp seq p u q)] 9 := by
  have hb1 := below_one w (.cells #[.string u, .int .i64 q, .int .i64 k] 43)
  have hg1 := hg.next hb1
  have hb2 := hb.next hb1
  have HS1 := hide (Sm.of_below (B := B) hb1 hBw)
  have HM1 := hide (Mv.of_below (g := g) hb1)
  have HG1 := hg1.hid
  have c0 : (w.alloc (.cells #[.string u, .int .i64 q, .int .i64 k] 43)).cell? ⟨g, 0, none⟩ = some (.string p) := hg1.cell 0
  have c1 : (w.alloc (.cells #[.string u, .int .i64 q, .int .i64 k] 43)).cell? ⟨b, 0, none⟩ = some (.int .i64 seq) := hb2.cell 0
  have f0 := hg1.free 0
  have hgl := hg.lt
  have hbl := hb.lt
  have hgn : g ≠ w.heap.size := by omega
  have hbn : b ≠ w.heap.size := by omega
  have HG0 := hg.hid
  clear hb1 hg1 hb2 hg hb
  by_cases h1 : u = p
  · subst h1
    have HV : Hid (lk seq u u q = false) := lk_same rfl
    have HP : Hid (lkp seq u u q = u) := by show _ = _; unfold lkp; rw [HV.out]; rfl
    go_enter Try.func63, Try.ntmps63
    go_wp2
    go_ret
    exact ⟨ret_boolE HV.out.symm, HS1.out, HM1.out, by rw [HP.out]; exact HG1.out⟩
  · have h1' := toList_neL h1
    have h1'' : (u.toList == p.toList) = false := by simpa using h1'
    by_cases h2 : seq < q
    · have HV : Hid (lk seq p u q = false) := lk_high h2
      have HP : Hid (lkp seq p u q = p) := by show _ = _; unfold lkp; rw [HV.out]; rfl
      go_enter Try.func63, Try.ntmps63
      go_wp2
      go_ret
      exact ⟨ret_boolE HV.out.symm, HS1.out, HM1.out, by rw [HP.out]; exact HG1.out⟩
    · have HV : Hid (lk seq p u q = true) := lk_yes h1 (by omega)
      have HP : Hid (lkp seq p u q = u) := by show _ = _; unfold lkp; rw [HV.out]; rfl
      have hz : (w.setCell ⟨g, 0, none⟩ (.string u)).heap.size = w.heap.size := by simp [World.setCell]
      have hb3 := below_one (w.setCell ⟨g, 0, none⟩ (.string u)) (.cells #[.string u, .int .i64 q, .int .i64 k] 43)
      have HS2 := hide ((Sm.set HG0.out hB 0 (.string u)).trans (Sm.of_below (B := B) hb3 (by omega)))
      have HM2 := hide (((Mv.refl g w).setCell (o := 0) (.string u)).trans (Mv.of_below hb3))
      have HG2 : Hid (BoxIs ((w.setCell ⟨g, 0, none⟩ (.string u)).alloc (.cells #[.string u, .int .i64 q, .int .i64 k] 43)) g #[.string u] 9) := (HG0.out.set 0 (.string u)).next hb3
      clear hz hb3
      clear HS1 HM1 HG1
      go_enter Try.func63, Try.ntmps63
      go_wp2
      go_ret
      exact ⟨ret_boolE HV.out.symm, HS2.out, HM2.out, by rw [HP.out]; exact HG2.out⟩

/-- lookedAt: a closure with two blocks of its own. -/
theorem impl_lookedAt (seq : Int) (w : World) :
    Calls Try.prog 50 #[.int .i64 seq] w fun e w' => (∃ g b, e = .returned (lookF g b) ∧ w.heap.size ≤ g ∧ BoxIs w' g #[.string ⟨#[]⟩] 9 ∧ BoxIs w' b #[.int .i64 seq] 2) ∧ Below w.heap.size w w' := by
  have hmf : ∀ (fn : Fn) (first cap : Array Value) (w : World), (Instr.makeFunc fn first cap).run Try.prog w = .ok (.func fn first cap) w := fun _ _ _ _ => rfl
  have hb1 := below_one w (.cells #[.int .i64 seq] 2)
  have HX := (BoxIs.new w #[.int .i64 seq] 2 rfl).hid
  have hb2 := below_one (w.alloc (.cells #[.int .i64 seq] 2)) (.cells #[.string ⟨#[]⟩] 9)
  have HY := (BoxIs.new (w.alloc (.cells #[.int .i64 seq] 2)) #[.string ⟨#[]⟩] 9 (g := w.heap.size + 1) (by simp)).hid
  have HX2 := (HX.out.next hb2).hid
  have HB := hide (hb1.trans (hb2.mono hb1.size))
  clear hb1 hb2 HX
  go_enter Try.func50, Try.ntmps50
  go_wp2
  go_ret
  exact ⟨⟨_, _, rfl, by simp, HY.out, HX2.out⟩, HB.out⟩

end Go.Proofs.Ytapajchnfjjipaa
