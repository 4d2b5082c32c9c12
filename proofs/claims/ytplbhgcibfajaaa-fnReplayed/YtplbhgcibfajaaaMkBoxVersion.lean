/- The marks in a version: laid and looked for; a version that an answer owns. (By gen_mkbox.py.) -/
import Derived.Test.YtplbhgcibfajaaaVersion
import Derived.Test.YtplbhgcibfajaaaMkMeta
import Derived.Test.YtplbhgcibfajaaaMine
namespace Go.Proofs.Ytplbhgcibfajaaa
set_option maxRecDepth 100000
open Go.RowKit Go.Deep

/-- A version whose row the answer owns. -/
def VersionOwn (w : World) (B : Nat) (v : Value) (c : VersionC) : Prop := ∃ a p, v = .agg #[.slice a c.n0 p, .int .i64 c.x1, .int .i64 c.x2, .int .i64 c.x3] ∧ Mine w B 59 5 a p c.n0 (metaCell c.r0)

theorem VersionIs.of_mine {w : World} {B : Nat} {a : Option Addr} {p : Nat} {c : VersionC} (h : Mine w B 59 5 a p c.n0 (metaCell c.r0)) : VersionIs w (.agg #[.slice a c.n0 p, .int .i64 c.x1, .int .i64 c.x2, .int .i64 c.x3]) c := ⟨a, p, rfl, metaAt_mine h⟩
theorem VersionOwn.is {w : World} {B : Nat} {v : Value} {c : VersionC} (h : VersionOwn w B v c) : VersionIs w v c := by
  obtain ⟨a, p, rfl, hm⟩ := h
  exact VersionIs.of_mine hm
theorem VersionOwn.next {w w' : World} {B : Nat} {v : Value} {c : VersionC} (h : VersionOwn w B v c) (hb : Below w.heap.size w w') : VersionOwn w' B v c := by
  obtain ⟨a, p, hv, hm⟩ := h
  exact ⟨a, p, hv, hm.next hb⟩
theorem VersionOwn.base {w : World} {B B' : Nat} {v : Value} {c : VersionC} (h : VersionOwn w B v c) (hB : B' ≤ B) : VersionOwn w B' v c := by
  obtain ⟨a, p, hv, hm⟩ := h
  exact ⟨a, p, hv, hm.base hB⟩
theorem VersionOwn.hid {w : World} {B : Nat} {v : Value} {c : VersionC} (h : VersionOwn w B v c) : Hid (VersionOwn w B v c) := h

theorem laws_markVersion (K0 : Nat) (kv : Int) (hkv : kv = (K0 : Int)) (hK : 1 ≤ K0 ∧ K0 ≤ 50000000) (a : Option Addr) (p g : Nat) (c : VersionC) (w : World) (hl : c.n0 ≤ 1048576) (hg : c.n0 = 0 ∨ a = some ⟨g, 0, none⟩) (hw : ∀ j, j < c.n0 * 5 → (∃ v, w.cell? ⟨g, j, none⟩ = some v) ∧ w.frozen? ⟨g, j, none⟩ = false) :
    Calls Try.prog 15 #[.agg #[.slice a c.n0 p, .int .i64 c.x1, .int .i64 c.x2, .int .i64 c.x3], .int .i64 kv] w fun e w' => e = .returned (.int .i64 ((K0 + c.n0 * 5 : Nat) : Int)) ∧ Mv g w w' ∧ ∀ j, j < c.n0 * 5 → w'.cell? ⟨g, j, none⟩ = some (mkCell kdMetaS K0 j) := by
  have hb := below_one w (.cells #[.slice a c.n0 p, .int .i64 c.x1, .int .i64 c.x2, .int .i64 c.x3] 32)
  have hw2 : ∀ j, j < c.n0 * 5 → (∃ v, (w.alloc (.cells #[.slice a c.n0 p, .int .i64 c.x1, .int .i64 c.x2, .int .i64 c.x3] 32)).cell? ⟨g, j, none⟩ = some v) ∧ (w.alloc (.cells #[.slice a c.n0 p, .int .i64 c.x1, .int .i64 c.x2, .int .i64 c.x3] 32)).frozen? ⟨g, j, none⟩ = false := fun j hj => by
    obtain ⟨⟨v, hv⟩, hf⟩ := hw j hj
    exact ⟨⟨v, keepc hb hv⟩, (hb.frozen (p := ⟨g, j, none⟩) (World.block_lt_of_cell? _ ⟨g, j, none⟩ hv)).trans hf⟩
  have HM := hide (Mv.of_below (g := g) hb)
  subst hkv
  clear hw hb
  go_enter Try.func15, Try.ntmps15
  go_wp2_with fail
  generalize w.alloc (.cells #[.slice a c.n0 p, .int .i64 c.x1, .int .i64 c.x2, .int .i64 c.x3] 32) = W at hw2 HM ⊢
  refine (laws_markMetaS K0 _ rfl hK a c.n0 p g W hl hg hw2).mono ?_
  rintro e w1 ⟨rfl, hM⟩
  have HM1 := hide hM
  clear hM hw2
  go_wp2
  go_ret
  exact ⟨rfl, HM.out.trans HM1.out.mv, HM1.out.ok⟩

theorem laws_heldVersion (K0 : Nat) (kv : Int) (hkv : kv = (K0 : Int)) (hK : 1 ≤ K0 ∧ K0 ≤ 50000000) (a : Option Addr) (p g : Nat) (c : VersionC) (w : World) (hl : c.n0 ≤ 1048576) (hg : c.n0 = 0 ∨ a = some ⟨g, 0, none⟩) (hw : ∀ j, j < c.n0 * 5 → w.cell? ⟨g, j, none⟩ = some (mkCell kdMetaS K0 j)) :
    Calls Try.prog 17 #[.agg #[.slice a c.n0 p, .int .i64 c.x1, .int .i64 c.x2, .int .i64 c.x3], .int .i64 kv] w fun e w' => e = .returned (.int .i64 ((K0 + c.n0 * 5 : Nat) : Int)) ∧ Below w.heap.size w w' := by
  have hb := below_one w (.cells #[.slice a c.n0 p, .int .i64 c.x1, .int .i64 c.x2, .int .i64 c.x3] 32)
  have hw2 : ∀ j, j < c.n0 * 5 → (w.alloc (.cells #[.slice a c.n0 p, .int .i64 c.x1, .int .i64 c.x2, .int .i64 c.x3] 32)).cell? ⟨g, j, none⟩ = some (mkCell kdMetaS K0 j) := fun j hj => keepc hb (hw j hj)
  have HB := hide hb
  subst hkv
  clear hw hb
  go_enter Try.func17, Try.ntmps17
  go_wp2_with fail
  generalize w.alloc (.cells #[.slice a c.n0 p, .int .i64 c.x1, .int .i64 c.x2, .int .i64 c.x3] 32) = W at hw2 HB ⊢
  refine (laws_heldMetaS K0 _ rfl hK a c.n0 p g W hl hg hw2).mono ?_
  rintro e w1 ⟨rfl, hB⟩
  have HB1 := hide (HB.out.trans (hB.mono HB.out.size))
  have hp : ¬ (((K0 + c.n0 * 5 : Nat) : Int) < 0) := by omega
  clear hB hw2 HB
  go_wp2
  go_ret
  exact ⟨rfl, HB1.out⟩

end Go.Proofs.Ytplbhgcibfajaaa
