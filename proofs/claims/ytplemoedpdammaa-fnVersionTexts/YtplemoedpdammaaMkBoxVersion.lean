/- The marks in a version: laid and looked for; a version that an answer owns. (By gen_mkbox.py.) -/
import Derived.Test.YtplemoedpdammaaVersion
import Derived.Test.YtplemoedpdammaaMkMeta
import Derived.Test.YtplemoedpdammaaMine
namespace Go.Proofs.Ytplemoedpdammaa
set_option maxRecDepth 100000
open Go.RowKit Go.Deep

/-- A version whose row the answer owns. -/
def VersionOwn (w : World) (B : Nat) (v : Value) (c : VersionC) : Prop := ∃ a p, v = .agg #[.slice a c.n0 p, .int .i64 c.x1, .int .i64 c.x2, .int .i64 c.x3] ∧ Mine w B 62 5 a p c.n0 (metaCell c.r0)

theorem VersionIs.of_mine {w : World} {B : Nat} {a : Option Addr} {p : Nat} {c : VersionC} (h : Mine w B 62 5 a p c.n0 (metaCell c.r0)) : VersionIs w (.agg #[.slice a c.n0 p, .int .i64 c.x1, .int .i64 c.x2, .int .i64 c.x3]) c := ⟨a, p, rfl, metaAt_mine h⟩
theorem VersionOwn.is {w : World} {B : Nat} {v : Value} {c : VersionC} (h : VersionOwn w B v c) : VersionIs w v c := by
  obtain ⟨a, p, rfl, hm⟩ := h
  exact VersionIs.of_mine hm
theorem VersionOwn.next {w w' : World} {B : Nat} {v : Value} {c : VersionC} (h : VersionOwn w B v c) (hb : Below w.heap.size w w') : VersionOwn w' B v c := by
  obtain ⟨a, p, hv, hm⟩ := h
  exact ⟨a, p, hv, hm.next hb⟩
theorem VersionOwn.base {w : World} {B B' : Nat} {v : Value} {c : VersionC} (h : VersionOwn w B v c) (hB : B' ≤ B) : VersionOwn w B' v c := by
  obtain ⟨a, p, hv, hm⟩ := h
  exact ⟨a, p, hv, hm.base hB⟩
theorem VersionOwn.hid {w : World} {B : Nat} {v : Value} {c : VersionC} (h : VersionOwn w B v c) : Hid (VersionOwn w B v c) := h

end Go.Proofs.Ytplemoedpdammaa
