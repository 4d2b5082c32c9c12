/- Rows of files of one's own: moved, and not nil; the version of nothing. No walk. -/
import Derived.Test.YtplbhgcibfajaaaVerP
import Derived.Test.YtplbhgcibfajaaaMkBoxVersion
import Derived.Test.YtplbhgcibfajaaaBox
namespace Go.Proofs.Ytplbhgcibfajaaa
set_option maxRecDepth 100000
open Go.RowKit

theorem toList_neV {a b : ByteArray} (h : ¬ a = b) : ¬ a.toList = b.toList := fun e => h (by
  rw [ByteArray.toList_eq, ByteArray.toList_eq] at e
  exact ByteArray.ext (Array.toList_inj.1 e))
theorem OwnMeta.mv {w w' : World} {B r : Nat} {v : Value} {es : List Meta1} (h : OwnMeta w B v es) (hm : Mv r w w') (hr : r < B) : OwnMeta w' B v es := by
  refine ⟨h.1, ?_⟩
  rcases h.2 with hn | ⟨g, cap, cur, rfl, hg, hh, rr⟩
  · exact .inl hn
  · exact .inr ⟨g, cap, cur, rfl, hg, (hm.block g (Array.getElem?_eq_some_iff.1 hh).1 (by omega)).trans hh, rr⟩

theorem OwnMeta.some {w : World} {B : Nat} {v : Value} {es : List Meta1} (h : OwnMeta w B v es) (hne : es.length ≠ 0) : ∃ g cap, v = .slice (.some ⟨g, 0, none⟩) es.length cap := by
  rcases h.2 with ⟨rfl, h0⟩ | ⟨g, cap, cur, rfl, r⟩
  · exact absurd h0 hne
  · exact ⟨g, cap, rfl⟩

/-- The answer where there is no version. -/
theorem zeroV_own (w : World) (B : Nat) : VersionOwn w B (.agg #[.slice none 0 0, .int .i64 0, .int .i64 0, .int .i64 0]) zeroV := by
  obtain ⟨a, p, hv, hM⟩ := (OwnMeta.nil w B).mine
  refine ⟨a, p, ?_, hM⟩
  have e : (.slice none 0 0 : Value) = .slice a ([] : List Meta1).length p := hv
  show _ = Value.agg #[.slice a ([] : List Meta1).length p, _, _, _]
  rw [← e]; rfl


end Go.Proofs.Ytplbhgcibfajaaa
