/- The law on ReadBatch. -/
import Derived.Test.YtljmfdcilnbjaabReadBS
import Derived.Test.YtljmfdcilnbjaabMarkO
namespace Go.Proofs.Ytljmfdcilnbjaab
set_option maxRecDepth 100000
open Go.RowKit Go.Deep

/-- What a row of one's own gives those who write into it. -/
theorem OwnO.mark {w : World} {B : Nat} {v : Value} {os : List Ob} (h : OwnO w B v os) (g0 : Nat) : ∃ a cap g, v = .slice a os.length cap ∧ OpAt w w.heap.size a os.length (opsOf os) ∧ (os.length = 0 ∨ a = some ⟨g, 0, none⟩) ∧ (g = g0 ∨ B ≤ g ∧ g < w.heap.size) ∧
    ∀ j, j < os.length * 3 → (∃ v, w.cell? ⟨g, j, none⟩ = some v) ∧ w.frozen? ⟨g, j, none⟩ = false := by
  obtain ⟨a, cap, hv, hO⟩ := h.ops
  rcases h.2 with ⟨hn, h0⟩ | ⟨g, cap', cur, hv', hg, hh, hle, hcap, hsz, htake⟩
  · have : os = [] := by cases os with | nil => rfl | cons a b => simp at h0
    subst this
    exact ⟨a, cap, g0, hv, hO, .inl rfl, .inl rfl, fun j hj => absurd hj (by simp)⟩
  · have hlt : g < w.heap.size := (Array.getElem?_eq_some_iff.1 hh).1
    rw [hv'] at hv
    simp only [Value.slice.injEq] at hv
    obtain ⟨ha, _, hc⟩ := hv
    subst ha
    subst hc
    refine ⟨_, cap', g, hv', hO, .inr rfl, .inr ⟨hg, hlt⟩, fun j hj => ?_⟩
    have hb : BoxIs w g cur 40 := hh
    have hj2 : j < cur.size := by rw [hsz]; omega
    exact ⟨⟨cur[j], by rw [hb.cell j]; exact Array.getElem?_eq_getElem hj2⟩, hb.free j⟩

theorem readB_len (s : ByteArray) : (readB s).2.2.length ≤ 21 := by
  unfold readB
  simp only
  split
  · rw [rdo_len]
    have := rdm_bd (rnum (rnum s).2.1).1 (rnum_bd _).2.1
    omega
  · simp

end Go.Proofs.Ytljmfdcilnbjaab
