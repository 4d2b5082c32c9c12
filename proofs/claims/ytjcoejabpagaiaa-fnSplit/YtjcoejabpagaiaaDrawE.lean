/- What the laws on rows draw: values. -/
import Derived.Test.YtjcoejabpagaiaaDrawP2
namespace Go.Proofs.Ytjcoejabpagaiaa
set_option maxRecDepth 100000
open Go.RowKit

/-- The values that one is drawn from. -/
def values5 : Array Value := #[.string ⟨#[]⟩, .string ⟨#[49]⟩, .string ⟨#[50]⟩, .string ⟨#[118, 97, 108, 117, 101]⟩, .string ⟨#[118, 118]⟩]

theorem values5_at (k : Nat) (h : k < 5) : ∃ s : ByteArray, values5[k]? = some (.string s) ∧ s.size ≤ 5 := by
  have : k = 0 ∨ k = 1 ∨ k = 2 ∨ k = 3 ∨ k = 4 := by omega
  rcases this with rfl | rfl | rfl | rfl | rfl <;> exact ⟨_, rfl, by decide⟩

theorem rd_value (W w : World) (g : Nat) (a : Option Addr) (len cap : Nat) (hc : IsCode W a len) (hl : len ≤ 1048576) (h : Rd W w g a len cap) :
    Calls Try.prog 49 #[.pointer (some ⟨g, 0, none⟩)] w fun e w' => ∃ s : ByteArray, e = .returned (.string s) ∧ s.size ≤ 5 ∧ Rd W w' g a len cap ∧ Mv g w w' := by
  have hg := h.lt
  go_enter Try.func49, Try.ntmps49
  go_wp2_with fail
  refine (rd_below W _ g a len cap 5 (by omega) (by omega) hc hl (h.keep ((Below.refl _ _).alloc (Nat.le_refl _) _) h.lt)).mono ?_
  rintro e w1 ⟨x, rfl, hx0, hx1, hr, hm⟩
  obtain ⟨k, rfl⟩ := Int.eq_ofNat_of_zero_le hx0
  obtain ⟨s, hs, hs4⟩ := values5_at k (by omega)
  have hcell := pick_cell hm hg k hs
  have HM := mv_alloc hm
  have H1 : Hid _ := hr
  have H2 : Hid _ := HM
  clear hr HM hm hs h hc
  go_wp2
  go_ret
  exact ⟨s, rfl, hs4, H1, H2⟩

end Go.Proofs.Ytjcoejabpagaiaa
