/- What the laws of chapter 2 draw: users, numbers near a range. -/
import Derived.Test.YtkopoonkedcpmadDoorDraw
namespace Go.Proofs.YtkopoonkedcpmadDoor
open Go.RowKit

/-- The users that one is drawn from. -/
def users10 : Array Value := #[.string ⟨#[97]⟩, .string ⟨#[98]⟩, .string ⟨#[97, 98]⟩, .string ⟨#[97, 98, 99]⟩, .string ⟨#[97, 98, 100]⟩, .string ⟨#[107, 101, 121]⟩, .string ⟨#[107, 101, 121, 49]⟩, .string ⟨#[107, 101, 121, 50]⟩, .string ⟨#[122, 122]⟩, .string ⟨#[97, 0]⟩]

theorem users10_at (k : Nat) (h : k < 10) : ∃ s : ByteArray, users10[k]? = some (.string s) ∧ s.size ≤ 4 := by
  have : k = 0 ∨ k = 1 ∨ k = 2 ∨ k = 3 ∨ k = 4 ∨ k = 5 ∨ k = 6 ∨ k = 7 ∨ k = 8 ∨ k = 9 := by omega
  rcases this with rfl | rfl | rfl | rfl | rfl | rfl | rfl | rfl | rfl | rfl <;> exact ⟨_, rfl, by decide⟩

theorem rd_user (W w : World) (g : Nat) (a : Option Addr) (len cap : Nat) (hc : IsCode W a len) (hl : len ≤ 1048576) (h : Rd W w g a len cap) :
    Calls Tryd.prog 24 #[.pointer (some ⟨g, 0, none⟩)] w fun e w' => ∃ s : ByteArray, e = .returned (.string s) ∧ s.size ≤ 4 ∧ Rd W w' g a len cap ∧ Mv g w w' := by
  have hg := h.lt
  go_enter Tryd.func24, Tryd.ntmps24
  go_wp2_with fail
  refine (rd_below W _ g a len cap 10 (by omega) (by omega) hc hl (h.keep ((Below.refl _ _).alloc (Nat.le_refl _) _) h.lt)).mono ?_
  rintro e w1 ⟨x, rfl, hx0, hx1, hr, hm⟩
  obtain ⟨k, rfl⟩ := Int.eq_ofNat_of_zero_le hx0
  obtain ⟨s, hs, hs4⟩ := users10_at k (by omega)
  have hcell := pick_cell hm hg k hs
  have HM := mv_alloc hm
  have H1 : Hid _ := hr
  have H2 : Hid _ := HM
  clear hr HM hm hs h hc
  go_wp2
  go_ret
  exact ⟨s, rfl, hs4, H1, H2⟩

theorem Mv.of_mv {g : Nat} {w w1 w2 : World} {o : Obj} (_h : Mv g (w.alloc o) w1) (k : Mv g w1 w2) : Mv g w1 w2 := k

theorem key_boxes {g : Nat} {w w3 w4 : World} {S T : TypeId} {x0 x1 x2 y0 y1 y2 : Value} (hm3 : Mv g (w.alloc (.cells #[x0, x1, x2] S)) w3) (hm4 : Mv g (w3.alloc (.cells #[y0, y1, y2] T)) w4) (hg : g < w.heap.size) :
    w4.cell? ⟨w.heap.size, 0, none⟩ = some x0 ∧ w4.cell? ⟨w.heap.size, 1, none⟩ = some x1 ∧ w4.cell? ⟨w.heap.size, 2, none⟩ = some x2 ∧
    w4.cell? ⟨w3.heap.size, 0, none⟩ = some y0 ∧ w4.cell? ⟨w3.heap.size, 1, none⟩ = some y1 ∧ w4.cell? ⟨w3.heap.size, 2, none⟩ = some y2 ∧
    (∀ o, w4.frozen? ⟨w.heap.size, o, none⟩ = false) ∧ (∀ o, w4.frozen? ⟨w3.heap.size, o, none⟩ = false) ∧ w.heap.size < w3.heap.size := by
  have hz : w.heap.size < w3.heap.size := by have := hm3.size; simp at this; omega
  have hc : ∀ o, w4.cell? ⟨w.heap.size, o, none⟩ = (w.alloc (.cells #[x0, x1, x2] S)).cell? ⟨w.heap.size, o, none⟩ := fun o => by
    rw [hm4.cell (by simp; omega) (by simp; omega), World.cell?_alloc_past _ _ _ hz, hm3.cell (by simp) (by simp; omega)]
  have hk : ∀ o, w4.cell? ⟨w3.heap.size, o, none⟩ = (w3.alloc (.cells #[y0, y1, y2] T)).cell? ⟨w3.heap.size, o, none⟩ := fun o => by
    rw [hm4.cell (by simp) (by simp; omega)]
  refine ⟨by rw [hc]; simp, by rw [hc]; simp, by rw [hc]; simp, by rw [hk]; simp, by rw [hk]; simp, by rw [hk]; simp, fun o => ?_, fun o => ?_, hz⟩
  · rw [hm4.frozen (by simp; omega) (by simp; omega), World.frozen?_alloc_past _ _ _ hz, hm3.frozen (by simp) (by simp; omega)]
    exact World.frozen?_alloc_at _ _ _ _ rfl
  · rw [hm4.frozen (by simp) (by simp; omega)]
    exact World.frozen?_alloc_at _ _ _ _ rfl

end Go.Proofs.YtkopoonkedcpmadDoor
