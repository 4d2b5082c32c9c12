/- What the laws on rows draw: an entry. -/
import Derived.Test.YtjcoejabpagaiaaDrawE
namespace Go.Proofs.Ytjcoejabpagaiaa
set_option maxRecDepth 100000
open Go.RowKit

theorem entry_boxes {g : Nat} {w w3 w4 : World} {S T : TypeId} {x0 x1 x2 x3 y0 y1 y2 y3 : Value} (hm3 : Mv g (w.alloc (.cells #[x0, x1, x2, x3] S)) w3) (hm4 : Mv g (w3.alloc (.cells #[y0, y1, y2, y3] T)) w4) (hg : g < w.heap.size) :
    (w4.cell? ⟨w.heap.size, 0, none⟩ = some x0 ∧ w4.cell? ⟨w.heap.size, 1, none⟩ = some x1 ∧ w4.cell? ⟨w.heap.size, 2, none⟩ = some x2 ∧ w4.cell? ⟨w.heap.size, 3, none⟩ = some x3) ∧
    (w4.cell? ⟨w3.heap.size, 0, none⟩ = some y0 ∧ w4.cell? ⟨w3.heap.size, 1, none⟩ = some y1 ∧ w4.cell? ⟨w3.heap.size, 2, none⟩ = some y2 ∧ w4.cell? ⟨w3.heap.size, 3, none⟩ = some y3) ∧
    (∀ o, w4.frozen? ⟨w.heap.size, o, none⟩ = false) ∧ (∀ o, w4.frozen? ⟨w3.heap.size, o, none⟩ = false) ∧ w.heap.size < w3.heap.size := by
  have hz : w.heap.size < w3.heap.size := by have := hm3.size; simp at this; omega
  have hc : ∀ o, w4.cell? ⟨w.heap.size, o, none⟩ = (w.alloc (.cells #[x0, x1, x2, x3] S)).cell? ⟨w.heap.size, o, none⟩ := fun o => by
    rw [hm4.cell (by simp; omega) (by simp; omega), World.cell?_alloc_past _ _ _ hz, hm3.cell (by simp) (by simp; omega)]
  have hk : ∀ o, w4.cell? ⟨w3.heap.size, o, none⟩ = (w3.alloc (.cells #[y0, y1, y2, y3] T)).cell? ⟨w3.heap.size, o, none⟩ := fun o => by
    rw [hm4.cell (by simp) (by simp; omega)]
  refine ⟨⟨by rw [hc]; simp, by rw [hc]; simp, by rw [hc]; simp, by rw [hc]; simp⟩, ⟨by rw [hk]; simp, by rw [hk]; simp, by rw [hk]; simp, by rw [hk]; simp⟩, fun o => ?_, fun o => ?_, hz⟩
  · rw [hm4.frozen (by simp; omega) (by simp; omega), World.frozen?_alloc_past _ _ _ hz, hm3.frozen (by simp) (by simp; omega)]
    exact World.frozen?_alloc_at _ _ _ _ rfl
  · rw [hm4.frozen (by simp) (by simp; omega)]
    exact World.frozen?_alloc_at _ _ _ _ rfl

set_option maxHeartbeats 1000000 in
theorem rd_entry (W w : World) (g : Nat) (a : Option Addr) (len cap : Nat) (hc : IsCode W a len) (hl : len ≤ 1048576) (h : Rd W w g a len cap) :
    Calls Try.prog 38 #[.pointer (some ⟨g, 0, none⟩)] w fun e w' => ∃ (u : ByteArray) (q k : Int) (x : ByteArray), e = .returned (.agg #[.string u, .int .i64 q, .int .i64 k, .string x]) ∧ u.size ≤ 45 ∧ x.size ≤ 5 ∧ Rd W w' g a len cap ∧ Mv g w w' := by
  have hg := h.lt
  have h0 := h.mv ((Below.refl w.heap.size w).alloc (Nat.le_refl _) (.cells #[.string ⟨#[]⟩, .int .i64 0, .int .i64 0, .string ⟨#[]⟩] 43))
  go_enter Try.func38, Try.ntmps38
  go_wp2_with fail
  refine (rd_key W _ g a len cap hc hl h0).mono ?_
  rintro e w1 ⟨u, q, k, rfl, hu, _, _, _, _, hr1, hm1⟩
  go_wp2_with fail
  refine (rd_value W _ g a len cap hc hl hr1).mono ?_
  rintro e w2 ⟨x, rfl, hx, hr2, hm2⟩
  have hM := hm1.trans hm2
  have hr3 := hr2.mv ((Below.refl w2.heap.size w2).alloc (Nat.le_refl _) (.cells #[.string u, .int .i64 q, .int .i64 k, .string x] 43))
  clear h h0 hr1 hm1 hm2
  by_cases hk : k = 0
  · subst hk
    go_wp2_with fail
    refine (rd_once W _ g a len cap 12 (by omega) (by omega) hc hl hr3).mono ?_
    rintro e w4 ⟨b, rfl, hr4, hm4⟩
    obtain ⟨⟨c0, c1, c2, c3⟩, ⟨d0, d1, d2, d3⟩, f0, f1, hz⟩ := entry_boxes hM hm4 hg
    have HM : Hid (Mv g w w4) := (mv_alloc hM).trans (Mv.of_mv hM (mv_alloc hm4))
    have HR : Hid (Rd W w4 g a len cap) := hr4
    have hz3 : w.heap.size ≤ w2.heap.size := by omega
    have hle : w.heap.size ≤ w.heap.size := Nat.le_refl _
    clear hM hm4 hr2 hr3 hr4 hc
    cases b with
    | true =>
      go_wp2
      refine bodyPost_ret (v := .agg #[.string u, .int .i64 q, .int .i64 0, .string x]) (by simp [results, Try.results38, go_sem, c0, c1, c2, c3]) rfl ⟨u, q, 0, x, rfl, hu, hx, HR.out.keep (((((Below.refl _ _).setCell hle _).setCell hle _).setCell hle _).setCell hle _) hg, mv_below HM.out (((((Below.refl _ _).setCell hle _).setCell hle _).setCell hle _).setCell hle _)⟩
    | false =>
      go_wp2
      refine bodyPost_ret (v := .agg #[.string u, .int .i64 q, .int .i64 0, .string ⟨#[]⟩]) (by simp [results, Try.results38, go_sem, c0, c1, c2, c3]) rfl ⟨u, q, 0, ⟨#[]⟩, rfl, hu, by decide, HR.out.keep ((((((Below.refl _ _).setCell hz3 _).setCell hle _).setCell hle _).setCell hle _).setCell hle _) hg, mv_below HM.out ((((((Below.refl _ _).setCell hz3 _).setCell hle _).setCell hle _).setCell hle _).setCell hle _)⟩
  · have hk' : (k == 0) = false := by simp [hk]
    have hz : w.heap.size < w2.heap.size := by have := hM.size; simp at this; omega
    have hcc : ∀ o, w2.cell? ⟨w.heap.size, o, none⟩ = (w.alloc (.cells #[.string ⟨#[]⟩, .int .i64 0, .int .i64 0, .string ⟨#[]⟩] 43)).cell? ⟨w.heap.size, o, none⟩ := fun o => hM.cell (by simp) (by simp; omega)
    have c0 : w2.cell? ⟨w.heap.size, 0, none⟩ = some (.string ⟨#[]⟩) := by rw [hcc]; simp
    have c1 : w2.cell? ⟨w.heap.size, 1, none⟩ = some (.int .i64 0) := by rw [hcc]; simp
    have c2 : w2.cell? ⟨w.heap.size, 2, none⟩ = some (.int .i64 0) := by rw [hcc]; simp
    have c3 : w2.cell? ⟨w.heap.size, 3, none⟩ = some (.string ⟨#[]⟩) := by rw [hcc]; simp
    have f0 : ∀ o, w2.frozen? ⟨w.heap.size, o, none⟩ = false := fun o => by
      rw [hM.frozen (by simp) (by simp; omega)]
      exact World.frozen?_alloc_at _ _ _ _ rfl
    clear hcc
    have HM : Hid (Mv g w (w2.alloc (.cells #[.string u, .int .i64 q, .int .i64 k, .string x] 43))) := (mv_alloc hM).trans (Mv.of_mv hM (mv_alloc (Mv.refl g _)))
    have HR : Hid (Rd W (w2.alloc (.cells #[.string u, .int .i64 q, .int .i64 k, .string x] 43)) g a len cap) := hr3
    have hle : w.heap.size ≤ w.heap.size := Nat.le_refl _
    have HM2 : Hid (Mv g w w2) := mv_alloc hM
    clear hM hr3 hc
    go_wp2
    refine bodyPost_ret (v := .agg #[.string u, .int .i64 q, .int .i64 k, .string x]) (by simp [results, Try.results38, go_sem, c0, c1, c2, c3, hz]) rfl ⟨u, q, k, x, rfl, hu, hx, by first | exact HR.out.keep (((((Below.refl _ _).setCell hle _).setCell hle _).setCell hle _).setCell hle _) hg | exact (hr2.keep (((((Below.refl _ _).setCell hle _).setCell hle _).setCell hle _).setCell hle _) hg).keep ((Below.refl _ _).alloc (by simp; omega) _) hg, by first | exact mv_below HM.out (((((Below.refl _ _).setCell hle _).setCell hle _).setCell hle _).setCell hle _) | exact mv_below HM2.out ((((((Below.refl _ _).setCell hle _).setCell hle _).setCell hle _).setCell hle _).alloc (by simp; omega) _)⟩

end Go.Proofs.Ytjcoejabpagaiaa
