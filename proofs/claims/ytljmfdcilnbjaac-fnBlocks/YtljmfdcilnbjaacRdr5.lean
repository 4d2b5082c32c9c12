/- The small reader of the program where it is embedded: cells 3 and 4 of a block of five. -/
import Derived.Test.YtljmfdcilnbjaacRdr
import Derived.Test.YtljmfdcilnbjaacBox
namespace Go.Proofs.Ytljmfdcilnbjaac
set_option maxRecDepth 100000
open Go.RowKit

theorem rd5_lose (w : World) (g : Nat) (a b c : Value) (t : TypeId) (r : ByteArray) (m : Bool) (h : BoxIs w g #[a, b, c, .string r, .bool m] t) :
    Calls Try.prog 76 #[.pointer (some ⟨g, 3, none⟩)] w fun e w' => e = .returned (.tuple #[]) ∧ BoxIs w' g #[a, b, c, .string ⟨#[]⟩, .bool true] t ∧ Mv g w w' := by
  have H := hide h
  have x3 : w.cell? ⟨g, 3, none⟩ = some (.string r) := h.cell 3
  have x4 : w.cell? ⟨g, 4, none⟩ = some (.bool m) := h.cell 4
  have hf := h.free
  clear h
  go_enter Try.func76, Try.ntmps76
  go_wp2
  exact bodyPost_end (results_none rfl _ _ _) rfl ⟨rfl, heap_setCell_same _ g 4 _ _ (.bool true) (heap_setCell_same w g 3 _ _ (.string ⟨#[]⟩) H.out), ((Mv.refl _ _).setCell _).setCell _⟩

set_option maxHeartbeats 1000000 in
theorem rd5_number (w : World) (g : Nat) (a b c : Value) (t : TypeId) (r : ByteArray) (m : Bool) (hr : r.size ≤ 1048576) (h : BoxIs w g #[a, b, c, .string r, .bool m] t) :
    Calls Try.prog 63 #[.pointer (some ⟨g, 3, none⟩)] w fun e w' => e = .returned (.int .i64 (rnum r).1) ∧ BoxIs w' g #[a, b, c, .string (rnum r).2.1, .bool (m || (rnum r).2.2)] t ∧ Mv g w w' := by
  have H := hide h
  have hlost : ∀ {x : Int × ByteArray × Bool}, x = (0, ⟨#[]⟩, true) → ∀ {w' : World}, BoxIs w' g #[a, b, c, .string ⟨#[]⟩, .bool true] t → Mv g w w' → (Ending.returned (.int .i64 0) = .returned (.int .i64 x.1) ∧ BoxIs w' g #[a, b, c, .string x.2.1, .bool (m || x.2.2)] t ∧ Mv g w w') := by
    rintro _ rfl w' h1 h2
    exact ⟨rfl, by simpa using h1, h2⟩
  have x3 : w.cell? ⟨g, 3, none⟩ = some (.string r) := h.cell 3
  have hf := h.free
  cases hv : tva r 10 0 0 with
  | none =>
    have e1 : varAt r = .tuple #[.int .u64 0, .int .i64 0] := by rw [varAt, hv]
    have HV : Hid (rnum r = (0, ⟨#[]⟩, true)) := rnum_none hv
    clear h hv
    go_enter Try.func63, Try.ntmps63
    go_wp2_with fail
    refine (impl_varAt_x r (by unfold maxLen; omega) _).mono ?_
    rintro e w1 ⟨rfl, rfl⟩
    go_wp2_with fail
    refine (rd5_lose w g a b c t r m H.out).mono ?_
    rintro e w2 ⟨rfl, hR, hM⟩
    clear x3 hf
    go_wp2
    go_ret
    exact hlost HV.out hR hM
  | some x =>
    obtain ⟨n, k⟩ := x
    have e1 : varAt r = .tuple #[.int .u64 n, .int .i64 k] := by rw [varAt, hv]
    obtain ⟨hk0, hk1⟩ := tva_le r 10 0 0 hv
    have hn0 := tva_nonneg r 10 0 0 hv (by omega)
    have hk2 : ((k : Int) == 0) = false := by simp; omega
    have hk3 : (0 : Int) < (k : Int) := by omega
    have hk4 : (k : Int) ≤ (r.size : Int) := by omega
    by_cases hn : 9223372036854775807 < n
    · have HV : Hid (rnum r = (0, ⟨#[]⟩, true)) := rnum_big hv hn
      clear h hv
      go_enter Try.func63, Try.ntmps63
      go_wp2_with fail
      refine (impl_varAt_x r (by unfold maxLen; omega) _).mono ?_
      rintro e w1 ⟨rfl, rfl⟩
      go_wp2_with fail
      refine (rd5_lose w g a b c t r m H.out).mono ?_
      rintro e w2 ⟨rfl, hR, hM⟩
      clear x3 hf
      go_wp2
      go_ret
      exact hlost HV.out hR hM
    · have HV : Hid (rnum r = (n, r.extract k r.size, false)) := rnum_some hv hn
      have hw : IntKind.i64.wrap n = n := by rw [IntKind.wrap_i64]; omega
      have hw2 : wrap64 n = n := by unfold wrap64; omega
      clear h hv
      go_enter Try.func63, Try.ntmps63
      go_wp2_with fail
      refine (impl_varAt_x r (by unfold maxLen; omega) _).mono ?_
      rintro e w1 ⟨rfl, rfl⟩
      go_wp2
      go_ret
      rw [HV.out]
      refine ⟨rfl, ?_, (Mv.refl _ _).setCell _⟩
      simp only [Bool.or_false]
      exact heap_setCell_same w g 3 _ _ (.string (r.extract k r.size)) H.out

set_option maxHeartbeats 1000000 in
theorem rd5_text (w : World) (g : Nat) (a b c : Value) (t : TypeId) (r : ByteArray) (m : Bool) (hr : r.size ≤ 1048576) (h : BoxIs w g #[a, b, c, .string r, .bool m] t) :
    Calls Try.prog 64 #[.pointer (some ⟨g, 3, none⟩)] w fun e w' => e = .returned (.string (rtext r).1) ∧ BoxIs w' g #[a, b, c, .string (rtext r).2.1, .bool (m || (rtext r).2.2)] t ∧ Mv g w w' := by
  have H := hide h
  have x3 : w.cell? ⟨g, 3, none⟩ = some (.string r) := h.cell 3
  have hf := h.free
  clear h
  cases hx : rtx r with
  | none =>
    have HV : Hid (rtext r = (⟨#[]⟩, ⟨#[]⟩, true)) := rtext_none hx
    have HN : Hid (∀ n k, tva r 10 0 0 = some (n, k) → 60000 < n ∨ (r.size : Int) < k + n) := rtx_none hx
    clear hx
    go_enter Try.func64, Try.ntmps64
    go_wp2_with fail
    refine (impl_textAt_no_x r hr HN.out _).mono ?_
    rintro e w1 ⟨rfl, rfl⟩
    go_wp2_with fail
    refine (rd5_lose w g a b c t r m H.out).mono ?_
    rintro e w2 ⟨rfl, hR, hM⟩
    clear x3 hf
    go_wp2
    go_ret
    rw [HV.out]
    exact ⟨rfl, by simpa using hR, hM⟩
  | some x =>
    obtain ⟨k, e⟩ := x
    have HV : Hid (rtext r = (r.extract k e, r.extract e r.size, false)) := rtext_some hx
    obtain ⟨n, he, hv, hno⟩ := rtx_some hx
    subst he
    have HT : Hid (tva r 10 0 0 = some ((n : Int), k)) := hv
    have HN : Hid (¬ (60000 < (n : Int) ∨ (r.size : Int) < k + n)) := hno
    have h1 : (k : Int) ≤ (k : Int) + (n : Int) := by omega
    have h2 : (k : Int) + (n : Int) ≤ (r.size : Int) := by omega
    have h3 : k ≤ k + n := by omega
    have h4 : k + n ≤ r.size := by omega
    clear hx hv hno
    go_enter Try.func64, Try.ntmps64
    go_wp2_with fail
    refine (impl_textAt_yes_x r hr n k HT.out HN.out _).mono ?_
    rintro e w1 ⟨rfl, rfl⟩
    go_wp2_with fail
    refine (strings_Clone _ _ (by simp; omega)).mono ?_
    rintro e w2 ⟨rfl, hB⟩
    have hR := H.out.next hB
    have y3 : w2.cell? ⟨g, 3, none⟩ = some (.string r) := hR.cell 3
    have yf := hR.free
    have HR := hide hR
    have HB : Hid (Below w.heap.size w w2) := hB
    clear hB hR x3 hf
    go_wp2
    go_ret
    rw [HV.out]
    refine ⟨rfl, ?_, (Mv.of_below HB.out).setCell _⟩
    simp only [Bool.or_false]
    exact heap_setCell_same w2 g 3 _ _ (.string (r.extract (k + n) r.size)) HR.out

end Go.Proofs.Ytljmfdcilnbjaac
