/- The small reader of the program: a number, a byte, a text, and what is left. -/
import Derived.Test.YtplemoedpdammaaText
import Derived.Test.YtplemoedpdammaaDraw
import Derived.Test.YtplemoedpdammaaEntry
namespace Go.Proofs.Ytplemoedpdammaa
set_option maxRecDepth 100000
open Go.RowKit

/-- The reader lies in block g, r is what is left to be read, m that something was missing. -/
structure RdrAt (w : World) (g : Nat) (r : ByteArray) (m : Bool) : Prop where
  lt : g < w.heap.size
  c0 : w.cell? ⟨g, 0, none⟩ = some (.string r)
  c1 : w.cell? ⟨g, 1, none⟩ = some (.bool m)
  f0 : w.frozen? ⟨g, 0, none⟩ = false
  f1 : w.frozen? ⟨g, 1, none⟩ = false

theorem RdrAt.new (w : World) (r : ByteArray) (m : Bool) : RdrAt (w.alloc (.cells #[.string r, .bool m] 83)) w.heap.size r m :=
  ⟨by simp, by simp, by simp, World.frozen?_alloc_at _ _ _ _ rfl, World.frozen?_alloc_at _ _ _ _ rfl⟩
theorem RdrAt.below {w w' : World} {g B : Nat} {r : ByteArray} {m : Bool} (h : RdrAt w g r m) (hb : Below B w w') (hg : g < B) : RdrAt w' g r m :=
  ⟨Nat.lt_of_lt_of_le h.lt hb.size, (hb.cell (p := ⟨g, 0, none⟩) hg).trans h.c0, (hb.cell (p := ⟨g, 1, none⟩) hg).trans h.c1, (hb.frozen (p := ⟨g, 0, none⟩) hg).trans h.f0, (hb.frozen (p := ⟨g, 1, none⟩) hg).trans h.f1⟩
theorem RdrAt.set {w : World} {g : Nat} {r : ByteArray} {m : Bool} (h : RdrAt w g r m) (r' : ByteArray) : RdrAt (w.setCell ⟨g, 0, none⟩ (.string r')) g r' m :=
  ⟨by simpa [World.setCell] using h.lt, World.cell?_setCell_same _ _ _ h.c0, by rw [World.cell?_setCell_other]; exact h.c1; simp, by simpa using h.f0, by simpa using h.f1⟩
theorem RdrAt.set1 {w : World} {g : Nat} {r : ByteArray} {m : Bool} (h : RdrAt w g r m) (m' : Bool) : RdrAt (w.setCell ⟨g, 1, none⟩ (.bool m')) g r m' :=
  ⟨by simpa [World.setCell] using h.lt, by rw [World.cell?_setCell_other]; exact h.c0; simp, World.cell?_setCell_same _ _ _ h.c1, by simpa using h.f0, by simpa using h.f1⟩

theorem rdr_lose (w : World) (g : Nat) (r : ByteArray) (m : Bool) (h : RdrAt w g r m) :
    Calls Try.prog 86 #[.pointer (some ⟨g, 0, none⟩)] w fun e w' => e = .returned (.tuple #[]) ∧ RdrAt w' g ⟨#[]⟩ true ∧ Mv g w w' := by
  obtain ⟨lt, c0, c1, f0, f1⟩ := h
  have H : Hid (RdrAt w g r m) := ⟨lt, c0, c1, f0, f1⟩
  go_enter Try.func86, Try.ntmps86
  go_wp2
  exact bodyPost_end (results_none rfl _ _ _) rfl ⟨rfl, (H.out.set _).set1 _, ((Mv.refl _ _).setCell _).setCell _⟩

/-- A number: itself, what is left, that none was there. -/
def rnum (r : ByteArray) : Int × ByteArray × Bool :=
  match tva r 10 0 0 with
  | none => (0, ⟨#[]⟩, true)
  | some (n, k) => if 9223372036854775807 < n then (0, ⟨#[]⟩, true) else (n, r.extract k r.size, false)

theorem rnum_none {r : ByteArray} (h : tva r 10 0 0 = none) : rnum r = (0, ⟨#[]⟩, true) := by rw [rnum, h]
theorem rnum_big {r : ByteArray} {n : Int} {k : Nat} (h : tva r 10 0 0 = some (n, k)) (hn : 9223372036854775807 < n) : rnum r = (0, ⟨#[]⟩, true) := by rw [rnum, h]; simp only [if_pos hn]
theorem rnum_some {r : ByteArray} {n : Int} {k : Nat} (h : tva r 10 0 0 = some (n, k)) (hn : ¬ 9223372036854775807 < n) : rnum r = (n, r.extract k r.size, false) := by rw [rnum, h]; simp only [if_neg hn]

/-- What is left is no longer than what was there; the number is an int64. -/
theorem rnum_bd (r : ByteArray) : (rnum r).2.1.size ≤ r.size ∧ 0 ≤ (rnum r).1 ∧ (rnum r).1 ≤ 9223372036854775807 := by
  cases h : tva r 10 0 0 with
  | none => rw [rnum_none h]; exact ⟨Nat.zero_le _, by decide, by decide⟩
  | some x =>
    obtain ⟨n, k⟩ := x
    by_cases hn : 9223372036854775807 < n
    · rw [rnum_big h hn]; exact ⟨Nat.zero_le _, by decide, by decide⟩
    · rw [rnum_some h hn]
      exact ⟨by simp, tva_nonneg r 10 0 0 h (by omega), by omega⟩

set_option maxHeartbeats 1000000 in
theorem rdr_number (w : World) (g : Nat) (r : ByteArray) (m : Bool) (hr : r.size ≤ 1048576) (h : RdrAt w g r m) :
    Calls Try.prog 54 #[.pointer (some ⟨g, 0, none⟩)] w fun e w' => e = .returned (.int .i64 (rnum r).1) ∧ RdrAt w' g (rnum r).2.1 (m || (rnum r).2.2) ∧ Mv g w w' := by
  have H : Hid (RdrAt w g r m) := h
  have hlost : ∀ {x : Int × ByteArray × Bool}, x = (0, ⟨#[]⟩, true) → ∀ {w' : World}, RdrAt w' g ⟨#[]⟩ true → Mv g w w' → (Ending.returned (.int .i64 0) = .returned (.int .i64 x.1) ∧ RdrAt w' g x.2.1 (m || x.2.2) ∧ Mv g w w') := by
    rintro _ rfl w' h1 h2
    exact ⟨rfl, by simpa using h1, h2⟩
  cases hv : tva r 10 0 0 with
  | none =>
    have e1 : varAt r = .tuple #[.int .u64 0, .int .i64 0] := by rw [varAt, hv]
    have HV : Hid (rnum r = (0, ⟨#[]⟩, true)) := rnum_none hv
    have c0 := h.c0
    clear h hv
    go_enter Try.func54, Try.ntmps54
    go_wp2_with fail
    refine (impl_varAt_x r (by unfold maxLen; omega) _).mono ?_
    rintro e w1 ⟨rfl, rfl⟩
    go_wp2_with fail
    refine (rdr_lose w g r m H.out).mono ?_
    rintro e w2 ⟨rfl, hR, hM⟩
    clear c0
    go_wp2
    go_ret
    exact hlost HV.out hR hM
  | some x =>
    obtain ⟨n, k⟩ := x
    have e1 : varAt r = .tuple #[.int .u64 n, .int .i64 k] := by rw [varAt, hv]
    obtain ⟨hk0, hk1⟩ := tva_le r 10 0 0 hv
    have hn0 := tva_nonneg r 10 0 0 hv (by omega)
    have hk2 : ((k : Int) == 0) = false := by simp; omega
    have hk3 : (0 : Int) < (k : Int) := by omega
    have hk4 : (k : Int) ≤ (r.size : Int) := by omega
    have c0 := h.c0
    have f0 := h.f0
    by_cases hn : 9223372036854775807 < n
    · have HV : Hid (rnum r = (0, ⟨#[]⟩, true)) := rnum_big hv hn
      clear h hv
      go_enter Try.func54, Try.ntmps54
      go_wp2_with fail
      refine (impl_varAt_x r (by unfold maxLen; omega) _).mono ?_
      rintro e w1 ⟨rfl, rfl⟩
      go_wp2_with fail
      refine (rdr_lose w g r m H.out).mono ?_
      rintro e w2 ⟨rfl, hR, hM⟩
      clear c0 f0
      go_wp2
      go_ret
      exact hlost HV.out hR hM
    · have HV : Hid (rnum r = (n, r.extract k r.size, false)) := rnum_some hv hn
      have hw : IntKind.i64.wrap n = n := by rw [IntKind.wrap_i64]; omega
      have hw2 : wrap64 n = n := by unfold wrap64; omega
      clear h hv
      go_enter Try.func54, Try.ntmps54
      go_wp2_with fail
      refine (impl_varAt_x r (by unfold maxLen; omega) _).mono ?_
      rintro e w1 ⟨rfl, rfl⟩
      go_wp2
      go_ret
      rw [HV.out]
      exact ⟨rfl, by simpa using H.out.set _, (Mv.refl _ _).setCell _⟩

/-- A byte: itself, what is left, that none was there. -/
def rbyte (r : ByteArray) : Int × ByteArray × Bool := if r.size = 0 then (0, ⟨#[]⟩, true) else (bt r 0, r.extract 1 r.size, false)

/-- Where the text at the beginning lies, if there is one. -/
def rtx (r : ByteArray) : Option (Nat × Nat) :=
  match tva r 10 0 0 with
  | none => none
  | some (n, k) => if 60000 < n ∨ (r.size : Int) < k + n then none else some (k, k + n.toNat)

/-- A text: itself, what is left, that none was there. -/
def rtext (r : ByteArray) : ByteArray × ByteArray × Bool :=
  match rtx r with
  | none => (⟨#[]⟩, ⟨#[]⟩, true)
  | some (k, e) => (r.extract k e, r.extract e r.size, false)

theorem rtx_none {r : ByteArray} (h : rtx r = none) : ∀ n k, tva r 10 0 0 = some (n, k) → 60000 < n ∨ (r.size : Int) < k + n := by
  intro n k hv
  rw [rtx, hv] at h
  by_cases hc : 60000 < n ∨ (r.size : Int) < k + n
  · exact hc
  · simp only [if_neg hc] at h; cases h

theorem rtx_some {r : ByteArray} {k e : Nat} (h : rtx r = some (k, e)) : ∃ m : Nat, e = k + m ∧ tva r 10 0 0 = some ((m : Int), k) ∧ ¬ (60000 < (m : Int) ∨ (r.size : Int) < k + m) := by
  cases hv : tva r 10 0 0 with
  | none => rw [rtx, hv] at h; cases h
  | some x =>
    obtain ⟨n, k'⟩ := x
    rw [rtx, hv] at h
    by_cases hc : 60000 < n ∨ (r.size : Int) < k' + n
    · simp only [if_pos hc] at h; cases h
    · simp only [if_neg hc, Option.some.injEq, Prod.mk.injEq] at h
      obtain ⟨rfl, rfl⟩ := h
      have hn0 := tva_nonneg r 10 0 0 hv (by omega)
      obtain ⟨m, rfl⟩ := Int.eq_ofNat_of_zero_le hn0
      exact ⟨m, by simp, rfl, hc⟩

theorem rtext_none {r : ByteArray} (h : rtx r = none) : rtext r = (⟨#[]⟩, ⟨#[]⟩, true) := by rw [rtext, h]
theorem rtext_some {r : ByteArray} {k e : Nat} (h : rtx r = some (k, e)) : rtext r = (r.extract k e, r.extract e r.size, false) := by rw [rtext, h]

theorem rtext_bd (r : ByteArray) : (rtext r).2.1.size ≤ r.size ∧ (rtext r).1.size ≤ r.size := by
  cases h : rtx r with
  | none => rw [rtext_none h]; exact ⟨Nat.zero_le _, Nat.zero_le _⟩
  | some x =>
    obtain ⟨k, e⟩ := x
    rw [rtext_some h]
    exact ⟨by simp, by simp; omega⟩

set_option maxHeartbeats 1000000 in
theorem rdr_text (w : World) (g : Nat) (r : ByteArray) (m : Bool) (hr : r.size ≤ 1048576) (h : RdrAt w g r m) :
    Calls Try.prog 53 #[.pointer (some ⟨g, 0, none⟩)] w fun e w' => e = .returned (.string (rtext r).1) ∧ RdrAt w' g (rtext r).2.1 (m || (rtext r).2.2) ∧ Mv g w w' := by
  have H : Hid (RdrAt w g r m) := h
  have c0 := h.c0
  have lt := h.lt
  clear h
  cases hx : rtx r with
  | none =>
    have HV : Hid (rtext r = (⟨#[]⟩, ⟨#[]⟩, true)) := rtext_none hx
    have HN : Hid (∀ n k, tva r 10 0 0 = some (n, k) → 60000 < n ∨ (r.size : Int) < k + n) := rtx_none hx
    clear hx
    go_enter Try.func53, Try.ntmps53
    go_wp2_with fail
    refine (impl_textAt_no_x r hr HN.out _).mono ?_
    rintro e w1 ⟨rfl, rfl⟩
    go_wp2_with fail
    refine (rdr_lose w g r m H.out).mono ?_
    rintro e w2 ⟨rfl, hR, hM⟩
    clear c0
    go_wp2
    go_ret
    rw [HV.out]
    exact ⟨rfl, by simpa using hR, hM⟩
  | some x =>
    obtain ⟨k, e⟩ := x
    have HV : Hid (rtext r = (r.extract k e, r.extract e r.size, false)) := rtext_some hx
    obtain ⟨n, he, hv, hno⟩ := rtx_some hx
    subst he
    have HT : Hid (tva r 10 0 0 = some ((n : Int), k)) := hv
    have HN : Hid (¬ (60000 < (n : Int) ∨ (r.size : Int) < k + n)) := hno
    have h1 : (k : Int) ≤ (k : Int) + (n : Int) := by omega
    have h2 : (k : Int) + (n : Int) ≤ (r.size : Int) := by omega
    have h3 : k ≤ k + n := by omega
    have h4 : k + n ≤ r.size := by omega
    clear hx hv hno
    go_enter Try.func53, Try.ntmps53
    go_wp2_with fail
    refine (impl_textAt_yes_x r hr n k HT.out HN.out _).mono ?_
    rintro e w1 ⟨rfl, rfl⟩
    go_wp2_with fail
    refine (strings_Clone _ _ (by simp; omega)).mono ?_
    rintro e w2 ⟨rfl, hB⟩
    have hR := H.out.below hB lt
    have d0 := hR.c0
    have d1 := hR.f0
    have HR : Hid (RdrAt w2 g r m) := hR
    have HB : Hid (Below w.heap.size w w2) := hB
    clear hB hR c0
    go_wp2
    go_ret
    rw [HV.out]
    exact ⟨rfl, by simpa using HR.out.set _, (Mv.of_below HB.out).setCell _⟩

end Go.Proofs.Ytplemoedpdammaa
