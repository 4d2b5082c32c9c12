/- Rows of texts: those that came in, the copies that the laws make; their size, and that two are alike. -/
import Derived.Test.YtplemoedpdammaaRows
import Derived.Test.YtplemoedpdammaaMgOwnMv
import Derived.Deep.OwnRows
import Derived.Deep.Strs
import Derived.Test.YtplemoedpdammaaMgMgEntRowBoxMine
namespace Go.Proofs.Ytplemoedpdammaa
set_option maxRecDepth 100000
open Go.RowKit Go.Deep

/-- A row of len texts S, in memory below block B. -/
def StrAt (w : World) (B : Nat) (a : Option Addr) (len : Nat) (S : Nat → ByteArray) : Prop :=
  len = 0 ∨ ∃ b off, a = some ⟨b, off, none⟩ ∧ b < B ∧ ∀ i, i < len → w.cell? ⟨b, off + i, none⟩ = some (.string (S i))

theorem StrAt.below {w w' : World} {B : Nat} {a : Option Addr} {len : Nat} {S : Nat → ByteArray} (h : StrAt w B a len S) (hb : Below B w w') : StrAt w' B a len S := by
  rcases h with h | ⟨b, off, e, hB, hc⟩
  · exact .inl h
  · exact .inr ⟨b, off, e, hB, fun i hi => by rw [hb.cell (p := ⟨b, off + i, none⟩) hB]; exact hc i hi⟩

theorem StrAt.mono {w : World} {B B' : Nat} {a : Option Addr} {len : Nat} {S : Nat → ByteArray} (h : StrAt w B a len S) (hB : B ≤ B') : StrAt w B' a len S := by
  rcases h with h | ⟨b, off, e, hb, hc⟩
  · exact .inl h
  · exact .inr ⟨b, off, e, by omega, hc⟩

theorem StrAt.at {w : World} {B : Nat} {a : Option Addr} {len : Nat} {S : Nat → ByteArray} (h : StrAt w B a len S) {i : Nat} (hi : i < len) : ∃ b off, a = some ⟨b, off, none⟩ ∧ b < B ∧ w.cell? ⟨b, off + i, none⟩ = some (.string (S i)) := by
  rcases h with h | ⟨b, off, e, hb, hc⟩
  · omega
  · exact ⟨b, off, e, hb, hc i hi⟩

/-- A row that a call laid is one. -/
theorem strAt_row {w : World} {g n : Nat} {t : TypeId} {S : Nat → ByteArray} (h : w.rowIs g t n (fun i => .string (S i))) {B : Nat} (hB : g < B) : StrAt w B (some ⟨g, 0, none⟩) n S :=
  .inr ⟨g, 0, rfl, hB, fun i hi => by rw [Nat.zero_add]; exact h.cell hi⟩

theorem rowIs_below {w w' : World} {B g n : Nat} {t : TypeId} {f : Nat → Value} (h : w.rowIs g t n f) (hb : Below B w w') (hg : g < B) : w'.rowIs g t n f := h.of_block (hb.block g hg)

/-- What came in: texts, each within reach. -/
def IsStrs (W : World) (v : Value) : Prop := ∃ a len cap S, v = .slice a len cap ∧ len ≤ maxLen ∧ StrAt W W.heap.size a len S ∧ ∀ i, i < len → (S i).size ≤ maxLen

theorem open_strarg {H : Type} {enc : TypeId × Value → H} {w : World} {r : Reach} {b0 base : Nat} {spare : Nat → Bool} {held : Bool} {v : Value} {d : DataW H} {p : List MemPlace}
    (hv : Value.okWide Try.prog w r b0 133 v) (h : DataW.Trod enc Try.prog w base spare held 133 v d p) : IsStrs w v := by
  obtain ⟨a, len, cap, rfl⟩ := WideShapes.okWide_slice Try.underlying133 hv
  obtain ⟨fuel, hf⟩ := h
  rcases open_strs Try.underlying133 Try.underlying9 (by kernel_rfl) hf with ⟨hcs, _⟩ | ⟨x, l, c, m, S, hcs, _, hl, hm, hmm, _, hcell⟩
  · simp [Value.cells] at hcs
    obtain ⟨rfl, rfl, rfl⟩ := hcs
    exact ⟨_, _, _, fun _ => ByteArray.empty, rfl, Nat.zero_le _, .inl rfl, fun _ h => absurd h (by omega)⟩
  · simp [Value.cells] at hcs
    obtain ⟨rfl, rfl, rfl⟩ := hcs
    have hlm : len ≤ m := by rw [hmm]; split <;> omega
    refine ⟨_, _, _, S, rfl, by omega, ?_, fun i hi => (hcell i (by omega)).2⟩
    rcases Nat.eq_zero_or_pos len with h0 | h0
    · exact .inl h0
    · obtain ⟨b, off, spot⟩ := x
      have hc0 := (hcell 0 (by omega)).1
      have hspot : spot = none := by simpa [Addr.add] using World.cell?_spot hc0
      subst hspot
      have hb : b < w.heap.size := World.block_lt_of_cell? w ⟨b, off, none⟩ (by simpa [Addr.add] using hc0)
      refine .inr ⟨b, off, rfl, hb, fun i hi => ?_⟩
      have hci := (hcell i (by omega)).1
      rwa [Addr.add_lit] at hci

theorem rowIs_step {w : World} {g n k : Nat} {t : TypeId} {z : Value} {S : Nat → ByteArray} (h : w.rowIs g t n (fun i => if i < k then .string (S i) else z)) :
    (w.setCell ⟨g, k, none⟩ (.string (S k))).rowIs g t n (fun i => if i < k + 1 then .string (S i) else z) := by
  refine (h.set k (.string (S k))).congr fun i _ => ?_
  by_cases e : i = k
  · subst e; simp
  · have : (i < k + 1) = (i < k) := by simp; omega
    simp [e, this]

end Go.Proofs.Ytplemoedpdammaa

/- UsersOk, of the program and of the model, and its law. -/
namespace Go.Proofs.Ytplemoedpdammaa
set_option maxRecDepth 100000
open Go.RowKit Go.Deep

def userB (s : ByteArray) : Bool := decide (1 ≤ s.size ∧ s.size ≤ 40)
theorem userB_yes {s : ByteArray} (h : 1 ≤ s.size ∧ s.size ≤ 40) : userB s = true := decide_eq_true h
theorem userB_no {s : ByteArray} (h : ¬ (1 ≤ s.size ∧ s.size ≤ 40)) : userB s = false := decide_eq_false h
theorem userB_bd {s : ByteArray} (h : userB s = true) : 1 ≤ s.size ∧ s.size ≤ 40 := of_decide_eq_true h

/-- The first len texts of S are right users, and not too many. -/
def usersB (S : Nat → ByteArray) (len : Nat) : Bool := decide (len ≤ 400) && (List.range len).all fun i => userB (S i)
theorem usersB_yes {S : Nat → ByteArray} {len : Nat} (h : len ≤ 400) (h2 : ∀ i, i < len → userB (S i) = true) : usersB S len = true := by
  unfold usersB
  rw [Bool.and_eq_true, List.all_eq_true]
  exact ⟨decide_eq_true h, fun i hi => h2 i (List.mem_range.1 hi)⟩
theorem usersB_many {S : Nat → ByteArray} {len : Nat} (h : ¬ len ≤ 400) : usersB S len = false := by
  unfold usersB
  rw [decide_eq_false h, Bool.false_and]
theorem usersB_no {S : Nat → ByteArray} {len : Nat} (i : Nat) (hi : i < len) (h : userB (S i) = false) : usersB S len = false := by
  rw [Bool.eq_false_iff]
  intro e
  unfold usersB at e
  rw [Bool.and_eq_true, List.all_eq_true] at e
  rw [e.2 i (List.mem_range.2 hi)] at h
  cases h
theorem usersB_out {S : Nat → ByteArray} {len : Nat} (h : usersB S len = true) : len ≤ 400 ∧ ∀ i, i < len → userB (S i) = true := by
  unfold usersB at h
  rw [Bool.and_eq_true, List.all_eq_true] at h
  exact ⟨of_decide_eq_true h.1, fun i hi => h.2 i (List.mem_range.2 hi)⟩

theorem ret_boolU {a b : Bool} (h : a = b) : Ending.returned (.bool a) = .returned (.bool b) := by rw [h]

/-- A place that was looked for: none where b, else one. -/
def Found (x : Int) (b : Bool) : Prop := (x = -1 ∧ b = true) ∨ (0 ≤ x ∧ b = false)

theorem spec_l2User (s : ByteArray) (w : World) :
    Calls Try.prog 107 #[.string s] w fun e w' => e = .returned (.bool (userB s)) ∧ w = w' := by
  by_cases h1 : 1 ≤ s.size
  · have h1' : (1 : Int) ≤ (s.size : Int) := by omega
    by_cases h2 : s.size ≤ 40
    · have h2' : (s.size : Int) ≤ 40 := by omega
      have HV : Hid (true = userB s) := (userB_yes ⟨h1, h2⟩).symm
      go_enter Try.func107, Try.ntmps107
      go_wp2
      go_ret
      exact ⟨ret_boolU HV.out, rfl⟩
    · have h2' : ¬ ((s.size : Int) ≤ 40) := by omega
      have HV : Hid (false = userB s) := (userB_no (by omega)).symm
      go_enter Try.func107, Try.ntmps107
      go_wp2
      go_ret
      exact ⟨ret_boolU HV.out, rfl⟩
  · have h1' : ¬ ((1 : Int) ≤ (s.size : Int)) := by omega
    have HV : Hid (false = userB s) := (userB_no (by omega)).symm
    go_enter Try.func107, Try.ntmps107
    go_wp2
    go_ret
    exact ⟨ret_boolU HV.out, rfl⟩

theorem impl_userOk (s : ByteArray) (w : World) :
    Calls Try.prog 93 #[.string s] w fun e w' => e = .returned (.bool (userB s)) ∧ w = w' := by
  by_cases h1 : 1 ≤ s.size
  · have h1' : (1 : Int) ≤ (s.size : Int) := by omega
    by_cases h2 : s.size ≤ 40
    · have h2' : (s.size : Int) ≤ 40 := by omega
      have HV : Hid (true = userB s) := (userB_yes ⟨h1, h2⟩).symm
      go_enter Try.func93, Try.ntmps93
      go_wp2
      go_ret
      exact ⟨ret_boolU HV.out, rfl⟩
    · have h2' : ¬ ((s.size : Int) ≤ 40) := by omega
      have HV : Hid (false = userB s) := (userB_no (by omega)).symm
      go_enter Try.func93, Try.ntmps93
      go_wp2
      go_ret
      exact ⟨ret_boolU HV.out, rfl⟩
  · have h1' : ¬ ((1 : Int) ≤ (s.size : Int)) := by omega
    have HV : Hid (false = userB s) := (userB_no (by omega)).symm
    go_enter Try.func93, Try.ntmps93
    go_wp2
    go_ret
    exact ⟨ret_boolU HV.out, rfl⟩

end Go.Proofs.Ytplemoedpdammaa

/- spec.l1In. -/
namespace Go.Proofs.Ytplemoedpdammaa
set_option maxRecDepth 100000
open Go.RowKit

theorem spec_l1In (x lo hi : Int) (w : World) :
    Calls Try.prog 88 #[.int .i64 x, .int .i64 lo, .int .i64 hi] w fun e w' => e = .returned (.bool (decide (lo ≤ x ∧ x ≤ hi))) ∧ w = w' := by
  by_cases h1 : lo ≤ x
  · by_cases h2 : x ≤ hi
    · go_enter Try.func88, Try.ntmps88
      go_wp2
      go_ret
      exact ⟨ret_boolE (by simp [h1, h2]), rfl⟩
    · go_enter Try.func88, Try.ntmps88
      go_wp2
      go_ret
      exact ⟨ret_boolE (by simp [h2]), rfl⟩
  · go_enter Try.func88, Try.ntmps88
    go_wp2
    go_ret
    exact ⟨ret_boolE (by simp; omega), rfl⟩

end Go.Proofs.Ytplemoedpdammaa
