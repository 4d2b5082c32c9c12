/- Rows of texts: those that came in, the copies that the laws make; their size, and that two are alike. -/
import Derived.Test.YtplbhgcibfajaaaRows
import Derived.Test.YtplbhgcibfajaaaOwn
import Derived.Deep.OwnRows
import Derived.Deep.Strs
namespace Go.Proofs.Ytplbhgcibfajaaa
set_option maxRecDepth 100000
open Go.RowKit Go.Deep

/-- A row of len texts S, in memory below block B. -/
def StrAt (w : World) (B : Nat) (a : Option Addr) (len : Nat) (S : Nat → ByteArray) : Prop :=
  len = 0 ∨ ∃ b off, a = some ⟨b, off, none⟩ ∧ b < B ∧ ∀ i, i < len → w.cell? ⟨b, off + i, none⟩ = some (.string (S i))

theorem StrAt.below {w w' : World} {B : Nat} {a : Option Addr} {len : Nat} {S : Nat → ByteArray} (h : StrAt w B a len S) (hb : Below B w w') : StrAt w' B a len S := by
  rcases h with h | ⟨b, off, e, hB, hc⟩
  · exact .inl h
  · exact .inr ⟨b, off, e, hB, fun i hi => by rw [hb.cell (p := ⟨b, off + i, none⟩) hB]; exact hc i hi⟩

theorem StrAt.mono {w : World} {B B' : Nat} {a : Option Addr} {len : Nat} {S : Nat → ByteArray} (h : StrAt w B a len S) (hB : B ≤ B') : StrAt w B' a len S := by
  rcases h with h | ⟨b, off, e, hb, hc⟩
  · exact .inl h
  · exact .inr ⟨b, off, e, by omega, hc⟩

theorem StrAt.at {w : World} {B : Nat} {a : Option Addr} {len : Nat} {S : Nat → ByteArray} (h : StrAt w B a len S) {i : Nat} (hi : i < len) : ∃ b off, a = some ⟨b, off, none⟩ ∧ b < B ∧ w.cell? ⟨b, off + i, none⟩ = some (.string (S i)) := by
  rcases h with h | ⟨b, off, e, hb, hc⟩
  · omega
  · exact ⟨b, off, e, hb, hc i hi⟩

/-- A row that a call laid is one. -/
theorem strAt_row {w : World} {g n : Nat} {t : TypeId} {S : Nat → ByteArray} (h : w.rowIs g t n (fun i => .string (S i))) {B : Nat} (hB : g < B) : StrAt w B (some ⟨g, 0, none⟩) n S :=
  .inr ⟨g, 0, rfl, hB, fun i hi => by rw [Nat.zero_add]; exact h.cell hi⟩

theorem rowIs_below {w w' : World} {B g n : Nat} {t : TypeId} {f : Nat → Value} (h : w.rowIs g t n f) (hb : Below B w w') (hg : g < B) : w'.rowIs g t n f := h.of_block (hb.block g hg)

/-- What came in: texts, each within reach. -/
def IsStrs (W : World) (v : Value) : Prop := ∃ a len cap S, v = .slice a len cap ∧ len ≤ maxLen ∧ StrAt W W.heap.size a len S ∧ ∀ i, i < len → (S i).size ≤ maxLen

theorem open_strarg {H : Type} {enc : TypeId × Value → H} {w : World} {r : Reach} {b0 base : Nat} {spare : Nat → Bool} {held : Bool} {v : Value} {d : DataW H} {p : List MemPlace}
    (hv : Value.okWide Try.prog w r b0 115 v) (h : DataW.Trod enc Try.prog w base spare held 115 v d p) : IsStrs w v := by
  obtain ⟨a, len, cap, rfl⟩ := WideShapes.okWide_slice Try.underlying115 hv
  obtain ⟨fuel, hf⟩ := h
  rcases open_strs Try.underlying115 Try.underlying9 (by kernel_rfl) hf with ⟨hcs, _⟩ | ⟨x, l, c, m, S, hcs, _, hl, hm, hmm, _, hcell⟩
  · simp [Value.cells] at hcs
    obtain ⟨rfl, rfl, rfl⟩ := hcs
    exact ⟨_, _, _, fun _ => ByteArray.empty, rfl, Nat.zero_le _, .inl rfl, fun _ h => absurd h (by omega)⟩
  · simp [Value.cells] at hcs
    obtain ⟨rfl, rfl, rfl⟩ := hcs
    have hlm : len ≤ m := by rw [hmm]; split <;> omega
    refine ⟨_, _, _, S, rfl, by omega, ?_, fun i hi => (hcell i (by omega)).2⟩
    rcases Nat.eq_zero_or_pos len with h0 | h0
    · exact .inl h0
    · obtain ⟨b, off, spot⟩ := x
      have hc0 := (hcell 0 (by omega)).1
      have hspot : spot = none := by simpa [Addr.add] using World.cell?_spot hc0
      subst hspot
      have hb : b < w.heap.size := World.block_lt_of_cell? w ⟨b, off, none⟩ (by simpa [Addr.add] using hc0)
      refine .inr ⟨b, off, rfl, hb, fun i hi => ?_⟩
      have hci := (hcell i (by omega)).1
      rwa [Addr.add_lit] at hci

theorem rowIs_step {w : World} {g n k : Nat} {t : TypeId} {z : Value} {S : Nat → ByteArray} (h : w.rowIs g t n (fun i => if i < k then .string (S i) else z)) :
    (w.setCell ⟨g, k, none⟩ (.string (S k))).rowIs g t n (fun i => if i < k + 1 then .string (S i) else z) := by
  refine (h.set k (.string (S k))).congr fun i _ => ?_
  by_cases e : i = k
  · subst e; simp
  · have : (i < k + 1) = (i < k) := by simp; omega
    simp [e, this]

end Go.Proofs.Ytplbhgcibfajaaa
