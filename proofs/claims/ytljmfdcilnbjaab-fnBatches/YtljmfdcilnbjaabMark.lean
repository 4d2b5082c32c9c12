/- The marks that the laws lay into an answer, and look for. -/
import Derived.Test.YtljmfdcilnbjaabReg
import Derived.Test.YtljmfdcilnbjaabDraw
namespace Go.Proofs.Ytljmfdcilnbjaab
set_option maxRecDepth 100000
open Go.RowKit

/-- The digits of k, ahead of acc. -/
def decA : Nat → Nat → ByteArray → ByteArray
  | 0, _, acc => acc
  | f + 1, k, acc => if k = 0 then acc else decA f (k / 10) (strOfNums [48 + (k : Int) % 10] ++ acc)
theorem decA_zero (f : Nat) (acc : ByteArray) : decA f 0 acc = acc := by
  cases f with
  | zero => rfl
  | succ f => rw [decA, if_pos rfl]
/-- Mark number k. -/
def mk (k : Nat) : ByteArray := ⟨#[109]⟩ ++ decA k k ⟨#[]⟩

theorem ret_strM {a b : ByteArray} (h : a = b) : Ending.returned (.string a) = .returned (.string b) := by rw [h]

/-- What mark number K + j looks like in a cell: a number where kd says so, else a text. -/
def mkCell (kd : Nat → Bool) (K j : Nat) : Value := if kd j then .int .i64 ((K + j : Nat) : Int) else .string (mk (K + j))

/-- The first c of the n cells of block g are marked; nothing else has turned. -/
structure Mk (kd : Nat → Bool) (g n K c : Nat) (w x : World) : Prop where
  mv : Mv g w x
  wr : ∀ j, j < n → (∃ v, x.cell? ⟨g, j, none⟩ = some v) ∧ x.frozen? ⟨g, j, none⟩ = false
  ok : ∀ j, j < c → x.cell? ⟨g, j, none⟩ = some (mkCell kd K j)

theorem Mk.start {kd : Nat → Bool} {g n K : Nat} {w : World} (h : ∀ j, j < n → (∃ v, w.cell? ⟨g, j, none⟩ = some v) ∧ w.frozen? ⟨g, j, none⟩ = false) : Mk kd g n K 0 w w := ⟨Mv.refl _ _, h, fun _ h => absurd h (by omega)⟩
theorem Mk.step {kd : Nat → Bool} {g n K c : Nat} {w x : World} (h : Mk kd g n K c w x) (hc : c < n) {v : Value} (hv : v = mkCell kd K c) : Mk kd g n K (c + 1) w (x.setCell ⟨g, c, none⟩ v) := by
  subst hv
  obtain ⟨⟨v0, h0⟩, _⟩ := h.wr c hc
  have hsame := World.cell?_setCell_same x ⟨g, c, none⟩ (mkCell kd K c) h0
  refine ⟨h.mv.setCell _, fun j hj => ?_, fun j hj => ?_⟩
  · by_cases e : j = c
    · subst e; exact ⟨⟨_, hsame⟩, by simpa using (h.wr j hj).2⟩
    · exact ⟨by obtain ⟨v, hv⟩ := (h.wr j hj).1; exact ⟨v, by rw [World.cell?_setCell_other]; exact hv; simp <;> omega⟩, by simpa using (h.wr j hj).2⟩
  · by_cases e : j = c
    · subst e; exact hsame
    · rw [World.cell?_setCell_other]
      · exact h.ok j (by omega)
      · simp <;> omega
theorem Mk.next {kd : Nat → Bool} {g n K c : Nat} {w x y : World} (h : Mk kd g n K c w x) (hb : Below x.heap.size x y) : Mk kd g n K c w y := by
  refine ⟨h.mv.trans (Mv.of_below hb), fun j hj => ?_, fun j hj => keepc hb (h.ok j hj)⟩
  obtain ⟨⟨v, hv⟩, hf⟩ := h.wr j hj
  exact ⟨⟨v, keepc hb hv⟩, (hb.frozen (p := ⟨g, j, none⟩) (World.block_lt_of_cell? _ ⟨g, j, none⟩ hv)).trans hf⟩

theorem mk_int {kd : Nat → Bool} {K j : Nat} {n : Int} (h : kd j = true) (hn : n = ((K + j : Nat) : Int)) : Value.int .i64 n = mkCell kd K j := by rw [mkCell, h, hn]; rfl
theorem mk_str {kd : Nat → Bool} {K j k : Nat} (h : kd j = false) (hk : k = K + j) : Value.string (mk k) = mkCell kd K j := by rw [mkCell, h, hk]; rfl

end Go.Proofs.Ytljmfdcilnbjaab
