/- Rows of numbers: those that came in, the copies that the laws make; their size, and that two are alike; rows of one's own. -/
import Derived.Test.YtjcoejabpagaiaaRows
import Derived.Test.YtjcoejabpagaiaaEntRow
import Derived.Test.YtjcoejabpagaiaaMine
import Derived.Deep.OwnRows
import Derived.Deep.Slices
import Derived.Deep.RegionHeld3
namespace Go.Proofs.Ytjcoejabpagaiaa
set_option maxRecDepth 100000
open Go.RowKit Go.Deep

/-- A row of len numbers S, in memory below block B. -/
def IntAt (w : World) (B : Nat) (a : Option Addr) (len : Nat) (S : Nat → Int) : Prop :=
  len = 0 ∨ ∃ b off, a = some ⟨b, off, none⟩ ∧ b < B ∧ ∀ i, i < len → w.cell? ⟨b, off + i, none⟩ = some (.int .i64 (S i))

theorem IntAt.below {w w' : World} {B : Nat} {a : Option Addr} {len : Nat} {S : Nat → Int} (h : IntAt w B a len S) (hb : Below B w w') : IntAt w' B a len S := by
  rcases h with h | ⟨b, off, e, hB, hc⟩
  · exact .inl h
  · exact .inr ⟨b, off, e, hB, fun i hi => by rw [hb.cell (p := ⟨b, off + i, none⟩) hB]; exact hc i hi⟩

theorem IntAt.mono {w : World} {B B' : Nat} {a : Option Addr} {len : Nat} {S : Nat → Int} (h : IntAt w B a len S) (hB : B ≤ B') : IntAt w B' a len S := by
  rcases h with h | ⟨b, off, e, hb, hc⟩
  · exact .inl h
  · exact .inr ⟨b, off, e, by omega, hc⟩

theorem IntAt.next {w w' : World} {a : Option Addr} {len : Nat} {S : Nat → Int} (h : IntAt w w.heap.size a len S) (hb : Below w.heap.size w w') : IntAt w' w'.heap.size a len S := (h.below hb).mono hb.size
theorem IntAt.hid {w : World} {B : Nat} {a : Option Addr} {len : Nat} {S : Nat → Int} (h : IntAt w B a len S) : Hid (IntAt w B a len S) := h

theorem IntAt.at {w : World} {B : Nat} {a : Option Addr} {len : Nat} {S : Nat → Int} (h : IntAt w B a len S) {i : Nat} (hi : i < len) : ∃ b off, a = some ⟨b, off, none⟩ ∧ b < B ∧ w.cell? ⟨b, off + i, none⟩ = some (.int .i64 (S i)) := by
  rcases h with h | ⟨b, off, e, hb, hc⟩
  · omega
  · exact ⟨b, off, e, hb, hc i hi⟩

theorem intAt_row {w : World} {g n : Nat} {t : TypeId} {S : Nat → Int} (h : w.rowIs g t n (fun i => .int .i64 (S i))) {B : Nat} (hB : g < B) : IntAt w B (some ⟨g, 0, none⟩) n S :=
  .inr ⟨g, 0, rfl, hB, fun i hi => by rw [Nat.zero_add]; exact h.cell hi⟩

theorem intAt_cells {w : World} {g n : Nat} {S : Nat → Int} (h : ∀ j, j < n * 1 → w.cell? ⟨g, j, none⟩ = some (.int .i64 (S j))) {B : Nat} (hB : g < B) : IntAt w B (some ⟨g, 0, none⟩) n S :=
  .inr ⟨g, 0, rfl, hB, fun i hi => by rw [Nat.zero_add]; exact h i (by omega)⟩

theorem intAt_mine {w : World} {B : Nat} {ty : TypeId} {a : Option Addr} {p n : Nat} {S : Nat → Int} (h : Mine w B ty 1 a p n (fun i => .int .i64 (S i))) : IntAt w w.heap.size a n S := by
  rcases h.at with h | ⟨g, rfl, _, hg, hc⟩
  · exact .inl h
  · exact intAt_cells hc hg

theorem rowInt_step {w : World} {g n k : Nat} {t : TypeId} {z : Value} {S : Nat → Int} (h : w.rowIs g t n (fun i => if i < k then .int .i64 (S i) else z)) :
    (w.setCell ⟨g, k, none⟩ (.int .i64 (S k))).rowIs g t n (fun i => if i < k + 1 then .int .i64 (S i) else z) := by
  refine (h.set k (.int .i64 (S k))).congr fun i _ => ?_
  by_cases e : i = k
  · subst e; simp
  · have : (i < k + 1) = (i < k) := by simp; omega
    simp [e, this]

theorem ints_trod {H : Type} {enc : TypeId × Value → H} {w : World} {base : Nat} {spare : Nat → Bool} {held : Bool} {fuel : Nat} {cs : List Value} {y : DataW H × List MemPlace}
    (hf : DataW.trod enc Try.prog w base spare held fuel 69 cs = some y) : ∃ a len cap S, cs = [.slice a len cap] ∧ len ≤ maxLen ∧ IntAt w w.heap.size a len S := by
  have hc4 : Try.prog.cellsOf 2 = 1 := by kernel_rfl
  rcases open_slice Try.underlying69 hf with ⟨hcs, _⟩ | ⟨x, l, c, m, n, D, Pl, hcs, _, hl, hm, hmm, _, hx⟩
  · exact ⟨none, 0, 0, fun _ => 0, hcs, Nat.zero_le _, .inl rfl⟩
  · have hlm : l ≤ m := by rw [hmm]; split <;> omega
    rw [hc4] at hx
    obtain ⟨b, off, spot⟩ := x
    have each : ∀ i, i < m → ∃ q : Int, w.cell? ⟨b, off + i, none⟩ = some (.int .i64 q) ∧ spot = none := fun i hi => by
      obtain ⟨cs', h1, h2⟩ := hx i hi
      obtain ⟨_, hcl, hcell⟩ := World.cells?_some h1
      obtain ⟨x0, hx0, _, _⟩ := DataW.trod_int Try.underlying2 h2
      have e0 := hcell 0 (by omega)
      subst hx0
      have hspot : spot = none := by
        have hx0 := (World.cells?_some (hx 0 (by omega)).choose_spec.1).2.2 0 (by omega)
        obtain ⟨x0', hcs, _, _⟩ := DataW.trod_int Try.underlying2 (hx 0 (by omega)).choose_spec.2
        rw [hcs] at hx0
        have hx1 : w.cell? ⟨b, off, spot⟩ = some (.int .i64 x0') := by simpa [Addr.add] using hx0
        simpa using World.cell?_spot hx1
      subst hspot
      rw [Addr.add_lit, Addr.add_lit] at e0
      exact ⟨x0, by simpa using e0, rfl⟩
    obtain ⟨q, hq⟩ := choose_lt each
    refine ⟨_, _, _, q, hcs, by omega, ?_⟩
    rcases Nat.eq_zero_or_pos l with h0 | h0
    · exact .inl h0
    · have hspot : spot = none := (hq 0 (by omega)).2
      subst hspot
      have hb : b < w.heap.size := World.block_lt_of_cell? w ⟨b, off + 0, none⟩ (hq 0 (by omega)).1
      exact .inr ⟨b, off, rfl, hb, fun i hi => (hq i (by omega)).1⟩

/-- A row of numbers of one's own. -/
def OwnI (w : World) (B : Nat) (v : Value) (l : List Int) : Prop := Own w B 2 v (l.map (Value.int .i64))

theorem OwnI.at {w : World} {B : Nat} {v : Value} {l : List Int} (h : OwnI w B v l) : ∃ a cap, v = .slice a l.length cap ∧ IntAt w w.heap.size a l.length (fun i => l.getD i 0) := by
  have hc := fun g => World.ownsRow.cells (w := w) h (g := g)
  rcases h.2 with ⟨rfl, h0⟩ | ⟨g, cap, cur, rfl, hg, hh, hle, hcap, hsz, htake⟩
  · have : l = [] := by simpa using h0
    subst this
    exact ⟨none, 0, rfl, .inl rfl⟩
  · refine ⟨some ⟨g, 0, none⟩, cap, by simp, .inr ⟨g, 0, rfl, (Array.getElem?_eq_some_iff.1 hh).1, fun i hi => ?_⟩⟩
    have hi2 : (l.map (Value.int .i64))[i]? = some (.int .i64 (l.getD i 0)) := by simp [List.getD, hi]
    have hx : w.cell? (({ block := g, off := 0 } : Addr).add i) = some (.int .i64 (l.getD i 0)) := hc g rfl i _ hi2
    rw [Addr.add_lit] at hx
    exact hx
theorem OwnI.mine {w : World} {B : Nat} {v : Value} {l : List Int} (h : OwnI w B v l) : ∃ a p, v = .slice a l.length p ∧ Mine w B 2 1 a p l.length (fun i => .int .i64 (l.getD i 0)) := by
  obtain ⟨a, p, hv, hM⟩ := mine_of h
  refine ⟨a, p, by simpa using hv, ?_⟩
  rw [List.length_map] at hM
  refine hM.congr fun j hj => ?_
  have hj' : j < l.length := by omega
  simp [List.getD, hj']
theorem OwnI.next {w w' : World} {B : Nat} {v : Value} {l : List Int} (h : OwnI w B v l) (hb : Below w.heap.size w w') : OwnI w' B v l := Own.below h hb (Nat.le_refl _)
theorem OwnI.nil (w : World) (B : Nat) : OwnI w B (.slice none 0 0) [] := Own.nil w B _
theorem OwnI.hid {w : World} {B : Nat} {v : Value} {l : List Int} (h : OwnI w B v l) : Hid (OwnI w B v l) := h

end Go.Proofs.Ytjcoejabpagaiaa
