/- The law on EntriesOk; rows of entries that come in. -/
import Derived.Test.YtjcoejabpagaiaaEntsOkS
namespace Go.Proofs.Ytjcoejabpagaiaa
set_option maxRecDepth 100000
open Go.RowKit Go.Deep

/-- What came in: entries, their texts within reach. -/
def IsEnts (W : World) (v : Value) : Prop := ∃ a len cap E, v = .slice a len cap ∧ len ≤ maxLen ∧ EntAt W W.heap.size a len E ∧ ∀ i, i < len → (E.U i).size ≤ maxLen ∧ (E.X i).size ≤ maxLen

theorem open_entries {H : Type} {enc : TypeId × Value → H} {w : World} {r : Reach} {b0 base : Nat} {spare : Nat → Bool} {held : Bool} {v : Value} {d : DataW H} {p : List MemPlace}
    (hv : Value.okWide Try.prog w r b0 22 v) (h : DataW.Trod enc Try.prog w base spare held 22 v d p) : IsEnts w v := by
  obtain ⟨a, len, cap, rfl⟩ := WideShapes.okWide_slice Try.underlying22 hv
  obtain ⟨fuel, hf⟩ := h
  have hc4 : Try.prog.cellsOf 47 = 4 := by kernel_rfl
  rcases open_slice Try.underlying22 hf with ⟨hcs, _⟩ | ⟨x, l, c, m, n, D, Pl, hcs, _, hl, hm, hmm, _, hx⟩
  · simp [Value.cells] at hcs
    obtain ⟨rfl, rfl, rfl⟩ := hcs
    exact ⟨_, _, _, ⟨fun _ => ByteArray.empty, fun _ => 0, fun _ => 0, fun _ => ByteArray.empty⟩, rfl, Nat.zero_le _, .inl rfl, fun _ h => absurd h (by omega)⟩
  · simp [Value.cells] at hcs
    obtain ⟨rfl, rfl, rfl⟩ := hcs
    have hlm : len ≤ m := by rw [hmm]; split <;> omega
    rw [hc4] at hx
    obtain ⟨b, off, spot⟩ := x
    have each : ∀ i, i < m → ∃ q : ByteArray × Int × Int × ByteArray, w.cell? ⟨b, off + i * 4, none⟩ = some (.string q.1) ∧ w.cell? ⟨b, off + i * 4 + 1, none⟩ = some (.int .i64 q.2.1) ∧ w.cell? ⟨b, off + i * 4 + 2, none⟩ = some (.int .i64 q.2.2.1) ∧ w.cell? ⟨b, off + i * 4 + 3, none⟩ = some (.string q.2.2.2) ∧ q.1.size ≤ maxLen ∧ q.2.2.2.size ≤ maxLen ∧ spot = none := fun i hi => by
      obtain ⟨cs', h1, h2⟩ := hx i hi
      obtain ⟨_, _, hcell⟩ := World.cells?_some h1
      obtain ⟨u, q, k, x, rfl, hu, hxs⟩ := entry_trod h2
      have e0 := hcell 0 (by omega)
      have e1 := hcell 1 (by omega)
      have e2 := hcell 2 (by omega)
      have e3 := hcell 3 (by omega)
      have hspot : spot = none := by
        have hx0 := (World.cells?_some (hx 0 (by omega)).choose_spec.1).2.2 0 (by omega)
        obtain ⟨u', q', k', x', hcs, _, _⟩ := entry_trod (hx 0 (by omega)).choose_spec.2
        rw [hcs] at hx0
        have hx1 : w.cell? ⟨b, off, spot⟩ = some (.string u') := by simpa [Addr.add] using hx0
        simpa using World.cell?_spot hx1
      subst hspot
      rw [Addr.add_lit, Addr.add_lit] at e0 e1 e2 e3
      exact ⟨(u, q, k, x), by simpa using e0, by simpa using e1, by simpa using e2, by simpa using e3, hu, hxs, rfl⟩
    obtain ⟨q, hq⟩ := choose_lt each
    refine ⟨_, _, _, ⟨fun i => (q i).1, fun i => (q i).2.1, fun i => (q i).2.2.1, fun i => (q i).2.2.2⟩, rfl, by omega, ?_, fun i hi => ⟨(hq i (by omega)).2.2.2.2.1, (hq i (by omega)).2.2.2.2.2.1⟩⟩
    rcases Nat.eq_zero_or_pos len with h0 | h0
    · exact .inl h0
    · have hspot : spot = none := (hq 0 (by omega)).2.2.2.2.2.2
      subst hspot
      have hb : b < w.heap.size := World.block_lt_of_cell? w ⟨b, off + 0 * 4, none⟩ (hq 0 (by omega)).1
      exact .inr ⟨b, off, rfl, hb, fun i hi => ⟨(hq i (by omega)).1, (hq i (by omega)).2.1, (hq i (by omega)).2.2.1, (hq i (by omega)).2.2.2.1⟩⟩

end Go.Proofs.Ytjcoejabpagaiaa
