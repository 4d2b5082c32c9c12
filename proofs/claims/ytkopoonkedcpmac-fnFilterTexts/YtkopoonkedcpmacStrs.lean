/- Rows of texts: those that came in, the copies that the laws make; their size, and that two are alike. -/
import Derived.Test.YtkopoonkedcpmacRows
import Derived.Test.YtkopoonkedcpmacOwn
import Derived.Deep.OwnRows
import Derived.Deep.Strs
namespace Go.Proofs.Ytkopoonkedcpmac
open Go.RowKit Go.Deep

/-- A row of len texts S, in memory below block B. -/
def StrAt (w : World) (B : Nat) (a : Option Addr) (len : Nat) (S : Nat → ByteArray) : Prop :=
  len = 0 ∨ ∃ b off, a = some ⟨b, off, none⟩ ∧ b < B ∧ ∀ i, i < len → w.cell? ⟨b, off + i, none⟩ = some (.string (S i))

theorem StrAt.below {w w' : World} {B : Nat} {a : Option Addr} {len : Nat} {S : Nat → ByteArray} (h : StrAt w B a len S) (hb : Below B w w') : StrAt w' B a len S := by
  rcases h with h | ⟨b, off, e, hB, hc⟩
  · exact .inl h
  · exact .inr ⟨b, off, e, hB, fun i hi => by rw [hb.cell (p := ⟨b, off + i, none⟩) hB]; exact hc i hi⟩

theorem StrAt.mono {w : World} {B B' : Nat} {a : Option Addr} {len : Nat} {S : Nat → ByteArray} (h : StrAt w B a len S) (hB : B ≤ B') : StrAt w B' a len S := by
  rcases h with h | ⟨b, off, e, hb, hc⟩
  · exact .inl h
  · exact .inr ⟨b, off, e, by omega, hc⟩

theorem StrAt.at {w : World} {B : Nat} {a : Option Addr} {len : Nat} {S : Nat → ByteArray} (h : StrAt w B a len S) {i : Nat} (hi : i < len) : ∃ b off, a = some ⟨b, off, none⟩ ∧ b < B ∧ w.cell? ⟨b, off + i, none⟩ = some (.string (S i)) := by
  rcases h with h | ⟨b, off, e, hb, hc⟩
  · omega
  · exact ⟨b, off, e, hb, hc i hi⟩

/-- A row that a call laid is one. -/
theorem strAt_row {w : World} {g n : Nat} {t : TypeId} {S : Nat → ByteArray} (h : w.rowIs g t n (fun i => .string (S i))) {B : Nat} (hB : g < B) : StrAt w B (some ⟨g, 0, none⟩) n S :=
  .inr ⟨g, 0, rfl, hB, fun i hi => by rw [Nat.zero_add]; exact h.cell hi⟩

theorem rowIs_below {w w' : World} {B g n : Nat} {t : TypeId} {f : Nat → Value} (h : w.rowIs g t n f) (hb : Below B w w') (hg : g < B) : w'.rowIs g t n f := h.of_block (hb.block g hg)

/-- What came in: texts, each within reach. -/
def IsStrs (W : World) (v : Value) : Prop := ∃ a len cap S, v = .slice a len cap ∧ len ≤ maxLen ∧ StrAt W W.heap.size a len S ∧ ∀ i, i < len → (S i).size ≤ maxLen

theorem open_strarg {H : Type} {enc : TypeId × Value → H} {w : World} {r : Reach} {b0 base : Nat} {spare : Nat → Bool} {held : Bool} {v : Value} {d : DataW H} {p : List MemPlace}
    (hv : Value.okWide Try.prog w r b0 22 v) (h : DataW.Trod enc Try.prog w base spare held 22 v d p) : IsStrs w v := by
  obtain ⟨a, len, cap, rfl⟩ := WideShapes.okWide_slice Try.underlying22 hv
  obtain ⟨fuel, hf⟩ := h
  rcases open_strs Try.underlying22 Try.underlying9 (by kernel_rfl) hf with ⟨hcs, _⟩ | ⟨x, l, c, m, S, hcs, _, hl, hm, hmm, _, hcell⟩
  · simp [Value.cells] at hcs
    obtain ⟨rfl, rfl, rfl⟩ := hcs
    exact ⟨_, _, _, fun _ => ByteArray.empty, rfl, Nat.zero_le _, .inl rfl, fun _ h => absurd h (by omega)⟩
  · simp [Value.cells] at hcs
    obtain ⟨rfl, rfl, rfl⟩ := hcs
    have hlm : len ≤ m := by rw [hmm]; split <;> omega
    refine ⟨_, _, _, S, rfl, by omega, ?_, fun i hi => (hcell i (by omega)).2⟩
    rcases Nat.eq_zero_or_pos len with h0 | h0
    · exact .inl h0
    · obtain ⟨b, off, spot⟩ := x
      have hc0 := (hcell 0 (by omega)).1
      have hspot : spot = none := by simpa [Addr.add] using World.cell?_spot hc0
      subst hspot
      have hb : b < w.heap.size := World.block_lt_of_cell? w ⟨b, off, none⟩ (by simpa [Addr.add] using hc0)
      refine .inr ⟨b, off, rfl, hb, fun i hi => ?_⟩
      have hci := (hcell i (by omega)).1
      rwa [Addr.add_lit] at hci

set_option maxHeartbeats 400000 in
/-- The size of what came in: below 0, or as much is left as there was at most. -/
theorem laws_szStringS (a : Option Addr) (len cap : Nat) (S : Nat → ByteArray) (l : Int) (w : World) (hl : len ≤ maxLen) (hs : ∀ i, i < len → (S i).size ≤ maxLen) (h0 : 0 ≤ l) (h1 : l ≤ 1048576) (hS : StrAt w w.heap.size a len S) :
    Calls Try.prog 7 #[.slice a len cap, .int .i64 l] w fun e w' => (∃ r : Int, e = .returned (.int .i64 r) ∧ (r < 0 ∨ (0 ≤ r ∧ r ≤ l ∧ (len : Int) ≤ l ∧ Hid (∀ i, i < len → ((S i).size : Int) ≤ l)))) ∧ w = w' := by
  unfold maxLen at hl
  have HSz : Hid (∀ i, i < len → (S i).size ≤ maxLen) := hs
  clear hs
  by_cases hbig : l < (len : Int)
  · have hx : l - (len : Int) < 0 := by omega
    go_enter Try.func7, Try.ntmps7
    go_wp2
    go_ret
    exact ⟨⟨-1, rfl, .inl (by omega)⟩, rfl⟩
  · have hx : ¬ (l - (len : Int) < 0) := by omega
    have HS : Hid (StrAt w w.heap.size a len S) := hS
    clear hS
    go_enter Try.func7, Try.ntmps7
    go_wp2
    go_loop [1, 5] (fun r i => ∃ (k : Nat) (x : Int), r = .int .i64 x ∧ i = .int .i64 k ∧ k ≤ len ∧ 0 ≤ x ∧ x + len ≤ l ∧ Hid (∀ i, i < k → ((S i).size : Int) ≤ l)) (fun _ i => len - (intOf i).toNat)
    case atStart => exact ⟨0, l - len, rfl, rfl, by omega, by omega, by omega, fun _ h => absurd h (by omega)⟩
    case round =>
      obtain ⟨k, x, rfl, rfl, hk, hx0, hx1, HL⟩ := hrel
      by_cases hlt : k < len
      · obtain ⟨b, off, rfl, _, hc⟩ := HS.out.at hlt
        have hsk := HSz.out k hlt
        unfold maxLen at hsk
        by_cases hneg : x - ((S k).size : Int) < 0
        · go_wp2
          go_ret
          exact ⟨⟨-1, rfl, .inl (by omega)⟩, rfl⟩
        · have HL2 : Hid (∀ i, i < k + 1 → ((S i).size : Int) ≤ l) := fun i hi => by
            rcases Nat.lt_or_eq_of_le (Nat.le_of_lt_succ hi) with h | h
            · exact HL.out i h
            · subst h; omega
          go_wp2
          go_round
          case rel => exact ⟨k + 1, x - (S k).size, rfl, by go_num, by omega, by omega, by omega, HL2⟩
          case measure => simp [intOf]; omega
      · obtain rfl : k = len := by omega
        go_wp2
        go_ret
        refine ⟨⟨x, rfl, Or.inr ?_⟩, rfl⟩
        exact ⟨hx0, by omega⟩

theorem rowIs_step {w : World} {g n k : Nat} {t : TypeId} {z : Value} {S : Nat → ByteArray} (h : w.rowIs g t n (fun i => if i < k then .string (S i) else z)) :
    (w.setCell ⟨g, k, none⟩ (.string (S k))).rowIs g t n (fun i => if i < k + 1 then .string (S i) else z) := by
  refine (h.set k (.string (S k))).congr fun i _ => ?_
  by_cases e : i = k
  · subst e; simp
  · have : (i < k + 1) = (i < k) := by simp; omega
    simp [e, this]

set_option maxHeartbeats 1000000 in
/-- The copy that the laws make. -/
theorem laws_toStringS (a : Option Addr) (len cap : Nat) (S : Nat → ByteArray) (w : World) (hl : len ≤ 1048576) (hS : StrAt w w.heap.size a len S) :
    Calls Try.prog 9 #[.slice a len cap] w fun e w' => e = .returned (.slice (some ⟨w.heap.size, 0, none⟩) len len) ∧ w'.rowIs w.heap.size 9 len (fun i => .string (S i)) ∧ Below w.heap.size w w' := by
  have hi9 : (Try.prog.info? 9).map (fun i => (i.zero, i.size, i.bytes)) = some (some (.string ⟨#[]⟩), 1, 16) := by kernel_rfl
  have hmk : ∀ W : World, (Instr.makeSlice 22 (.int .i64 (len : Int)) (.int .i64 (len : Int))).run Try.prog W = .ok (.slice (some ⟨W.heap.size, 0, none⟩) len len) (W.alloc (.cells (madeCells #[.string ⟨#[]⟩] len) 9)) := fun W =>
    run_make_row' 22 9 (.string ⟨#[]⟩) 16 Try.underlying22 hi9 rfl .i64 .i64 len (by omega) (by omega) W
  have HR0 : Hid ((w.alloc (.cells (madeCells #[.string ⟨#[]⟩] len) 9)).rowIs w.heap.size 9 len (fun i => if i < 0 then .string (S i) else .string ⟨#[]⟩)) := World.rowIs_made w _ len _
  have HB0 : Hid (Below w.heap.size w (w.alloc (.cells (madeCells #[.string ⟨#[]⟩] len) 9))) := (Below.refl _ _).alloc (Nat.le_refl _) _
  have HS : Hid (StrAt w w.heap.size a len S) := hS
  clear hS
  go_enter Try.func9, Try.ntmps9
  go_wp2
  generalize w.alloc (.cells (madeCells #[.string ⟨#[]⟩] len) 9) = w0 at HR0 HB0 ⊢
  clear hmk
  go_loopw [4] (fun i wr => ∃ k : Nat, i = .int .i64 k ∧ k ≤ len ∧ Hid (wr.rowIs w.heap.size 9 len (fun i => if i < k then .string (S i) else .string ⟨#[]⟩)) ∧ Hid (Below w.heap.size w wr)) (fun i _ => len - (intOf i).toNat)
  case atStart => exact ⟨0, rfl, by omega, HR0, HB0⟩
  case round =>
    obtain ⟨k, rfl, hk, HR, HB⟩ := hrel
    clear HR0 HB0
    by_cases hlt : k < len
    · obtain ⟨b, off, rfl, hb, hc⟩ := HS.out.at hlt
      have hc' : wr.cell? ⟨b, off + k, none⟩ = some (.string (S k)) := by rw [HB.out.cell (p := ⟨b, off + k, none⟩) hb]; exact hc
      have hcell : wr.cell? ⟨w.heap.size, k, none⟩ = some (if k < k then .string (S k) else .string ⟨#[]⟩) := HR.out.cell hlt
      have hfr := HR.out.frozen k
      have HR2 : Hid _ := rowIs_step HR.out
      have HB2 : Hid _ := HB.out.setCell (p := ⟨w.heap.size, k, none⟩) (Nat.le_refl _) (.string (S k))
      clear hc HR HB
      simp at hcell
      go_wp2
      exact ⟨⟨k + 1, by go_num, by omega, HR2, HB2⟩, by simp [intOf]; omega⟩
    · obtain rfl : k = len := by omega
      go_wp2
      go_ret
      exact ⟨rfl, HR.out.congr fun i hi => by simp [hi], HB.out⟩

set_option maxHeartbeats 1000000 in
theorem laws_eqStringS (a b : Option Addr) (len ca cb : Nat) (S : Nat → ByteArray) (w : World) (hl : len ≤ 1048576) (ha : StrAt w w.heap.size a len S) (hb : StrAt w w.heap.size b len S) :
    Calls Try.prog 12 #[.slice a len ca, .slice b len cb] w fun e w' => e = .returned (.bool true) ∧ Below w.heap.size w w' := by
  have HA : Hid (StrAt w w.heap.size a len S) := ha
  have HB : Hid (StrAt w w.heap.size b len S) := hb
  clear ha hb
  have HB0 : Hid (Below w.heap.size w w) := Below.refl _ _
  go_enter Try.func12, Try.ntmps12
  go_wp2
  go_loopw [5] (fun i wr => ∃ k : Nat, i = .int .i64 k ∧ k ≤ len ∧ Hid (Below w.heap.size w wr)) (fun i _ => len - (intOf i).toNat)
  case atStart => exact ⟨0, rfl, by omega, HB0⟩
  case round =>
    obtain ⟨k, rfl, hk, HW⟩ := hrel
    by_cases hlt : k < len
    · obtain ⟨b1, off1, rfl, hb1, hc1⟩ := HA.out.at hlt
      obtain ⟨b2, off2, rfl, hb2, hc2⟩ := HB.out.at hlt
      have hc1' : wr.cell? ⟨b1, off1 + k, none⟩ = some (.string (S k)) := by rw [HW.out.cell (p := ⟨b1, off1 + k, none⟩) hb1]; exact hc1
      have hc2' : wr.cell? ⟨b2, off2 + k, none⟩ = some (.string (S k)) := by rw [HW.out.cell (p := ⟨b2, off2 + k, none⟩) hb2]; exact hc2
      have hki : (k : Int) < (len : Int) := by omega
      clear hc1 hc2
      go_wp2
      go_quiet (fail)
      go_wp2
      exact ⟨⟨k + 1, by go_num, by omega, below_drewN HW.out _⟩, by simp [intOf]; omega⟩
    · go_wp2
      go_ret
      exact ⟨rfl, HW.out⟩

end Go.Proofs.Ytkopoonkedcpmac
