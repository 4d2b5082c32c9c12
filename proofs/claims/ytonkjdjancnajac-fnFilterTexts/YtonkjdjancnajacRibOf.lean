/- RibbonOf of the model ends, does not panic, and tells a filter of few bytes: no more is said here. -/
import Derived.Test.YtonkjdjancnajacRibbon
import Derived.Test.YtonkjdjancnajacBloomOfS
namespace Go.Proofs.Ytonkjdjancnajac
set_option maxRecDepth 100000
open Go.RowKit Go.Deep

/-- Block g holds the words l from its beginning on. -/
def URow (w : World) (g : Nat) (l : List Int) : Prop := ∀ i x, l[i]? = some x → w.cell? ⟨g, i, none⟩ = some (.int .u64 x) ∧ w.frozen? ⟨g, i, none⟩ = false
theorem URow.set {w : World} {g : Nat} {l : List Int} (h : URow w g l) (k : Nat) (x : Int) (hk : k < l.length) : URow (w.setCell ⟨g, k, none⟩ (.int .u64 x)) g (l.set k x) := by
  intro i y hy
  by_cases e : k = i
  · subst e
    rw [List.getElem?_set_self hk] at hy
    obtain rfl : x = y := by simpa using hy
    obtain ⟨z, hz⟩ : ∃ z, l[k]? = some z := ⟨_, List.getElem?_eq_getElem hk⟩
    have hc := h k z hz
    refine ⟨World.cell?_setCell_same _ _ _ hc.1, by simpa using hc.2⟩
  · rw [List.getElem?_set_ne e] at hy
    have hc := h i y hy
    exact ⟨by rw [World.cell?_setCell_other (h := by intro h; exact e (Addr.mk.inj h).2.1)]; exact hc.1, by simpa using hc.2⟩
theorem URow.block {w w' : World} {g : Nat} {l : List Int} (h : URow w g l) (hb : w'.heap[g]? = w.heap[g]?) : URow w' g l := fun i x hx =>
  ⟨(World.cell?_of_block (a := ⟨g, i, none⟩) hb).trans (h i x hx).1, (World.frozen?_of_block (a := ⟨g, i, none⟩) hb).trans (h i x hx).2⟩
theorem FRow.block {w w' : World} {g : Nat} {l : List Int} (h : FRow w g l) (hb : w'.heap[g]? = w.heap[g]?) : FRow w' g l := fun i x hx =>
  ⟨(World.cell?_of_block (a := ⟨g, i, none⟩) hb).trans (h i x hx).1, (World.frozen?_of_block (a := ⟨g, i, none⟩) hb).trans (h i x hx).2⟩

theorem made_u64 (w : World) (n : Nat) : URow (w.alloc (.cells (madeCells #[.int .u64 0] n) 60)) w.heap.size (List.replicate n 0) := fun i x hx => by
  have h := World.rowIs_made w (.int .u64 0) n 60
  rw [List.getElem?_replicate] at hx
  by_cases hi : i < n
  · rw [if_pos hi] at hx
    obtain rfl : 0 = x := by simpa using hx
    exact ⟨h.cell hi, h.frozen i⟩
  · rw [if_neg hi] at hx; cases hx
theorem mk_u64 (n : Nat) (hn : n ≤ 1000) (w : World) : (Instr.makeSlice 102 (.int .i64 (n : Int)) (.int .i64 (n : Int))).run Try.prog w = .ok (.slice (some ⟨w.heap.size, 0, none⟩) n n) (w.alloc (.cells (madeCells #[.int .u64 0] n) 60)) :=
  run_make_row' 102 60 (.int .u64 0) 8 Try.underlying102 (by kernel_rfl) rfl .i64 .i64 n (by omega) (by omega) w

/-- Row i is none or odd, and has its bits in the columns i .. n - 1. -/
def RowsOk (l : List Int) (n : Nat) : Prop := ∀ (i : Nat) (x : Int), l[i]? = some x → ∃ y : Nat, x = y ∧ (y = 0 ∨ y % 2 = 1) ∧ y < 2 ^ (n - i) ∧ y < 65536
def SumsOk (l : List Int) : Prop := ∀ (i : Nat) (x : Int), l[i]? = some x → 0 ≤ x ∧ x ≤ 18446744073709551615
theorem RowsOk.zeros (n : Nat) : RowsOk (List.replicate n 0) n := fun i x hx => by
  rw [List.getElem?_replicate] at hx
  split at hx
  · obtain rfl : 0 = x := by simpa using hx
    exact ⟨0, rfl, .inl rfl, Nat.pow_pos (by omega), by omega⟩
  · cases hx
theorem SumsOk.zeros (n : Nat) : SumsOk (List.replicate n 0) := fun i x hx => by
  rw [List.getElem?_replicate] at hx
  split at hx
  · obtain rfl : 0 = x := by simpa using hx
    omega
  · cases hx
theorem RowsOk.set {l : List Int} {n : Nat} (h : RowsOk l n) (k r : Nat) (h1 : r % 2 = 1) (h2 : r < 2 ^ (n - k)) (h3 : r < 65536) : RowsOk (l.set k r) n := fun i x hx => by
  by_cases e : k = i
  · subst e
    by_cases hk : k < l.length
    · rw [List.getElem?_set_self hk] at hx
      obtain rfl : (r : Int) = x := by simpa using hx
      exact ⟨r, rfl, .inr h1, h2, h3⟩
    · rw [List.getElem?_eq_none (by rw [List.length_set]; omega)] at hx; cases hx
  · rw [List.getElem?_set_ne e] at hx; exact h i x hx
theorem SumsOk.set {l : List Int} (h : SumsOk l) (k : Nat) (s : Int) (h0 : 0 ≤ s) (h1 : s ≤ 18446744073709551615) : SumsOk (l.set k s) := fun i x hx => by
  by_cases e : k = i
  · subst e
    by_cases hk : k < l.length
    · rw [List.getElem?_set_self hk] at hx
      obtain rfl : s = x := by simpa using hx
      exact ⟨h0, h1⟩
    · rw [List.getElem?_eq_none (by rw [List.length_set]; omega)] at hx; cases hx
  · rw [List.getElem?_set_ne e] at hx; exact h i x hx

theorem half_lt {r m : Nat} (h : r < 2 ^ m) (hr : 0 < r) : 1 ≤ m ∧ r / 2 < 2 ^ (m - 1) := by
  cases m with
  | zero => simp at h; omega
  | succ m => rw [Nat.pow_succ] at h; simp; omega
theorem xor_odd {a b : Nat} (ha : a % 2 = 1) (hb : b % 2 = 1) : (a ^^^ b) % 2 = 0 := by
  have h := Nat.testBit_xor (x := a) (y := b) (i := 0)
  rw [Nat.testBit_zero, Nat.testBit_zero, Nat.testBit_zero, decide_eq_true ha, decide_eq_true hb] at h
  have h2 : ¬ (a ^^^ b) % 2 = 1 := of_decide_eq_false (h.trans rfl)
  omega
theorem xor_u64N (a b : Nat) (ha : a < 65536) (hb : b < 65536) : bits .xor .u64 (a : Int) (b : Int) = ((a ^^^ b : Nat) : Int) := by
  rw [u64_xor (a : Int) (b : Int) (by omega) (by omega) (by omega) (by omega)]
  simp
theorem bit_in {y n k j : Nat} (h : y < 2 ^ (n - k)) (hk : k ≤ n) (hb : y / 2 ^ j % 2 = 1) : k + j < n := by
  refine Classical.byContradiction fun hc => ?_
  have hle : 2 ^ (n - k) ≤ 2 ^ j := Nat.pow_le_pow_right (by omega) (by omega)
  have : y / 2 ^ j = 0 := Nat.div_eq_of_lt (by omega)
  rw [this] at hb
  cases hb

abbrev zf : Array Value := #[.int .i64 0, .int .i64 0, .int .i64 0, .string ⟨#[]⟩]

/-- The worlds of RibbonOf: the answer's box is still as it was laid, the two rows hold l1, l2. -/
structure RibW (w : World) (n : Nat) (l1 l2 : List Int) (x : World) : Prop where
  box : x.heap[w.heap.size]? = some (.cells zf 36)
  r1 : URow x (w.heap.size + 1) l1
  r2 : URow x (w.heap.size + 2) l2
  low : Below w.heap.size w x
  size : w.heap.size + 3 ≤ x.heap.size
  n1 : l1.length = n
  n2 : l2.length = n
  ok1 : RowsOk l1 n
  ok2 : SumsOk l2

theorem RibW.start (w : World) (n : Nat) : RibW w n (List.replicate n 0) (List.replicate n 0) (((w.alloc (.cells zf 36)).alloc (.cells (madeCells #[.int .u64 0] n) 60)).alloc (.cells (madeCells #[.int .u64 0] n) 60)) := by
  have a1 := made_u64 (w.alloc (.cells zf 36)) n
  have a2 := made_u64 ((w.alloc (.cells zf 36)).alloc (.cells (madeCells #[.int .u64 0] n) 60)) n
  have s1 : (w.alloc (.cells zf 36)).heap.size = w.heap.size + 1 := by simp
  have s2 : ((w.alloc (.cells zf 36)).alloc (.cells (madeCells #[.int .u64 0] n) 60)).heap.size = w.heap.size + 2 := by simp
  rw [s1] at a1
  rw [s2] at a2
  have b0 : Below w.heap.size w (w.alloc (.cells zf 36)) := (Below.refl _ _).alloc (Nat.le_refl _) _
  have b1 := (Below.refl (w.alloc (.cells zf 36)).heap.size (w.alloc (.cells zf 36))).alloc (Nat.le_refl _) (.cells (madeCells #[.int .u64 0] n) 60)
  have b2 := (Below.refl ((w.alloc (.cells zf 36)).alloc (.cells (madeCells #[.int .u64 0] n) 60)).heap.size ((w.alloc (.cells zf 36)).alloc (.cells (madeCells #[.int .u64 0] n) 60))).alloc (Nat.le_refl _) (.cells (madeCells #[.int .u64 0] n) 60)
  refine ⟨?_, a1.block (b2.block _ (by omega)), a2, (b0.trans (b1.mono (by omega))).trans (b2.mono (by omega)), by simp, by simp, by simp, RowsOk.zeros n, SumsOk.zeros n⟩
  rw [b2.block _ (by omega), b1.block _ (by omega)]
  exact heap_alloc_new w _

theorem RibW.put {w : World} {n : Nat} {l1 l2 : List Int} {x : World} (h : RibW w n l1 l2 x) (c r : Nat) (s : Int) (hc : c < n) (h1 : r % 2 = 1) (h2 : r < 2 ^ (n - c)) (h3 : r < 65536) (h4 : 0 ≤ s) (h5 : s ≤ 18446744073709551615) :
    RibW w n (l1.set c (r : Int)) (l2.set c s) ((x.setCell ⟨w.heap.size + 1, c, none⟩ (.int .u64 r)).setCell ⟨w.heap.size + 2, c, none⟩ (.int .u64 s)) := by
  have k0 : (x.setCell ⟨w.heap.size + 1, c, none⟩ (.int .u64 r)).heap[w.heap.size]? = x.heap[w.heap.size]? := heap_setCell_other _ _ _ _ (by simp)
  have k1 : ((x.setCell ⟨w.heap.size + 1, c, none⟩ (.int .u64 r)).setCell ⟨w.heap.size + 2, c, none⟩ (.int .u64 s)).heap[w.heap.size]? = (x.setCell ⟨w.heap.size + 1, c, none⟩ (.int .u64 r)).heap[w.heap.size]? := heap_setCell_other _ _ _ _ (by simp)
  have k2 : (x.setCell ⟨w.heap.size + 1, c, none⟩ (.int .u64 r)).heap[w.heap.size + 2]? = x.heap[w.heap.size + 2]? := heap_setCell_other _ _ _ _ (by simp)
  have k3 : ((x.setCell ⟨w.heap.size + 1, c, none⟩ (.int .u64 r)).setCell ⟨w.heap.size + 2, c, none⟩ (.int .u64 s)).heap[w.heap.size + 1]? = (x.setCell ⟨w.heap.size + 1, c, none⟩ (.int .u64 r)).heap[w.heap.size + 1]? := heap_setCell_other _ _ _ _ (by simp)
  refine ⟨by rw [k1, k0]; exact h.box, (h.r1.set c r (by rw [h.n1]; exact hc)).block k3, (h.r2.block k2).set c s (by rw [h.n2]; exact hc), (h.low.setCell (p := ⟨w.heap.size + 1, c, none⟩) (show w.heap.size ≤ w.heap.size + 1 by omega) _).setCell (p := ⟨w.heap.size + 2, c, none⟩) (show w.heap.size ≤ w.heap.size + 2 by omega) _, ?_, by simpa using h.n1, by simpa using h.n2, h.ok1.set c r h1 h2 h3, h.ok2.set c s h4 h5⟩
  have := h.size
  simpa [World.setCell] using this

theorem RibW.outer {w : World} {n : Nat} {l1 l2 : List Int} {x : World} (h : RibW w n l1 l2 x) (G o : Nat) (v : Value) (hG : w.heap.size + 3 ≤ G) : RibW w n l1 l2 (x.setCell ⟨G, o, none⟩ v) := by
  have k (j : Nat) (hj : j ≠ G) : (x.setCell ⟨G, o, none⟩ v).heap[j]? = x.heap[j]? := heap_setCell_other _ _ _ _ (by simpa using hj)
  refine ⟨by rw [k _ (by omega)]; exact h.box, h.r1.block (k _ (by omega)), h.r2.block (k _ (by omega)), h.low.setCell (p := ⟨G, o, none⟩) (show w.heap.size ≤ G by omega) _, ?_, h.n1, h.n2, h.ok1, h.ok2⟩
  have := h.size
  simpa [World.setCell] using this
theorem RibW.alloc {w : World} {n : Nat} {l1 l2 : List Int} {x : World} (h : RibW w n l1 l2 x) (o : Obj) : RibW w n l1 l2 (x.alloc o) := by
  have hz := h.size
  have b := (Below.refl x.heap.size x).alloc (Nat.le_refl _) o
  refine ⟨by rw [b.block _ (by omega)]; exact h.box, h.r1.block (b.block _ (by omega)), h.r2.block (b.block _ (by omega)), h.low.alloc (by omega) _, by simp; omega, h.n1, h.n2, h.ok1, h.ok2⟩

set_option maxHeartbeats 4000000 in
set_option maxRecDepth 100000 in
theorem spec_RibbonOf_ends (a : Option Addr) (len cap : Nat) (S : Nat → ByteArray) (sd : Nat) (w : World) (hl : len ≤ 1048576) (hsd : sd ≤ 3) (hS : StrAt w w.heap.size a len S) :
    Calls Try.prog 66 #[.slice a len cap, .int .i64 sd] w fun e w' => ∃ k s p b ok, e = .returned (.tuple #[.agg #[.int .i64 k, .int .i64 s, .int .i64 p, .string b], .bool ok]) ∧ b.size ≤ 1000 ∧ Below w.heap.size w w' := by
  have HS := hide hS
  have hS1 := (hS.below ((Below.refl w.heap.size w).alloc (Nat.le_refl _) (.cells #[.int .i64 0, .int .i64 0, .int .i64 0, .string ⟨#[]⟩] 36))).mono (B' := (w.alloc (.cells #[.int .i64 0, .int .i64 0, .int .i64 0, .string ⟨#[]⟩] 36)).heap.size) (by simp)
  have cu := spec_UsersOk a len cap S _ hl hS1
  clear hS hS1
  cases hu : usersB S len with
  | false =>
    rw [hu] at cu
    go_enter Try.func66, Try.ntmps66
    go_wp2_with fail
    refine cu.mono ?_
    rintro e w1 ⟨rfl, rfl⟩
    go_wp2
    refine bodyPost_ret (v := badB) (by simp [results, Try.results66, go_sem, badB]) rfl ⟨0, 0, 0, ⟨#[]⟩, false, rfl, by decide, ?_⟩
    exact (Below.refl _ _).alloc (Nat.le_refl _) _
  | true =>
    rw [hu] at cu
    have ci := fun wx => spec_l1InB sd 0 3 wx
    rw [decide_eq_true (show (0 : Int) ≤ (sd : Int) ∧ (sd : Int) ≤ 3 by omega)] at ci
    have HU := hide (usersB_out hu)
    have hl400 := HU.out.1
    obtain ⟨q4, hq4⟩ : ∃ q, len / 4 = q := ⟨_, rfl⟩
    have hq4I : (len : Int) / 4 = (q4 : Int) := by omega
    obtain ⟨n, hn⟩ : ∃ n, len + q4 + 20 = n := ⟨_, rfl⟩
    have hnI : (len : Int) + (q4 : Int) + 20 = (n : Int) := by omega
    have hn20 : 20 ≤ n := by omega
    have hn600 : n ≤ 600 := by omega
    have hmk := mk_u64 n (by omega)
    have HW := hide (RibW.start w n)
    clear hq4 hn hu
    go_enter Try.func66, Try.ntmps66
    go_wp2_with fail
    refine cu.mono ?_
    rintro e w1 ⟨rfl, rfl⟩
    go_wp2_with fail
    refine (ci _).mono ?_
    rintro e w1 ⟨rfl, rfl⟩
    clear cu ci
    go_wp2_with fail
    clear hmk hnI hq4I
    simp only [show w.heap.size + 1 + 1 = w.heap.size + 2 from rfl]
    go_loopw [10] (fun i wr => ∃ (k : Nat) (l1 l2 : List Int), i = .int .i64 k ∧ k ≤ len ∧ Hid (RibW w n l1 l2 wr)) (fun i _ => len - (intOf i).toNat)
    case atStart => exact ⟨0, _, _, rfl, by omega, HW⟩
    case round =>
      obtain ⟨k, l1, l2, rfl, hk, HR⟩ := hrel
      clear HW
      by_cases hlt : k < len
      · obtain ⟨bb, off, rfl, hbb, hc⟩ := ((HS.out.below HR.out.low).mono HR.out.low.size).at hlt
        have hus := (userB_bd (HU.out.2 k hlt)).2
        have hki : (k : Int) < (len : Int) := by omega
        have cr := fun wx => spec_l4Row (S k) sd n (by unfold maxLen; omega) hsd (by omega) (by omega) wx
        have hpl := placeOf_lt (hashS sd (S k)) n (by omega)
        have hrw := rowOf_lt (hashS sd (S k))
        have hsm : sumOf (hashS sd (S k)) < 128 := Nat.mod_lt _ (by omega)
        generalize placeOf (hashS sd (S k)) n = pl at *
        generalize rowOf (hashS sd (S k)) = rw' at *
        generalize sumOf (hashS sd (S k)) = sm at *
        have hpw : rw' < 2 ^ (n - pl) := Nat.lt_of_lt_of_le hrw (Nat.pow_le_pow_right (n := 2) (by omega) (show 16 ≤ n - pl by omega))
        go_wp2_with fail
        refine (cr _).mono ?_
        rintro e w2 ⟨rfl, rfl⟩
        clear cr hc
        go_wp2_with fail
        go_loopw [11, 12, 13] (fun c r s wx => ∃ (cn rn : Nat) (sv : Int) (m1 m2 : List Int), c = .int .i64 cn ∧ r = .int .u64 rn ∧ s = .int .u64 sv ∧ cn ≤ n ∧ rn < 65536 ∧ 0 ≤ sv ∧ sv ≤ 18446744073709551615 ∧ Hid (rn < 2 ^ (n - cn)) ∧ Hid (RibW w n m1 m2 wx)) (fun c r _ _ => 2 * (n - (intOf c).toNat) + (intOf r).toNat % 2)
        case atStart => exact ⟨pl, rw', (sm : Int), l1, l2, rfl, rfl, rfl, by omega, hrw, by omega, by omega, hpw, HR⟩
        case round =>
          obtain ⟨cn, rn, sv, m1, m2, rfl, rfl, rfl, hcn, hrn, hs0, hs1, HP, HR2⟩ := hrel
          clear HR
          by_cases h0 : rn = 0
          · subst h0
            by_cases hsv : sv = 0
            · subst hsv
              go_wp2
              exact ⟨⟨k + 1, m1, m2, by go_num, by omega, HR2⟩, by simp [intOf]; omega⟩
            · have hsv' : (sv == 0) = false := by simp [hsv]
              have e5 := HR2.out.box
              have k0 : wr.cell? ⟨w.heap.size, 0, none⟩ = some (.int .i64 0) := cell_of_row _ _ _ _ _ _ e5
              have k1 : wr.cell? ⟨w.heap.size, 1, none⟩ = some (.int .i64 0) := cell_of_row _ _ _ _ _ _ e5
              have k2 : wr.cell? ⟨w.heap.size, 2, none⟩ = some (.int .i64 0) := cell_of_row _ _ _ _ _ _ e5
              have k3 : wr.cell? ⟨w.heap.size, 3, none⟩ = some (.string ⟨#[]⟩) := cell_of_row _ _ _ _ _ _ e5
              have f0 : wr.frozen? ⟨w.heap.size, 0, none⟩ = false := frozen_of_row _ _ _ _ _ e5
              have f1 : wr.frozen? ⟨w.heap.size, 1, none⟩ = false := frozen_of_row _ _ _ _ _ e5
              have f2 : wr.frozen? ⟨w.heap.size, 2, none⟩ = false := frozen_of_row _ _ _ _ _ e5
              have f3 : wr.frozen? ⟨w.heap.size, 3, none⟩ = false := frozen_of_row _ _ _ _ _ e5
              obtain ⟨c0, c1, c2, c3⟩ := four_set k0 k1 k2 k3 (.int .i64 0) (.int .i64 0) (.int .i64 0) (.string ⟨#[]⟩)
              have C0 := hide c0
              have C1 := hide c1
              have C2 := hide c2
              have C3 := hide c3
              clear c0 c1 c2 c3 e5
              have HB := hide HR2.out.low
              clear HP HR2
              go_wp2
              refine bodyPost_ret (v := badB) (by simp [results, Try.results66, go_sem, badB, C0.out, C1.out, C2.out, C3.out]) rfl ⟨0, 0, 0, ⟨#[]⟩, false, rfl, by decide, ?_⟩
              exact Below.setCell (Below.setCell (Below.setCell (Below.setCell HB.out (Nat.le_refl _) _) (Nat.le_refl _) _) (Nat.le_refl _) _) (Nat.le_refl _) _
          · obtain ⟨hm, hhalf⟩ := half_lt HP.out (by omega)
            have hcn2 : cn < n := by omega
            have hrpos : (0 : Int) < (rn : Int) := by omega
            by_cases he : rn % 2 = 0
            · obtain ⟨r2, hr2⟩ : ∃ r2, rn / 2 = r2 := ⟨_, rfl⟩
              have hr2I : (rn : Int) / 2 = (r2 : Int) := by omega
              have heI : (rn : Int) % 2 = 0 := by omega
              rw [hr2] at hhalf
              have HP2 : Hid (r2 < 2 ^ (n - (cn + 1))) := by show _ < _; rw [show n - (cn + 1) = n - cn - 1 by omega]; exact hhalf
              clear hhalf HP
              go_wp2
              exact ⟨⟨cn + 1, r2, sv, m1, m2, by go_num, rfl, rfl, by omega, by omega, hs0, hs1, HP2, HR2⟩, by simp [intOf]; omega⟩
            · have ho : rn % 2 = 1 := by omega
              have heI : (rn : Int) % 2 = 1 := by omega
              have hn1 := HR2.out.n1
              have hn2 := HR2.out.n2
              obtain ⟨y0, hy0⟩ : ∃ y, m1[cn]? = some y := ⟨_, List.getElem?_eq_getElem (by omega)⟩
              obtain ⟨y, rfl, hyo, hyp, hy6⟩ := HR2.out.ok1 cn y0 hy0
              obtain ⟨sy, hsy⟩ : ∃ y, m2[cn]? = some y := ⟨_, List.getElem?_eq_getElem (by omega)⟩
              obtain ⟨hsy0, hsy1⟩ := HR2.out.ok2 cn sy hsy
              obtain ⟨p1, p2⟩ := HR2.out.r1 cn _ hy0
              obtain ⟨p3, p4⟩ := HR2.out.r2 cn _ hsy
              have hz3 := HR2.out.size
              have hci : (cn : Int) < (n : Int) := by omega
              by_cases hy : y = 0
              · subst hy
                have HR3 := hide (HR2.out.put cn rn sv hcn2 ho HP.out hrn hs0 hs1)
                have HP3 : Hid (0 < 2 ^ (n - cn)) := Nat.pow_pos (by omega)
                clear hhalf HP hyp hy0 hsy
                go_wp2
                exact ⟨⟨cn, 0, 0, m1.set cn (rn : Int), m2.set cn sv, rfl, rfl, rfl, hcn, by omega, by omega, by omega, HP3, HR3⟩, by simp [intOf]; omega⟩
              · have hyodd : y % 2 = 1 := by omega
                have hyI : ¬ (y : Int) = 0 := by omega
                have hxo := xor_odd ho hyodd
                have hx6 : rn ^^^ y < 2 ^ 16 := Nat.xor_lt_two_pow hrn hy6
                have hxp : rn ^^^ y < 2 ^ (n - cn) := Nat.xor_lt_two_pow HP.out hyp
                have hxe := xor_u64N rn y hrn hy6
                generalize rn ^^^ y = rx at *
                obtain ⟨hz0, hz1⟩ := xor_u64_bd sv sy hs0 hs1 hsy0 hsy1
                obtain ⟨sz, hsz⟩ : ∃ sz, bits .xor .u64 sv sy = sz := ⟨_, rfl⟩
                rw [hsz] at hz0 hz1
                have HP3 : Hid (rx < 2 ^ (n - cn)) := hxp
                clear hhalf HP hyp hy0 hsy hxp
                go_wp2
                exact ⟨⟨cn, rx, sz, m1, m2, rfl, rfl, rfl, hcn, by omega, hz0, hz1, HP3, HR2⟩, by simp [intOf]; omega⟩
      · have hki : ¬ (k : Int) < (len : Int) := by omega
        have hmk := mk_bytes n (by omega)
        have HF0 := hide (made_row wr n)
        have HR0 := hide (HR.out.alloc (.cells (madeCells #[.int .u8 0] n) 5))
        have hGz := HR.out.size
        clear HR
        go_wp2_with fail
        clear hmk
        generalize wr.alloc (.cells (madeCells #[.int .u8 0] n) 5) = W3 at HF0 HR0 ⊢
        obtain ⟨G, hG⟩ : ∃ G, wr.heap.size = G := ⟨_, rfl⟩
        rw [hG] at hGz HF0 ⊢
        clear hG
        go_loopw [15] (fun i wx => ∃ (z : Int) (l3 : List Int), i = .int .i64 z ∧ -1 ≤ z ∧ z < n ∧ l3.length = n ∧ Hid (∀ (i : Nat) (x : Int), l3[i]? = some x → 0 ≤ x ∧ x ≤ 255) ∧ Hid (FRow wx G l3) ∧ Hid (RibW w n l1 l2 wx)) (fun i _ => (intOf i + 1).toNat)
        case atStart =>
          exact ⟨_, _, rfl, by omega, by omega, by simp, (fun i x hx => by
            rw [List.getElem?_replicate] at hx
            split at hx
            · obtain rfl : 0 = x := by simpa using hx
              omega
            · cases hx), HF0, HR0⟩
        case round =>
          obtain ⟨z, l3, rfl, hz0, hz1, hn3, HK, HF, HR⟩ := hrel
          clear HF0 HR0
          by_cases hz : 0 ≤ z
          · obtain ⟨c, rfl⟩ := Int.eq_ofNat_of_zero_le hz
            have hcn : c < n := by omega
            have hn1 := HR.out.n1
            have hn2 := HR.out.n2
            obtain ⟨y0, hy0⟩ : ∃ y, l1[c]? = some y := ⟨_, List.getElem?_eq_getElem (by omega)⟩
            obtain ⟨y, rfl, _, hyp, hy6⟩ := HR.out.ok1 c y0 hy0
            obtain ⟨sy, hsy⟩ : ∃ y, l2[c]? = some y := ⟨_, List.getElem?_eq_getElem (by omega)⟩
            obtain ⟨hsy0, hsy1⟩ := HR.out.ok2 c sy hsy
            have p1 := (HR.out.r1 c _ hy0).1
            have p3 := (HR.out.r2 c _ hsy).1
            have HYP : Hid (y < 2 ^ (n - c)) := hyp
            clear hy0 hsy hyp
            go_wp2
            go_loop [16, 17] (fun s j => ∃ (x : Int) (jn : Nat), s = .int .u64 x ∧ j = .int .i64 jn ∧ 0 ≤ x ∧ x ≤ 18446744073709551615 ∧ 1 ≤ jn ∧ jn ≤ 16) (fun _ j => 16 - (intOf j).toNat)
            case atStart => exact ⟨sy, 1, rfl, rfl, hsy0, hsy1, by omega, by omega⟩
            case round =>
              obtain ⟨x, jn, rfl, rfl, hx0, hx1, hj1, hj2⟩ := hrel
              by_cases hj : jn < 16
              · have hq0 : 0 ≤ (y : Int) / 2 ^ jn := Int.ediv_nonneg (by omega) (Int.pow_nonneg (by omega))
                by_cases hb : y / 2 ^ jn % 2 = 1
                · have hbI : (y : Int) / 2 ^ jn % 2 = 1 := by
                    rw [show ((y : Int) / 2 ^ jn % 2) = ((y / 2 ^ jn % 2 : Nat) : Int) by simp, hb]; rfl
                  have hin := bit_in HYP.out (by omega) hb
                  obtain ⟨o, ho⟩ : ∃ o, l3[c + jn]? = some o := ⟨_, List.getElem?_eq_getElem (by omega)⟩
                  have q1 := (HF.out _ _ ho).1
                  obtain ⟨ho0, ho1⟩ := HK.out _ _ ho
                  obtain ⟨hxz0, hxz1⟩ := xor_u64_bd x o hx0 hx1 ho0 (by omega)
                  obtain ⟨xz, hxz⟩ : ∃ xz, bits .xor .u64 x o = xz := ⟨_, rfl⟩
                  rw [hxz] at hxz0 hxz1
                  clear hb ho
                  go_wp2
                  go_round
                  case rel => exact ⟨xz, jn + 1, rfl, by go_num, hxz0, hxz1, by omega, by omega⟩
                  case measure => simp [intOf]; omega
                · have hb0 : y / 2 ^ jn % 2 = 0 := by omega
                  have hbI : (y : Int) / 2 ^ jn % 2 = 0 := by
                    rw [show ((y : Int) / 2 ^ jn % 2) = ((y / 2 ^ jn % 2 : Nat) : Int) by simp, hb0]; rfl
                  clear hb hb0
                  go_wp2
                  go_round
                  case rel => exact ⟨x, jn + 1, rfl, by go_num, hx0, hx1, by omega, by omega⟩
                  case measure => simp [intOf]; omega
              · have hje : jn = 16 := by omega
                obtain ⟨o, ho⟩ : ∃ o, l3[c]? = some o := ⟨_, List.getElem?_eq_getElem (by omega)⟩
                obtain ⟨q1, q2⟩ := HF.out _ _ ho
                obtain ⟨b, hb⟩ : ∃ b, IntKind.u8.wrap x = b := ⟨_, rfl⟩
                have hbb : 0 ≤ b ∧ b ≤ 255 := by rw [← hb]; simp [IntKind.wrap, IntKind.signed, IntKind.bits]; omega
                have HF2 := hide (HF.out.set c b (by omega))
                have HR2 := hide (HR.out.outer G c (.int .u8 b) hGz)
                have HK2 : Hid (∀ (i : Nat) (x : Int), (l3.set c b)[i]? = some x → 0 ≤ x ∧ x ≤ 255) := fun i x hx => by
                  by_cases e : c = i
                  · subst e
                    rw [List.getElem?_set_self (by omega)] at hx
                    obtain rfl : b = x := by simpa using hx
                    exact hbb
                  · rw [List.getElem?_set_ne e] at hx; exact HK.out i x hx
                clear hje ho HF HR HK
                go_wp2
                exact ⟨⟨(c : Int) - 1, l3.set c b, rfl, by omega, by omega, by simpa using hn3, HK2, HF2, HR2⟩, by simp [intOf] <;> omega⟩
          · have hze : z = -1 := by omega
            have hct := HF.out.text n
            rw [hn3] at hct
            have hbz : (strOfNums l3).size ≤ 1000 := by rw [strOfNums_size, hn3]; omega
            generalize strOfNums l3 = bt' at hct hbz
            have HBz := hide hbz
            have e5 := HR.out.box
            have k0 : wr.cell? ⟨w.heap.size, 0, none⟩ = some (.int .i64 0) := cell_of_row _ _ _ _ _ _ e5
            have k1 : wr.cell? ⟨w.heap.size, 1, none⟩ = some (.int .i64 0) := cell_of_row _ _ _ _ _ _ e5
            have k2 : wr.cell? ⟨w.heap.size, 2, none⟩ = some (.int .i64 0) := cell_of_row _ _ _ _ _ _ e5
            have k3 : wr.cell? ⟨w.heap.size, 3, none⟩ = some (.string ⟨#[]⟩) := cell_of_row _ _ _ _ _ _ e5
            have f0 : wr.frozen? ⟨w.heap.size, 0, none⟩ = false := frozen_of_row _ _ _ _ _ e5
            have f1 : wr.frozen? ⟨w.heap.size, 1, none⟩ = false := frozen_of_row _ _ _ _ _ e5
            have f2 : wr.frozen? ⟨w.heap.size, 2, none⟩ = false := frozen_of_row _ _ _ _ _ e5
            have f3 : wr.frozen? ⟨w.heap.size, 3, none⟩ = false := frozen_of_row _ _ _ _ _ e5
            obtain ⟨c0, c1, c2, c3⟩ := four_set k0 k1 k2 k3 (.int .i64 2) (.int .i64 sd) (.int .i64 0) (.string bt')
            have C0 := hide c0
            have C1 := hide c1
            have C2 := hide c2
            have C3 := hide c3
            clear c0 c1 c2 c3 e5
            have HB := hide HR.out.low
            clear HR HF HK hbz hze
            go_wp2
            refine bodyPost_ret (v := .tuple #[.agg #[.int .i64 2, .int .i64 sd, .int .i64 0, .string bt'], .bool true]) (by simp [results, Try.results66, go_sem, C0.out, C1.out, C2.out, C3.out]) rfl ⟨2, sd, 0, bt', Or.inr rfl, HBz.out, ?_⟩
            exact Below.setCell (Below.setCell (Below.setCell (Below.setCell HB.out (Nat.le_refl _) _) (Nat.le_refl _) _) (Nat.le_refl _) _) (Nat.le_refl _) _

end Go.Proofs.Ytonkjdjancnajac
