/- BloomOf of the program: bits of words, set by a closure. -/
import Derived.Test.YtkopoonkedcpmacBits
import Derived.Test.YtkopoonkedcpmacProbe
import Derived.Test.YtkopoonkedcpmacUsers
import Derived.Test.YtkopoonkedcpmacRegs
import Derived.Test.YtkopoonkedcpmacFRow
namespace Go.Proofs.Ytkopoonkedcpmac
open Go.RowKit Go.Deep

def wordAt (B : Nat → Bool) (q : Nat) : Int := (packN (fun r => B (64 * q + r)) 64 : Nat)
def byteAt (B : Nat → Bool) (j : Nat) : Int := (packN (fun r => B (8 * j + r)) 8 : Nat)
/-- 125 words. -/
def wordsOf (B : Nat → Bool) : Array Value := ((List.range 125).map fun q => Value.int .u64 (wordAt B q)).toArray
def bytesOf (B : Nat → Bool) (n : Nat) : List Int := (List.range n).map (byteAt B)
def noBits : Nat → Bool := fun _ => false

theorem wordAt_bd (B : Nat → Bool) (q : Nat) : 0 ≤ wordAt B q ∧ wordAt B q < 18446744073709551616 := by
  have := packN_lt (fun r => B (64 * q + r)) 64
  unfold wordAt; omega
theorem byteAt_bd (B : Nat → Bool) (q : Nat) : 0 ≤ byteAt B q ∧ byteAt B q ≤ 255 := by
  have := packN_lt (fun r => B (8 * q + r)) 8
  unfold byteAt; omega
theorem wordsOf_size (B : Nat → Bool) : (wordsOf B).size = 125 := by simp [wordsOf]
theorem wordsOf_get (B : Nat → Bool) (q : Nat) (h : q < 125) : (wordsOf B)[q]? = some (.int .u64 (wordAt B q)) := by
  simp [wordsOf, h]
theorem wordsOf_one (B : Nat → Bool) : (wordsOf B).all (·.oneCell') = true := by
  rw [Array.all_eq_true_iff_forall_mem]
  intro v hv
  simp [wordsOf] at hv
  obtain ⟨q, _, rfl⟩ := hv
  rfl
theorem wordsOf_set (B : Nat → Bool) (b : Nat) : (wordsOf B).setIfInBounds (b / 64) (.int .u64 ((packN (fun r => B (64 * (b / 64) + r)) 64 ||| 2 ^ (b % 64) : Nat) : Int)) = wordsOf (bset B b) := by
  apply Array.ext_getElem?
  intro q
  rw [Array.getElem?_setIfInBounds]
  by_cases hq : q < 125
  · rw [wordsOf_get _ _ hq, wordsOf_get _ _ hq]
    have hb := bset_block B 64 b q (by omega)
    by_cases e : b / 64 = q
    · subst e
      rw [if_pos rfl, if_pos (by rw [wordsOf_size]; exact hq)]
      unfold wordAt
      rw [hb, if_pos rfl]
    · rw [if_neg e]
      unfold wordAt
      rw [hb, if_neg (fun h => e h.symm)]
  · have h1 : (wordsOf B)[q]? = none := by simp [wordsOf]; omega
    have h2 : (wordsOf (bset B b))[q]? = none := by simp [wordsOf]; omega
    rw [h1, h2, wordsOf_size]
    by_cases e : b / 64 = q
    · subst e; simp [hq]
    · simp [e]

/-- The bits of the first k probes of a user besides. -/
def addP (B : Nat → Bool) (u : ByteArray) (n : Nat) : Nat → Nat → Bool
  | 0 => B
  | k + 1 => bset (addP B u n k) (probeAt u k % (8 * n : Nat)).toNat

/-- The bits of the first k users. -/
def addU (S : Nat → ByteArray) (n pr : Nat) : Nat → Nat → Bool
  | 0 => noBits
  | k + 1 => addP (addU S n pr k) (S k) n pr

theorem words_info : (Try.prog.info? 49).map (fun i => (i.zero, i.size)) = some (some (.agg (wordsOf noBits)), 125) := by kernel_rfl

set_option maxHeartbeats 1000000 in
theorem impl_BloomOf1 (B : Nat → Bool) (b : Nat) (hb : b < 8000) (w : World) (g : Nat) (hg : w.heap[g]? = some (.cells (wordsOf B) 49)) :
    Calls Try.prog 28 #[.int .u64 b, .pointer (some ⟨g, 0, none⟩)] w fun e w' => e = .returned (.bool true) ∧ w'.heap[g]? = some (.cells (wordsOf (bset B b)) 49) ∧
      (∃ v, w' = w.setCell ⟨g, b / 64, none⟩ v) := by
  have hq : b / 64 < 125 := by omega
  have hc : w.cell? ⟨g, b / 64, none⟩ = some (.int .u64 (wordAt B (b / 64))) := by rw [cell_of_row _ _ _ _ _ _ hg, wordsOf_get _ _ hq]
  have hf : w.frozen? ⟨g, b / 64, none⟩ = false := frozen_of_row _ _ _ _ _ hg
  have hr : b % 64 < 64 := Nat.mod_lt _ (by omega)
  have hor : bits .or .u64 (wordAt B (b / 64)) (IntKind.u64.wrap (2 ^ (b % 64))) = ((packN (fun r => B (64 * (b / 64) + r)) 64 ||| 2 ^ (b % 64) : Nat) : Int) := by
    have hp : (2 : Nat) ^ (b % 64) < 2 ^ 64 := Nat.pow_lt_pow_right (by omega) hr
    have e : IntKind.u64.wrap (2 ^ (b % 64)) = ((2 ^ (b % 64) : Nat) : Int) := by
      rw [IntKind.wrap_u64, show ((2 : Int) ^ (b % 64)) = ((2 ^ (b % 64) : Nat) : Int) by simp]
      generalize (2 : Nat) ^ (b % 64) = P at hp
      omega
    rw [e]
    exact u64_or_nat _ _ (packN_lt _ 64) hp
  have hs := wordsOf_set B b
  have hg2 := heap_setCell_same w g (b / 64) (wordsOf B) _ (.int .u64 ((packN (fun r => B (64 * (b / 64) + r)) 64 ||| 2 ^ (b % 64) : Nat) : Int)) hg
  rw [hs] at hg2
  have HG := hide hg2
  have hq1 : (b : Int) / 64 = ((b / 64 : Nat) : Int) := by omega
  have hr1 : (b : Int) % 64 = ((b % 64 : Nat) : Int) := by omega
  generalize (packN (fun r => B (64 * (b / 64) + r)) 64 ||| 2 ^ (b % 64) : Nat) = z at *
  generalize wordAt B (b / 64) = x at *
  obtain ⟨q, hqe⟩ : ∃ q, b / 64 = q := ⟨_, rfl⟩
  obtain ⟨r, hre⟩ : ∃ r, b % 64 = r := ⟨_, rfl⟩
  rw [hqe] at hq hc hf HG hq1 ⊢
  rw [hre] at hr hor hr1
  clear hs hg2 hqe hre hg
  go_enter Try.func28, Try.ntmps28
  go_wp2
  go_ret
  exact ⟨rfl, HG.out, _, rfl⟩

theorem mv_set {g o : Nat} {W w : World} {v : Value} (h : ∀ k, k < W.heap.size → k ≠ g → w.heap[k]? = W.heap[k]?) : ∀ k, k < W.heap.size → k ≠ g → (w.setCell ⟨g, o, none⟩ v).heap[k]? = W.heap[k]? := fun k hk hg => by
  rw [heap_setCell_other _ _ _ _ (by simpa using hg)]; exact h k hk hg

/-- Only block g's cells may have turned. -/
structure Only (g : Nat) (w w' : World) : Prop where
  os : w'.os = w.os
  tape : w'.tape = w.tape
  output : w'.output = w.output
  size : w'.heap.size = w.heap.size
  block : ∀ k, k ≠ g → w'.heap[k]? = w.heap[k]?

theorem Only.refl (g : Nat) (w : World) : Only g w w := ⟨rfl, rfl, rfl, rfl, fun _ _ => rfl⟩
theorem Only.trans {g : Nat} {a b c : World} (h : Only g a b) (k : Only g b c) : Only g a c :=
  ⟨k.os.trans h.os, k.tape.trans h.tape, k.output.trans h.output, k.size.trans h.size, fun i hg => (k.block i hg).trans (h.block i hg)⟩
theorem Only.setCell (g o : Nat) (w : World) (v : Value) : Only g w (w.setCell ⟨g, o, none⟩ v) :=
  ⟨rfl, rfl, rfl, by simp [World.setCell], fun k hk => heap_setCell_other _ _ _ _ (by simpa using hk)⟩
theorem Only.below {g B : Nat} {W w w' : World} (hb : Below B W w) (h : Only g w w') (hg : B ≤ g) : Below B W w' :=
  ⟨h.os.trans hb.os, h.tape.trans hb.tape, h.output.trans hb.output, by rw [h.size]; exact hb.size, fun k hk => (h.block k (by omega)).trans (hb.block k hk)⟩

set_option maxHeartbeats 1000000 in
theorem impl_everyProbe_set (B : Nat → Bool) (u : ByteArray) (pr n : Nat) (hu : u.size ≤ maxLen) (hp : pr ≤ 30) (h1 : 1 ≤ n) (h2 : n ≤ 1000) (w : World) (g : Nat) (hg : w.heap[g]? = some (.cells (wordsOf B) 49)) :
    Calls Try.prog 29 #[.string u, .int .i64 pr, .int .i64 n, .func (.func 28) #[] #[.pointer (some ⟨g, 0, none⟩)]] w fun e w' =>
      e = .returned (.bool true) ∧ w'.heap[g]? = some (.cells (wordsOf (addP B u n pr)) 49) ∧ Only g w w' := by
  have hz := probe_zero u
  have hn3 : ((8 * (n : Int)) == 0) = false := beq_eq_false_iff_ne.2 (by omega)
  have HG := hide hg
  clear hg
  go_enter Try.func29, Try.ntmps29
  go_wp2_with (first
    | (go_at_call 57; refine (impl_Hash 0 u hu (by omega) (by omega) _).mono ?_; rintro e w' ⟨rfl, rfl⟩)
    | (go_at_call 58; refine (lib_RotateLeft64 _ _).mono ?_; rintro e w' ⟨rfl, rfl⟩))
  have HS := fun k => probe_succ u k
  obtain ⟨g1, hg1⟩ : ∃ g1, rot31 (hash 0 u) = g1 := ⟨_, rfl⟩
  have HS : Hid (∀ k, IntKind.u64.wrap (probeAt u k + g1) = probeAt u (k + 1)) := by rw [← hg1]; exact HS
  have HZ : Hid (probeAt u 0 = hash 0 u) := hz
  rw [hg1]
  clear hz hg1
  go_loopw [9, 16] (fun h i wr => ∃ (k : Nat) (x : Int), h = .int .u64 x ∧ i = .int .i64 k ∧ k ≤ pr ∧ Hid (x = probeAt u k) ∧ Hid (wr.heap[g]? = some (.cells (wordsOf (addP B u n k)) 49) ∧ Only g w wr)) (fun _ i _ => pr - (intOf i).toNat)
  case atStart => exact ⟨0, _, rfl, rfl, by omega, HZ.out.symm, HG.out, Only.refl _ _⟩
  case round =>
    obtain ⟨k, x, rfl, rfl, hk, HX, HW⟩ := hrel
    by_cases hlt : k < pr
    · have hb0 : 0 ≤ x % (8 * (n : Int)) := Int.emod_nonneg _ (by omega)
      have hb1 : x % (8 * (n : Int)) < 8 * (n : Int) := Int.emod_lt_of_pos _ (by omega)
      obtain ⟨b, hb⟩ := Int.eq_ofNat_of_zero_le hb0
      have hxb := probe_bd u k
      rw [← HX.out] at hxb
      obtain ⟨hxb0, hxb1⟩ := hxb
      have hbe : (probeAt u k % (8 * n : Nat)).toNat = b := by
        rw [← HX.out, show ((8 * n : Nat) : Int) = 8 * (n : Int) by omega, hb]; rfl
      have HX2 : Hid (IntKind.u64.wrap (x + g1) = probeAt u (k + 1)) := by rw [HX.out]; exact HS.out k
      have hb8 : b < 8000 := by omega
      have HE := hide (fun wx hgx => impl_BloomOf1 (addP B u n k) b hb8 wx g hgx)
      have HP : Hid (bset (addP B u n k) b = addP B u n (k + 1)) := by show _ = addP B u n (k + 1); rw [addP, hbe]
      clear hbe hb0 hb1 HX
      go_wp2_with fail
      refine (HE.out _ HW.out.1).mono ?_
      rintro e w2 ⟨rfl, hg2, v, rfl⟩
      rw [HP.out] at hg2
      have HG2 := hide hg2
      have HO2 := hide (HW.out.2.trans (Only.setCell g (b / 64) wr v))
      clear hg2
      go_wp2
      exact ⟨⟨k + 1, _, rfl, by go_num, by omega, HX2, HG2.out, HO2.out⟩, by simp [intOf]; omega⟩
    · obtain rfl : k = pr := by omega
      go_wp2
      go_ret
      exact ⟨rfl, HW.out.1, HW.out.2⟩

theorem made_row (w : World) (n : Nat) : FRow (w.alloc (.cells (madeCells #[.int .u8 0] n) 5)) w.heap.size (List.replicate n 0) := fun i x hx => by
  have h := World.rowIs_made w (.int .u8 0) n 5
  rw [List.getElem?_replicate] at hx
  by_cases hi : i < n
  · rw [if_pos hi] at hx
    obtain rfl : 0 = x := by simpa using hx
    exact ⟨h.cell hi, h.frozen i⟩
  · rw [if_neg hi] at hx; cases hx

theorem mk_bytes (n : Nat) (hn : n ≤ 1000) (w : World) : (Instr.makeSlice 32 (.int .i64 (n : Int)) (.int .i64 (n : Int))).run Try.prog w = .ok (.slice (some ⟨w.heap.size, 0, none⟩) n n) (w.alloc (.cells (madeCells #[.int .u8 0] n) 5)) :=
  run_make_row' 32 5 (.int .u8 0) 1 Try.underlying32 (by kernel_rfl) rfl .i64 .i64 n (by omega) (by omega) w

theorem byte_of_word (B : Nat → Bool) (k : Nat) : IntKind.u8.wrap (wordAt B (k / 8) / 2 ^ (8 * (k % 8))) = byteAt B k := by
  have h := packN_byte B k
  have e : IntKind.u8.wrap (wordAt B (k / 8) / 2 ^ (8 * (k % 8))) = wordAt B (k / 8) / 2 ^ (8 * (k % 8)) % 256 := by simp [IntKind.wrap, IntKind.signed, IntKind.bits]
  rw [e]
  unfold wordAt byteAt
  rw [← h, show ((2 : Int) ^ (8 * (k % 8))) = ((2 ^ (8 * (k % 8)) : Nat) : Int) by simp]
  simp

set_option maxHeartbeats 1000000 in
theorem impl_wordText (B : Nat → Bool) (n : Nat) (hn : n ≤ 1000) (w : World) (g : Nat) (hg : w.heap[g]? = some (.cells (wordsOf B) 49)) :
    Calls Try.prog 30 #[.slice (some ⟨g, 0, none⟩) 125 125, .int .i64 n] w fun e w' => e = .returned (.string (strOfNums (bytesOf B n))) ∧ Below w.heap.size w w' := by
  have hmk := mk_bytes n hn
  have hglt : g < w.heap.size := (Array.getElem?_eq_some_iff.1 hg).1
  have HG := hide hg
  have HR0 := hide (made_row w n)
  have HB0 := hide ((Below.refl w.heap.size w).alloc (Nat.le_refl _) (.cells (madeCells #[.int .u8 0] n) 5))
  clear hg
  go_enter Try.func30, Try.ntmps30
  go_wp2
  generalize w.alloc (.cells (madeCells #[.int .u8 0] n) 5) = w0 at HR0 HB0 ⊢
  clear hmk
  go_loopw [12] (fun i wr => ∃ (k : Nat) (l : List Int), i = .int .i64 k ∧ k ≤ n ∧ l.length = n ∧ Hid (∀ i, i < k → l[i]? = some (byteAt B i)) ∧ Hid (FRow wr w.heap.size l) ∧ Hid (Below w.heap.size w wr)) (fun i _ => n - (intOf i).toNat)
  case atStart => exact ⟨0, List.replicate n 0, rfl, by omega, by simp, fun _ h => absurd h (by omega), HR0, HB0⟩
  case round =>
    obtain ⟨k, l, rfl, hk, hl, HK, HR, HB⟩ := hrel
    clear HR0 HB0
    by_cases hlt : k < n
    · have hq8 : k / 8 < 125 := by omega
      have hcw : wr.cell? ⟨g, k / 8, none⟩ = some (.int .u64 (wordAt B (k / 8))) := by
        rw [HB.out.cell (p := ⟨g, k / 8, none⟩) hglt, cell_of_row _ _ _ _ _ _ HG.out, wordsOf_get _ _ hq8]
      obtain ⟨z, hz⟩ : ∃ z, l[k]? = some z := ⟨_, List.getElem?_eq_getElem (by omega)⟩
      obtain ⟨hcell, hfree⟩ := HR.out k z hz
      have hby := byte_of_word B k
      have hqI : (k : Int) * 8 / 64 = ((k / 8 : Nat) : Int) := by omega
      have hrI : (k : Int) * 8 % 64 = ((8 * (k % 8) : Nat) : Int) := by omega
      have hr64 : 8 * (k % 8) < 64 := by omega
      have hwb := wordAt_bd B (k / 8)
      have HR2 := hide (HR.out.set k (byteAt B k) (by omega))
      have HB2 := hide (HB.out.setCell (p := ⟨w.heap.size, k, none⟩) (Nat.le_refl _) (.int .u8 (byteAt B k)))
      have HK2 : Hid (∀ i, i < k + 1 → (l.set k (byteAt B k))[i]? = some (byteAt B i)) := fun i hi => by
        by_cases e : k = i
        · subst e; exact List.getElem?_set_self (by omega)
        · rw [List.getElem?_set_ne e]; exact HK.out i (by omega)
      obtain ⟨hw0, hw1⟩ := hwb
      generalize wordAt B (k / 8) = x at *
      generalize byteAt B k = y at *
      obtain ⟨q, hqe⟩ : ∃ q, k / 8 = q := ⟨_, rfl⟩
      obtain ⟨r, hre⟩ : ∃ r, 8 * (k % 8) = r := ⟨_, rfl⟩
      rw [hqe] at hq8 hcw hqI
      rw [hre] at hby hrI hr64
      clear hqe hre HR HB HK hz
      go_wp2
      exact ⟨⟨k + 1, _, by go_num, by omega, by simpa using hl, HK2, HR2, HB2⟩, by simp [intOf]; omega⟩
    · obtain rfl : k = n := by omega
      have hln : l = bytesOf B k := list_of_all (by simp [bytesOf, hl]) fun i hi => by
        have hi' : i < k := by simpa [bytesOf] using hi
        rw [HK.out i hi']
        simp [bytesOf, hi']
      have hct := HR.out.text k
      rw [hl, hln] at hct
      clear hln
      go_wp2
      go_ret
      exact ⟨rfl, HB.out⟩

end Go.Proofs.Ytkopoonkedcpmac
