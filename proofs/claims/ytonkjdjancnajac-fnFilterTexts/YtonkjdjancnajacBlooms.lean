/- Bits of users: what a Bloom filter tells. No walk. -/
import Derived.Test.YtonkjdjancnajacBloomOf
import Derived.Test.YtonkjdjancnajacBMay
import Derived.Test.YtonkjdjancnajacCanon
namespace Go.Proofs.Ytonkjdjancnajac
set_option maxRecDepth 100000
open Go.RowKit Go.Deep

theorem bit_bloom (B : Nat → Bool) (n b : Nat) (hb : b < 8 * n) : bitAt (strOfNums (bytesOf B n)) b = B b := by
  have h1 : ((b : Int) / 8).toNat = b / 8 := by omega
  have h2 : ((b : Int) % 8).toNat = b % 8 := by omega
  have h3 : b / 8 < n := by omega
  have hg : (bytesOf B n)[b / 8]? = some (byteAt B (b / 8)) := by simp [bytesOf, h3]
  have hbd := byteAt_bd B (b / 8)
  have hbt := bt_nums (bytesOf B n) ⟨#[]⟩ (b / 8) _ hg hbd.1 hbd.2
  have he : strOfNums (bytesOf B n) ++ (⟨#[]⟩ : ByteArray) = strOfNums (bytesOf B n) := ByteArray.append_empty
  rw [he] at hbt
  unfold bitAt
  rw [h1, h2, hbt]
  unfold bitB byteAt
  have hp := packN_bit (fun r => B (8 * (b / 8) + r)) 8 (b % 8)
  have h8 : b % 8 < 8 := Nat.mod_lt _ (by omega)
  rw [Nat.testBit_eq_decide_div_mod_eq] at hp
  have hbb : 8 * (b / 8) + b % 8 = b := Nat.div_add_mod b 8
  simp only [h8, decide_true, Bool.true_and, hbb] at hp
  rw [← hp]
  generalize packN (fun r => B (8 * (b / 8) + r)) 8 = x
  rw [show ((x : Int) / 2 ^ (b % 8) % 2) = ((x / 2 ^ (b % 8) % 2 : Nat) : Int) by simp]
  generalize x / 2 ^ (b % 8) % 2 = y
  rw [Bool.eq_iff_iff]
  simp only [beq_iff_eq, decide_eq_true_eq]
  omega

theorem addP_mono {B : Nat → Bool} {u : ByteArray} {n b : Nat} (h : B b = true) : ∀ k, addP B u n k b = true
  | 0 => h
  | k + 1 => by show (addP B u n k b || _) = true; rw [addP_mono h k]; rfl
theorem addP_in (B : Nat → Bool) (u : ByteArray) (n : Nat) : ∀ m k, k < m → addP B u n m (probeAt u k % (8 * n : Nat)).toNat = true
  | 0, _, h => absurd h (by omega)
  | m + 1, k, h => by
    show (addP B u n m _ || _) = true
    by_cases e : k = m
    · subst e; simp
    · rw [addP_in B u n m k (by omega)]; rfl
theorem addU_mono {S : Nat → ByteArray} {n pr b k : Nat} (h : addU S n pr k b = true) : ∀ d, addU S n pr (k + d) b = true
  | 0 => h
  | d + 1 => addP_mono (addU_mono h d) pr
theorem addU_in (S : Nat → ByteArray) (n pr i m k : Nat) (hi : i < m) (hk : k < pr) : addU S n pr m (probeAt (S i) k % (8 * n : Nat)).toNat = true := by
  have h1 : addU S n pr (i + 1) (probeAt (S i) k % (8 * n : Nat)).toNat = true := addP_in _ _ n pr k hk
  have := addU_mono h1 (m - (i + 1))
  rwa [show i + 1 + (m - (i + 1)) = m by omega] at this

/-- The bit that a probe asks for. -/
theorem probe_bit (B : Nat → Bool) (u : ByteArray) (n k : Nat) (hn : 1 ≤ n) :
    bitAt (strOfNums (bytesOf B n)) (probeAt u k % (8 * (strOfNums (bytesOf B n)).size)) = B (probeAt u k % (8 * n : Nat)).toNat := by
  rw [bytesOf_size]
  have h0 : 0 ≤ probeAt u k % (8 * (n : Int)) := Int.emod_nonneg _ (by omega)
  have h1 : probeAt u k % (8 * (n : Int)) < 8 * (n : Int) := Int.emod_lt_of_pos _ (by omega)
  rw [show ((8 * n : Nat) : Int) = 8 * (n : Int) by omega]
  generalize probeAt u k % (8 * (n : Int)) = b at h0 h1
  obtain ⟨c, rfl⟩ := Int.eq_ofNat_of_zero_le h0
  exact bit_bloom B n c (by omega)

/-- Each user is found. -/
theorem may_bloom (S : Nat → ByteArray) (n pr len i : Nat) (hi : i < len) (hn : 1 ≤ n) : mayB (strOfNums (bytesOf (addU S n pr len) n)) (S i) pr = true :=
  mayB_yes fun k hk => by rw [probe_bit _ _ _ _ hn]; exact addU_in S n pr i len k hi (by simpa using hk)

theorem mayB_all {bs user : ByteArray} {pr : Int} (h : mayB bs user pr = true) (k : Nat) (hk : k < pr.toNat) : bitAt bs (probeAt user k % (8 * bs.size)) = true := by
  unfold mayB at h
  rw [List.all_eq_true] at h
  exact h k (List.mem_range.2 hk)

/-- With more users no user is lost. -/
theorem may_more (S : Nat → ByteArray) (n pr k m : Nat) (u : ByteArray) (hk : k ≤ m) (hn : 1 ≤ n) (h : mayB (strOfNums (bytesOf (addU S n pr k) n)) u pr = true) : mayB (strOfNums (bytesOf (addU S n pr m) n)) u pr = true :=
  mayB_yes fun j hj => by
    have := mayB_all h j hj
    rw [probe_bit _ _ _ _ hn] at this ⊢
    have := addU_mono this (m - k)
    rwa [show k + (m - k) = m by omega] at this

theorem bloomBits_size (S : Nat → ByteArray) (len per : Nat) : (bloomBits S len per).size = sizeB len per := bytesOf_size _ _

theorem filterOk_bloom (S : Nat → ByteArray) (len per : Nat) (h1 : len ≤ 400) (h2 : per ≤ 20) : filterOkB 1 0 (probesB per : Nat) (bloomBits S len per) = true := by
  have hs := sizeB_bd h1 h2
  have hp := probesB_bd per
  show decide (_ ∧ _) = true
  rw [decide_eq_true_eq, bloomBits_size]
  omega

theorem bloomMay_bloom (S : Nat → ByteArray) (len per i : Nat) (h1 : len ≤ 400) (h2 : per ≤ 20) (hi : i < len) : bloomMayB 1 0 (probesB per : Nat) (bloomBits S len per) (S i) = true := by
  rw [bloom_yes (filterOk_bloom S len per h1 h2)]
  exact may_bloom S _ _ len i hi (by have := sizeB_bd h1 h2; omega)

theorem bloomMay_more (S : Nat → ByteArray) (k len per : Nat) (u : ByteArray) (h1 : len ≤ 400) (h2 : per ≤ 20) (hk : k ≤ len) (he : sizeB len per = sizeB k per) (h : bloomMayB 1 0 (probesB per : Nat) (bloomBits S k per) u = true) :
    bloomMayB 1 0 (probesB per : Nat) (bloomBits S len per) u = true := by
  rw [bloom_yes (filterOk_bloom S k per (by omega) h2)] at h
  rw [bloom_yes (filterOk_bloom S len per h1 h2)]
  have hs := sizeB_bd h1 h2
  unfold bloomBits at h ⊢
  rw [he] at hs ⊢
  exact may_more S _ _ k len u hk (by omega) h

theorem sizeB_enough (len per : Nat) : per * len ≤ 8 * sizeB len per := by
  unfold sizeB; omega

end Go.Proofs.Ytonkjdjancnajac
