/- What is read of the bytes of a block is what was put into it. -/
import Derived.Test.YtljmfdcilnbjaaaNxB
import Derived.Test.YtljmfdcilnbjaaaBlkS
import Derived.Test.YtljmfdcilnbjaaaLKeyTexts
import Derived.Test.YtljmfdcilnbjaaaLSought
namespace Go.Proofs.Ytljmfdcilnbjaaa
set_option maxRecDepth 100000
open Go.RowKit

theorem rnum_put (n : Int) (h0 : 0 ≤ n) (h1 : n ≤ 9223372036854775807) (r : ByteArray) : rnum (pv n ++ r) = (n, r, false) := by
  rw [rnum_some (take_put n h0 (by omega) r) (by omega), extract_behind]

theorem rtext_put (t r : ByteArray) (ht : t.size ≤ 60000) : rtext (putText t ++ r) = (t, r, false) := by
  have e : putText t ++ r = pv t.size ++ (t ++ r) := by rw [putText, ByteArray.append_assoc]
  have h := take_put (t.size : Int) (by omega) (by omega) (t ++ r)
  rw [← e] at h
  have hz : (putText t ++ r).size = (pv (t.size : Int)).size + (t.size + r.size) := by rw [e, ByteArray.size_append, ByteArray.size_append]
  have hx : rtx (putText t ++ r) = some ((pv (t.size : Int)).size, (pv (t.size : Int)).size + t.size) := by
    rw [rtx, h]
    simp only
    rw [if_neg (by omega), Int.toNat_natCast]
  rw [rtext_some hx]
  have e1 : (putText t ++ r).extract ((pv (t.size : Int)).size + t.size) (putText t ++ r).size = r := by
    have : (pv (t.size : Int)).size + t.size = (putText t).size := by rw [putText, ByteArray.size_append]
    rw [this, extract_behind]
  have e2 : (putText t ++ r).extract (pv (t.size : Int)).size ((pv (t.size : Int)).size + t.size) = t := by
    have hx : (putText t ++ r).extract (pv (t.size : Int)).size ((pv (t.size : Int)).size + t.size) = ((putText t ++ r).extract 0 ((pv (t.size : Int)).size + t.size)).extract (pv (t.size : Int)).size ((pv (t.size : Int)).size + t.size) := by
      rw [ByteArray.extract_extract]; congr 1 <;> omega
    have hf : (putText t ++ r).extract 0 ((pv (t.size : Int)).size + t.size) = putText t := by
      have := extract_front (putText t) r
      rwa [putText, ByteArray.size_append] at this
    rw [hx, hf]
    have := extract_behind (pv (t.size : Int)) t
    rwa [ByteArray.size_append] at this
  rw [e1, e2]

theorem cpl_join : ∀ a b : List UInt8, a.take (cpl a b) ++ b.drop (cpl a b) = b := fun a b => by
  rw [cpl_take, List.take_append_drop]

theorem shw_join (a b : ByteArray) : a.extract 0 (shw a b) ++ b.extract (shw a b) b.size = b := by
  apply ByteArray.ext
  apply Array.toList_inj.1
  have h := cpl_join a.data.toList b.data.toList
  have hl := shw_le a b
  rw [ByteArray.data_append, Array.toList_append, ByteArray.data_extract, ByteArray.data_extract, Array.toList_extract, Array.toList_extract]
  simp only [List.extract_eq_drop_take', List.drop_zero]
  have e1 : b.size = b.data.toList.length := by simp
  rw [e1, List.take_length]
  exact h

theorem rkE_key {u : ByteArray} {q k : Int} (h : keyOkB u q k = true) : rkE (keyText u q k) = (u, q, k) ∧ rkB (keyText u q k) = true := by
  have h1 := readKey_put h
  rw [rk_eq] at h1
  injection h1 with h1
  have h2 : (#[Value.agg #[.string (rkE (keyText u q k)).1, .int .i64 (rkE (keyText u q k)).2.1, .int .i64 (rkE (keyText u q k)).2.2], .bool (rkB (keyText u q k))] : Array Value).toList = (#[Value.agg #[.string u, .int .i64 q, .int .i64 k], .bool true] : Array Value).toList := by rw [h1]
  simp only [List.cons.injEq, Value.agg.injEq, Array.mk.injEq, Value.string.injEq, Value.int.injEq, true_and, and_true, Value.bool.injEq] at h2
  obtain ⟨⟨a, b, c⟩, d⟩ := h2
  exact ⟨Prod.ext a (Prod.ext b c), d⟩

/-- One entry, read again. -/
theorem nx_put {E : Ents} {i m : Nat} (h : entOk E i = true) (ah R : ByteArray) (hah : ah.size ≤ 1000) :
    nxT m i ah (entT m i ah (ktx E i) (E.X i) ++ R) = ktx E i ∧ nxR (entT m i ah (ktx E i) (E.X i) ++ R) = R ∧ nxE m i ah (entT m i ah (ktx E i) (E.X i) ++ R) = ⟨E.U i, E.Q i, E.K i, E.X i⟩ := by
  have hk := keyOk_of_ent h
  have hx := entOk_x h
  have hkt := ktSize (E.U i) (E.Q i) (E.K i)
  have hb := bas_size m i ah
  have hs := shw_le (basT m i ah) (ktx E i)
  have hj := shw_join (basT m i ah) (ktx E i)
  have hr := rkE_key hk
  have h1 : rnum (entT m i ah (ktx E i) (E.X i) ++ R) = ((shw (basT m i ah) (ktx E i) : Int), putText ((ktx E i).extract (shw (basT m i ah) (ktx E i)) (ktx E i).size) ++ (putText (E.X i) ++ R), false) := by
    rw [entT, ByteArray.append_assoc, ByteArray.append_assoc]
    exact rnum_put _ (by omega) (by omega) _
  have h2 := rtext_put ((ktx E i).extract (shw (basT m i ah) (ktx E i)) (ktx E i).size) (putText (E.X i) ++ R) (by rw [ByteArray.size_extract]; unfold ktx; omega)
  have h3 := rtext_put (E.X i) R (by omega)
  have eT : nxT m i ah (entT m i ah (ktx E i) (E.X i) ++ R) = ktx E i := by
    unfold nxT nxS
    rw [h1]
    simp only
    rw [h2]
    simp only
    rw [show (min (shw (basT m i ah) (ktx E i) : Int) ((basT m i ah).size : Int)).toNat = shw (basT m i ah) (ktx E i) by omega]
    exact hj
  refine ⟨eT, ?_, ?_⟩
  · unfold nxR
    rw [h1]
    simp only
    rw [h2]
    simp only
    rw [h3]
  · unfold nxE
    have hr' : rkE (ktx E i) = (E.U i, E.Q i, E.K i) := hr.1
    rw [eT, hr']
    unfold nxX
    rw [h1]
    simp only
    rw [h2]
    simp only
    rw [h3]

/-- The bytes of f entries from place k on. -/
def sfx (E : Ents) (m : Nat) : Nat → Nat → ByteArray
  | _, 0 => ⟨#[]⟩
  | k, f + 1 => entT m k (ahd E k) (ktx E k) (E.X k) ++ sfx E m (k + 1) f
theorem bod_sfx (E : Ents) (m : Nat) : ∀ f k, bod E m (k + f) = bod E m k ++ sfx E m k f
  | 0, k => by rw [sfx, append_nil_ba]; rfl
  | f + 1, k => by
    rw [sfx, ← ByteArray.append_assoc, show k + (f + 1) = (k + 1) + f by omega, bod_sfx E m f (k + 1)]
    rfl
theorem sfx_pos (E : Ents) (m k f : Nat) : 0 < (sfx E m k (f + 1)).size := by
  rw [sfx, entT, ByteArray.size_append, ByteArray.size_append, ByteArray.size_append]
  have := pv_size (shw (basT m k (ahd E k)) (ktx E k) : Int)
  omega

/-- The first entries of r, the key's text and the bytes behind them. -/
def rdk (m : Nat) (r : ByteArray) : Nat → List En × ByteArray × ByteArray
  | 0 => ([], ⟨#[]⟩, r)
  | k + 1 => ((rdk m r k).1 ++ [nxE m k (rdk m r k).2.1 (rdk m r k).2.2], nxT m k (rdk m r k).2.1 (rdk m r k).2.2, nxR (rdk m r k).2.2)
theorem rdk_len (m : Nat) (r : ByteArray) : ∀ k, (rdk m r k).1.length = k
  | 0 => rfl
  | k + 1 => by simp [rdk, rdk_len m r k]
theorem rdk_size (m : Nat) (r : ByteArray) : ∀ k, (rdk m r k).2.1.size + (rdk m r k).2.2.size ≤ r.size
  | 0 => by simp only [rdk]; exact Nat.le_of_eq (Nat.zero_add _)
  | k + 1 => by
    have h1 := rdk_size m r k
    have h2 := (nx_size m k (rdk m r k).2.1 (rdk m r k).2.2).1
    simp only [rdk]
    omega

/-- An entry of the row. -/
def enAt (E : Ents) (i : Nat) : En := ⟨E.U i, E.Q i, E.K i, E.X i⟩
theorem rdk_put {E : Ents} {m n : Nat} (h : ∀ i, i < n → entOk E i = true) : ∀ k, k ≤ n → rdk m (bod E m n) k = ((List.range k).map (enAt E), ahd E k, sfx E m k (n - k))
  | 0, _ => by
    have := bod_sfx E m n 0
    rw [Nat.zero_add] at this
    rw [this]
    simp only [rdk, bod, ahd, Nat.sub_zero, List.range_zero, List.map_nil]
    rw [show (⟨#[]⟩ : ByteArray) ++ sfx E m 0 n = sfx E m 0 n from ByteArray.empty_append]
  | k + 1, hk => by
    have h1 := rdk_put (m := m) h k (by omega)
    have e : n - k = (n - (k + 1)) + 1 := by omega
    have hs : sfx E m k (n - k) = entT m k (ahd E k) (ktx E k) (E.X k) ++ sfx E m (k + 1) (n - (k + 1)) := by rw [e]; rfl
    obtain ⟨a, b, c⟩ := nx_put (m := m) (h k (by omega)) (ahd E k) (sfx E m (k + 1) (n - (k + 1))) (by have := ahd_size E k; omega)
    simp only [rdk, h1]
    rw [hs, a, b, c, List.range_succ, List.map_append]
    rfl

end Go.Proofs.Ytljmfdcilnbjaaa
