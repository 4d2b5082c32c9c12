/- How the model reads a block: an entry from the bytes, by its own small readers. -/
import Derived.Test.YtljmfdcilnbjaaaBRo
namespace Go.Proofs.Ytljmfdcilnbjaaa
set_option maxRecDepth 100000
open Go.RowKit

def vPart (s : ByteArray) : Int × ByteArray × Bool :=
  match tva s 10 0 0 with
  | none => (0, ⟨#[]⟩, false)
  | some (n, k) => (n, s.extract k s.size, true)
theorem takeVar_v (s : ByteArray) : takeVar s = .tuple #[.int .u64 (vPart s).1, .string (vPart s).2.1, .bool (vPart s).2.2] := by
  unfold takeVar vPart
  cases tva s 10 0 0 with
  | none => rfl
  | some x => rfl
theorem vPart_bd (s : ByteArray) : 0 ≤ (vPart s).1 ∧ (vPart s).1 < 18446744073709551616 ∧ (vPart s).2.1.size ≤ s.size := by
  unfold vPart
  cases h : tva s 10 0 0 with
  | none => exact ⟨Int.le_refl 0, show (0 : Int) < 18446744073709551616 by decide, Nat.zero_le _⟩
  | some x =>
    obtain ⟨n, k⟩ := x
    have := put_take s h
    exact ⟨this.1, this.2.1, by simp only [ByteArray.size_extract]; omega⟩
theorem vPart_put (n : Int) (h0 : 0 ≤ n) (h1 : n < 18446744073709551616) (r : ByteArray) : vPart (pv n ++ r) = (n, r, true) := by
  unfold vPart
  rw [take_put n h0 h1 r]
  simp only
  rw [extract_behind]

theorem takeText_v (r : ByteArray) : takeText r = .tuple #[.string (rtext r).1, .string (rtext r).2.1, .bool (!(rtext r).2.2)] := by
  cases h : rtx r with
  | none =>
    have hn := rtx_none h
    rw [rtext_none h]
    cases hv : tva r 10 0 0 with
    | none => rw [takeText, hv]; rfl
    | some x => exact (Ending.returned.inj (ret_text_no hv (hn x.1 x.2 hv))).symm
  | some x =>
    obtain ⟨k, e⟩ := x
    obtain ⟨m, rfl, h1, h2⟩ := rtx_some h
    rw [rtext_some h]
    exact (Ending.returned.inj (ret_text_yes (a := r.extract k (k + m)) (b := r.extract (k + m) r.size) h1 h2 (by rw [Int.toNat_natCast]) (by rw [Int.toNat_natCast]))).symm

/-- How far the model is, whatever row s is the block of. -/
def At (s : ByteArray) (row : List En) (last left : ByteArray) : Prop :=
  ∀ es m, IsBlk s es m → row.length ≤ es.length ∧ row = es.take row.length ∧ last = ahd (entsOf es) row.length ∧ left = sfx (entsOf es) m row.length (es.length - row.length)

theorem At.start {s : ByteArray} : At s [] ⟨#[]⟩ (leftOf s) := fun es m h => by
  refine ⟨Nat.zero_le _, rfl, rfl, ?_⟩
  rw [(blk_parts h).2.2.2.2.2]
  have := bod_sfx (entsOf es) m es.length 0
  rw [Nat.zero_add] at this
  rw [this]
  exact ByteArray.empty_append

theorem take_more {es : List En} {k : Nat} (h : k < es.length) : es.take k ++ [enAt (entsOf es) k] = es.take (k + 1) := by
  rw [List.take_succ_eq_append_getElem h]
  congr 1
  simp only [enAt, entsOf, List.getD, List.getElem?_eq_getElem h, Option.getD_some]

/-- Where something is left, the next entry is there. -/
theorem At.step {s : ByteArray} {row : List En} {last left : ByteArray} (h : At s row last left) (hl : left.size ≠ 0) {es : List En} {m : Nat} (hb : IsBlk s es m) :
    (vPart left).2.2 = true ∧ (rtext (vPart left).2.1).2.2 = false ∧ (rtext (rtext (vPart left).2.1).2.1).2.2 = false ∧ (vPart left).1 ≤ (last.size : Int) ∧
    rkB (last.extract 0 (vPart left).1.toNat ++ (rtext (vPart left).2.1).1) = true ∧ row.length < 400 ∧
    row.length + 1 ≤ es.length ∧ row ++ [⟨(rkE (last.extract 0 (vPart left).1.toNat ++ (rtext (vPart left).2.1).1)).1, (rkE (last.extract 0 (vPart left).1.toNat ++ (rtext (vPart left).2.1).1)).2.1, (rkE (last.extract 0 (vPart left).1.toNat ++ (rtext (vPart left).2.1).1)).2.2, (rtext (rtext (vPart left).2.1).2.1).1⟩] = es.take (row.length + 1) ∧
    last.extract 0 (vPart left).1.toNat ++ (rtext (vPart left).2.1).1 = ahd (entsOf es) (row.length + 1) ∧ (rtext (rtext (vPart left).2.1).2.1).2.1 = sfx (entsOf es) m (row.length + 1) (es.length - (row.length + 1)) := by
  obtain ⟨h1, h2, h3, h4⟩ := h es m hb
  obtain ⟨_, _, hn, hm1, hm2, he, hz⟩ := blkOk_out hb.1
  generalize hk : row.length = k at *
  have hlt : k < es.length := by
    rcases Nat.lt_or_ge k es.length with h | h
    · exact h
    · exfalso
      apply hl
      rw [h4, show es.length - k = 0 by omega]
      rfl
  have e : es.length - k = (es.length - (k + 1)) + 1 := by omega
  have hs : left = entT m k last (ktx (entsOf es) k) ((entsOf es).X k) ++ sfx (entsOf es) m (k + 1) (es.length - (k + 1)) := by rw [h4, e, h3]; rfl
  have hen := he k hlt
  have hkey := rkE_key (keyOk_of_ent hen)
  have hx := entOk_x hen
  have hkt : (ktx (entsOf es) k).size ≤ 48 := ktSize _ _ _
  have hls : last.size ≤ 48 := by rw [h3]; exact ahd_size _ _
  have hsw := shw_le (basT m k last) (ktx (entsOf es) k)
  have hbs := bas_size m k last
  have hj := shw_join (basT m k last) (ktx (entsOf es) k)
  have hext : last.extract 0 (shw (basT m k last) (ktx (entsOf es) k)) = (basT m k last).extract 0 (shw (basT m k last) (ktx (entsOf es) k)) := by
    unfold basT
    split
    · rw [shw_none]
      apply ByteArray.ext
      simp
    · rfl
  have a1 : vPart left = ((shw (basT m k last) (ktx (entsOf es) k) : Int), putText ((ktx (entsOf es) k).extract (shw (basT m k last) (ktx (entsOf es) k)) (ktx (entsOf es) k).size) ++ (putText ((entsOf es).X k) ++ sfx (entsOf es) m (k + 1) (es.length - (k + 1))), true) := by
    rw [hs, entT, ByteArray.append_assoc, ByteArray.append_assoc]
    exact vPart_put _ (by omega) (by omega) _
  have a2 := rtext_put ((ktx (entsOf es) k).extract (shw (basT m k last) (ktx (entsOf es) k)) (ktx (entsOf es) k).size) (putText ((entsOf es).X k) ++ sfx (entsOf es) m (k + 1) (es.length - (k + 1))) (by rw [ByteArray.size_extract]; omega)
  have a3 := rtext_put ((entsOf es).X k) (sfx (entsOf es) m (k + 1) (es.length - (k + 1))) (by omega)
  have e0 : last.extract 0 (vPart left).1.toNat ++ (rtext (vPart left).2.1).1 = ktx (entsOf es) k := by
    rw [a1]
    simp only
    rw [a2, Int.toNat_natCast]
    simp only
    rw [hext]
    exact hj
  have hr1 : rkE (ktx (entsOf es) k) = ((entsOf es).U k, (entsOf es).Q k, (entsOf es).K k) := hkey.1
  have hr2 : rkB (ktx (entsOf es) k) = true := hkey.2
  rw [e0, hr1, hr2, a1]
  simp only
  rw [a2]
  simp only
  rw [a3]
  refine ⟨trivial, trivial, rfl, by omega, trivial, by omega, by omega, ?_, rfl, rfl⟩
  rw [h2]
  exact take_more hlt

theorem At.next {s : ByteArray} {row : List En} {last left : ByteArray} (h : At s row last left) (hl : left.size ≠ 0) {u x : ByteArray} {q k : Int} {T R : ByteArray} (hT : last.extract 0 (vPart left).1.toNat ++ (rtext (vPart left).2.1).1 = T) (hE : rkE T = (u, q, k)) (hx : (rtext (rtext (vPart left).2.1).2.1).1 = x) (hR : (rtext (rtext (vPart left).2.1).2.1).2.1 = R) : At s (row ++ [⟨u, q, k, x⟩]) T R := fun es m hb => by
  obtain ⟨_, _, _, _, _, _, h7, h8, h9, h10⟩ := h.step hl hb
  rw [hT, hE, hx] at h8
  rw [List.length_append]
  exact ⟨h7, h8, by rw [← hT]; exact h9, by rw [← hR]; exact h10⟩

theorem At.done {s : ByteArray} {row : List En} {last left : ByteArray} (h : At s row last left) (hl : left.size = 0) {es : List En} {m : Nat} (hb : IsBlk s es m) : row = es := by
  obtain ⟨h1, h2, _, h4⟩ := h es m hb
  have hk : row.length = es.length := by
    rcases Nat.lt_or_ge row.length es.length with hlt | hge
    · have := sfx_pos (entsOf es) m row.length (es.length - row.length - 1)
      rw [show es.length - row.length - 1 + 1 = es.length - row.length by omega, ← h4] at this
      omega
    · omega
  rw [h2, hk, List.take_length]

end Go.Proofs.Ytljmfdcilnbjaaa
