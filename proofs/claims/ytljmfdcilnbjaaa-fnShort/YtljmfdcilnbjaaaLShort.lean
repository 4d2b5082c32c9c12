/- The law FnShort, walked: a block of entries that begin alike is no longer than one in which each stands by itself. -/
import Derived.Test.YtljmfdcilnbjaaaDrawBlk
namespace Go.Proofs.Ytljmfdcilnbjaaa
set_option maxRecDepth 100000
open Go.RowKit Go.Deep

theorem pv_one (n : Int) (h : n < 128) : (pv n).size = 1 := by
  rw [pv, strOfNums_size, pvs_lt _ _ h]; rfl

theorem entT_more (m p : Nat) (ah ah' kt x : ByteArray) (hk : kt.size ≤ 48) : (entT m p ah kt x).size ≤ (entT 1 p ah' kt x).size := by
  unfold entT
  have h1 := (shw_le (basT m p ah) kt).2
  have h0 : basT 1 p ah' = ⟨#[]⟩ := by rw [basT, if_pos (Nat.mod_one p)]
  rw [h0, shw_none]
  generalize shw (basT m p ah) kt = s at *
  simp only [ByteArray.size_append, putText, ByteArray.size_extract]
  rw [pv_one (s : Int) (by omega), pv_one ((0 : Nat) : Int) (by decide), pv_one (((min kt.size kt.size - s : Nat)) : Int) (by omega), pv_one (((min kt.size kt.size - 0 : Nat)) : Int) (by omega)]
  omega

theorem bod_more (E : Ents) (m : Nat) : ∀ k, (bod E m k).size ≤ (bod E 1 k).size
  | 0 => Nat.le_refl _
  | k + 1 => by
    have h1 := bod_more E m k
    have h2 := entT_more m k (ahd E k) (ahd E k) (ktx E k) (E.X k) (keyText_size _ _ _)
    rw [bod, bod, ByteArray.size_append, ByteArray.size_append]
    omega

theorem beg_one (E : Ents) : ∀ k, (beg E 1 k).length = k
  | 0 => rfl
  | k + 1 => by rw [beg, begT, if_pos (Nat.mod_one k), List.length_append, beg_one E k]; rfl

theorem blk_short (E : Ents) (m n : Nat) : (blkT E m n).size ≤ (blkT E 1 n).size := by
  rw [blkT_size, blkT_size, beg_one]
  have := bod_more E m n
  have := beg_len E m n
  omega

theorem blkR_short {E : Ents} {n : Nat} {every : Int} (h : blkOk E n every = true) (h1 : blkOk E n 1 = true) : (blkR E n every).size ≤ (blkR E n 1).size := by
  rw [blkR, blkR, if_pos h, if_pos h1]
  exact blk_short E _ n

set_option maxHeartbeats 4000000 in
theorem walk_FnShort (v : Value) {w : World} (hv : IsBytes w v) (_w : World) :
    Calls Try.prog 8 #[v] w fun e w' => e = .returned (.bool true) ∧ Below w.heap.size w w' := by
  obtain ⟨a, len, cap, rfl, hc, hm⟩ := hv
  by_cases hbig : 1048576 < len
  · have hd : decide (1048576 < len) = true := by simp [hbig]
    go_enter Try.func8, Try.ntmps8
    go_wp2_with fail
    refine (laws_bigK a len cap hm _).mono ?_
    rintro e w1 ⟨rfl, rfl⟩
    go_wp2
    go_ret
    exact ⟨rfl, Below.refl _ _⟩
  · have hd : decide (1048576 < len) = false := by simp [hbig]
    have hl : len ≤ 1048576 := by omega
    go_enter Try.func8, Try.ntmps8
    go_wp2_with fail
    refine (laws_bigK a len cap hm _).mono ?_
    rintro e w1 ⟨rfl, rfl⟩
    go_wp2_with fail
    refine (draw_BlockOf w _ a len cap hc hl (Below.refl _ _)).mono ?_
    rintro e w1 ⟨gE, capE, es, every, rfl, hn10, hE, hB1⟩
    obtain ⟨n, hn⟩ : ∃ n, es.length = n := ⟨_, rfl⟩
    generalize entsOf es = E at hE
    rw [hn] at hE hn10 ⊢
    have HE1 := hide hE
    have HB1 := hide hB1
    have ci := fun ev wx h => impl_BlockOf (some ⟨gE, 0, none⟩) n capE E ev wx (by omega) h
    have cs := fun ev wx h => spec_BlockOf (some ⟨gE, 0, none⟩) n capE E ev wx (by omega) h
    have HSH : Hid (blkOk E n every = true → blkOk E n 1 = true → (blkR E n every).size ≤ (blkR E n 1).size) := fun h h1 => blkR_short h h1
    have ci1 := ci every
    have ci2 := ci 1
    have cs1 := cs every
    clear hE hB1 hn hc hm hd hbig ci cs
    generalize blkR E n every = A at *
    generalize blkR E n 1 = B at *
    go_wp2_with fail
    refine (ci1 _ HE1.out).mono ?_
    rintro e w2 ⟨rfl, hb2⟩
    have HE2 := hide (HE1.out.keep hb2)
    have HB2 := hide (HB1.out.trans (hb2.mono HB1.out.size))
    clear hb2 ci1 HE1 HB1
    go_wp2_with fail
    refine (ci2 _ HE2.out).mono ?_
    rintro e w3 ⟨rfl, hb3⟩
    have HE3 := hide (HE2.out.keep hb3)
    have HB3 := hide (HB2.out.trans (hb3.mono HB2.out.size))
    clear hb3 ci2 HE2 HB2
    go_wp2_with fail
    refine (cs1 _ HE3.out).mono ?_
    rintro e w4 ⟨rfl, hb4⟩
    have HB4 := hide (HB3.out.trans (hb4.mono HB3.out.size))
    clear hb4 cs1 HE3 HB3
    cases h1 : blkOk E n every with
    | false =>
      clear h1 HSH
      go_wp2
      go_ret
      exact ⟨rfl, HB4.out⟩
    | true =>
      cases h2 : blkOk E n 1 with
      | false =>
        clear h1 h2 HSH
        go_wp2
        go_ret
        exact ⟨rfl, HB4.out⟩
      | true =>
        have hle : (A.size : Int) ≤ (B.size : Int) := by have := HSH.out h1 h2; omega
        clear h1 h2 HSH
        go_wp2
        go_ret
        exact ⟨rfl, HB4.out⟩

end Go.Proofs.Ytljmfdcilnbjaaa
