/- BlockOf of the program. -/
import Derived.Test.YtljmfdcilnbjaacBlk
namespace Go.Proofs.Ytljmfdcilnbjaac
set_option maxRecDepth 100000
open Go.RowKit
open Go.Lib (strCells)

theorem every_nat {e : Int} (h : everyB e = true) : ∃ m : Nat, e = (m : Int) ∧ 1 ≤ m ∧ m ≤ 16 := by
  have := of_decide_eq_true h
  exact ⟨e.toNat, by omega, by omega, by omega⟩

theorem Bw.start (w : World) (m : Nat) : Bw w.heap.size (w.heap.size + 1) m 0 ⟨#[]⟩ (.slice none 0 0) (.slice none 0 0) ⟨#[]⟩ [] (w.alloc (.cells #[.int .i64 m, .int .i64 0, .string ⟨#[]⟩, .slice none 0 0, .slice none 0 0] 51)) :=
  ⟨BoxIs.new w _ _ rfl, World.ownsRow_nil _ _ _ _, World.ownsRow_nil _ _ _ _, by omega, by simp⟩

set_option maxHeartbeats 2000000 in
theorem impl_BlockOf (a : Option Addr) (len cap : Nat) (E : Ents) (every : Int) (w : World) (hl : len ≤ 1048576) (hS : EntAt w w.heap.size a len E) :
    Calls Try.prog 7 #[.slice a len cap, .int .i64 every] w fun e w' => e = .returned (.tuple #[.string (blkR E len every), .bool (blkOk E len every)]) ∧ Below w.heap.size w w' := by
  have cr := fun wx hb => implEntriesB (E := E) (a := a) (cap := cap) (w0 := w) hl hS wx hb
  cases hr : rowOkB E len with
  | false =>
    have HN := hide (blkOk_row (every := every) hr)
    rw [hr] at cr
    clear hr hS
    go_enter Try.func7, Try.ntmps7
    go_wp2_with fail
    refine (cr _ (Below.refl _ _)).mono ?_
    rintro e w1 ⟨rfl, hB⟩
    clear cr
    go_wp2
    go_ret2
    exact ⟨ret_blkN HN.out, hB⟩
  | true =>
    by_cases hz : len = 0
    · subst hz
      rw [hr] at cr
      clear hr hS
      go_enter Try.func7, Try.ntmps7
      go_wp2_with fail
      refine (cr _ (Below.refl _ _)).mono ?_
      rintro e w1 ⟨rfl, hB⟩
      clear cr
      go_wp2
      go_ret2
      exact ⟨ret_blkN blkOk_len, hB⟩
    · have hz1 : ¬ (len : Int) = 0 := by omega
      have hz2 : ((len : Int) == 0) = false := by simp; omega
      have hz3 : (len == 0) = false := by simp; omega
      cases he : everyB every with
      | false =>
        have ce := fun wx => he ▸ impl_everyOk every wx
        have HN := hide (blkOk_every (E := E) (len := len) he)
        rw [hr] at cr
        clear hr he hS
        go_enter Try.func7, Try.ntmps7
        go_wp2_with fail
        refine (cr _ (Below.refl _ _)).mono ?_
        rintro e w1 ⟨rfl, hB⟩
        clear cr
        go_wp2_with fail
        refine (ce _).mono ?_
        rintro e w2 ⟨rfl, rfl⟩
        clear ce
        go_wp2
        go_ret2
        exact ⟨ret_blkN HN.out, hB⟩
      | true =>
        have ce := fun wx => he ▸ impl_everyOk every wx
        have HGR := hide (fun h => blkOk_great (E := E) (len := len) (every := every) h)
        have HYE := hide (fun h => blkOk_yes (E := E) (len := len) (every := every) hr hz he h)
        rw [hr] at cr
        have hent := (rowOk_out hr).2
        have hl4 := (rowOk_out hr).1
        have HE : Hid (∀ i, i < len → entOk E i = true) := fun i hi => (hent i hi).1
        have HS := hide hS
        obtain ⟨m, rfl, hm1, hm2⟩ := every_nat he
        clear hr he hS hent
        go_enter Try.func7, Try.ntmps7
        go_wp2_with fail
        refine (cr _ (Below.refl _ _)).mono ?_
        rintro e w1 ⟨rfl, hB⟩
        clear cr
        go_wp2_with fail
        refine (ce _).mono ?_
        rintro e w2 ⟨rfl, rfl⟩
        clear ce
        have HA := hide (Bw.start w1 m)
        have HB1 := hide (hB.trans ((below_one w1 (.cells #[.int .i64 m, .int .i64 0, .string ⟨#[]⟩, .slice none 0 0, .slice none 0 0] 51)).mono hB.size))
        have hF : w.heap.size ≤ w1.heap.size := hB.size
        clear hB
        go_wp2
        generalize w1.alloc (.cells #[.int .i64 m, .int .i64 0, .string ⟨#[]⟩, .slice none 0 0, .slice none 0 0] 51) = W at HA HB1 ⊢
        generalize w1.heap.size = F at HA hF ⊢
        go_loopw [27] (fun i wr => ∃ (k : Nat) (ve vb : Value), i = .int .i64 k ∧ k ≤ len ∧ Hid (Bw F (F + 1) m k (ahd E k) ve vb (bod E m k) (beg E m k) wr) ∧ Hid (Below w.heap.size w wr)) (fun i _ => len - (intOf i).toNat)
        case atStart => exact ⟨0, _, _, rfl, by omega, HA, HB1⟩
        case round =>
          obtain ⟨k, ve, vb, rfl, hk, HK, HW⟩ := hrel
          clear HA HB1
          by_cases hlt : k < len
          · obtain ⟨b, off, rfl, hb, c0, c1, c2, c3⟩ := (HS.out.below HW.out).at hlt
            have hki : (k : Int) < (len : Int) := by omega
            have z1 := bod_size (m := m) HE.out k hk
            have z2 := beg_len E m k
            have z3 := ahd_size E k
            have z4 := entOk_x (HE.out k hlt)
            have z5 := ktSize (E.U k) (E.Q k) (E.K k)
            have hbe := below_one wr (.cells #[.string (E.U k), .int .i64 (E.Q k), .int .i64 (E.K k), .string (E.X k)] 53)
            have HKe := hide (HK.out.next hbe)
            have HWe := hide (HW.out.trans (hbe.mono HW.out.size))
            have cp := fun wx hx => wr_put wx F (F + 1) m k (ahd E k) ve vb (bod E m k) (beg E m k) (E.U k) (E.Q k) (E.K k) (E.X k) hm1 (by omega) (by omega) (by omega) (by omega) (by omega) (by omega) hx
            clear hbe
            go_wp2_with fail
            generalize wr.alloc (.cells #[.string (E.U k), .int .i64 (E.Q k), .int .i64 (E.K k), .string (E.X k)] 53) = W2 at HKe HWe ⊢
            clear c0 c1 c2 c3 hb
            refine (cp W2 HKe.out).mono ?_
            rintro e w3 ⟨rfl, ⟨ve', vb', hbw⟩, hb3⟩
            have HK3 := hide hbw
            have HW3 := hide (HWe.out.trans (hb3.mono hF))
            clear hbw hb3 cp HKe HWe HK HW z1 z2 z3 z4 z5
            go_wp2
            exact ⟨⟨k + 1, _, _, by go_num, by omega, HK3, HW3⟩, by simp [intOf]; omega⟩
          · obtain rfl : k = len := by omega
            have z1 := bod_size (m := m) HE.out k hk
            have z2 := beg_len E m k
            have hT : (blkT E m k).size = (bod E m k).size + 4 * (beg E m k).length + 8 := blkT_size E m k
            have cz := fun wx hx => wr_size wx F (F + 1) m k (ahd E k) ve vb (bod E m k) (beg E m k) (by omega) (by omega) hx
            have cb := fun wx hx => wr_block wx F (F + 1) m k (ahd E k) ve vb (bod E m k) (beg E m k) (by omega) (by omega) (by omega) hx
            have HT : Hid (blkT E m k = bod E m k ++ fxs (beg E m k) ++ fx4 (beg E m k).length ++ fx4 m) := rfl
            rw [← hT] at cz
            rw [← HT.out] at cb
            rw [Int.toNat_natCast] at HGR HYE
            clear HT hT z1 z2
            by_cases hg : 60000 < (blkT E m k).size
            · have HN := hide (HGR.out hg)
              have hgi : (60000 : Int) < ((blkT E m k).size : Int) := by omega
              clear HGR HYE
              go_wp2_with fail
              refine (cz _ HK.out).mono ?_
              rintro e w3 ⟨rfl, hb3⟩
              have HW3 := hide (HW.out.trans (hb3.mono HW.out.size))
              clear hb3 cz cb HK HW
              go_wp2
              go_ret2
              exact ⟨ret_blkN HN.out, HW3.out⟩
            · have HY := hide (HYE.out (by omega))
              have hgi : ¬ (60000 : Int) < ((blkT E m k).size : Int) := by omega
              clear HGR HYE
              go_wp2_with fail
              refine (cz _ HK.out).mono ?_
              rintro e w3 ⟨rfl, hb3⟩
              have HK3 := hide (HK.out.next hb3)
              have HW3 := hide (HW.out.trans (hb3.mono HW.out.size))
              clear hb3 cz HK HW
              go_wp2_with fail
              refine (cb _ HK3.out).mono ?_
              rintro e w4 ⟨rfl, hb4⟩
              have HW4 := hide (HW3.out.trans (hb4.mono HW3.out.size))
              clear hb4 cb HK3 HW3
              go_wp2
              go_ret2
              exact ⟨ret_blkY HY.out (by rw [Int.toNat_natCast]), HW4.out⟩

end Go.Proofs.Ytljmfdcilnbjaac
