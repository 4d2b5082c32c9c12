/- Where the reading of a block begins. -/
import Derived.Test.YtljmfdcilnbjaaaBlkQ
namespace Go.Proofs.Ytljmfdcilnbjaaa
set_option maxRecDepth 100000
open Go.RowKit

def broOk (s : ByteArray) : Bool := decide (8 ≤ s.size ∧ s.size ≤ 60000 ∧ manyOf s ≤ ((s.size : Int) - 8) / 4) && everyB (evOf s)

theorem bro_blk {s : ByteArray} {es : List En} {m : Nat} (h : IsBlk s es m) : broOk s = true := by
  obtain ⟨h1, h2, h3, h4, h5, h6⟩ := blk_parts h
  have hm := blkOk_out h.1
  unfold broOk
  rw [Bool.and_eq_true]
  exact ⟨decide_eq_true ⟨h1, h2, h5⟩, by rw [h4]; exact decide_eq_true (by omega)⟩
theorem bro_no {s : ByteArray} (h : broOk s = false) : ∀ es m, ¬ IsBlk s es m := fun es m hb => by rw [bro_blk hb] at h; cases h
theorem bro_out {s : ByteArray} (h : broOk s = true) : 8 ≤ s.size ∧ s.size ≤ 60000 ∧ manyOf s ≤ ((s.size : Int) - 8) / 4 ∧ everyB (evOf s) = true := by
  unfold broOk at h
  rw [Bool.and_eq_true, decide_eq_true_iff] at h
  exact ⟨h.1.1, h.1.2.1, h.1.2.2, h.2⟩

def broV (s : ByteArray) : Value :=
  if broOk s then .tuple #[.agg #[.int .i64 (evOf s), .int .i64 0, .string ⟨#[]⟩, .string (leftOf s), .bool false], .bool true]
  else .tuple #[.agg #[.int .i64 0, .int .i64 0, .string ⟨#[]⟩, .string ⟨#[]⟩, .bool false], .bool false]

theorem broV_no {s : ByteArray} (h : broOk s = false) : broV s = .tuple #[.agg #[.int .i64 0, .int .i64 0, .string ⟨#[]⟩, .string ⟨#[]⟩, .bool false], .bool false] := by rw [broV, h]; rfl
theorem broV_yes {s : ByteArray} (h : broOk s = true) : broV s = .tuple #[.agg #[.int .i64 (evOf s), .int .i64 0, .string ⟨#[]⟩, .string (leftOf s), .bool false], .bool true] := by rw [broV, h]; rfl

set_option maxHeartbeats 2000000 in
theorem impl_blockReaderOf (s : ByteArray) (hs : s.size ≤ 1048576) (w : World) :
    Calls Try.prog 47 #[.string s] w fun e w' => e = .returned (broV s) ∧ Below w.heap.size w w' := by
  by_cases h1 : s.size < 8
  · have HV := hide (broV_no (s := s) (by unfold broOk; rw [decide_eq_false (by omega), Bool.false_and]))
    have g1 : (s.size : Int) - 8 < 0 := by omega
    clear h1
    go_enter Try.func47, Try.ntmps47
    go_wp2
    refine bodyPost_ret (v := .tuple #[.agg #[.int .i64 0, .int .i64 0, .string ⟨#[]⟩, .string ⟨#[]⟩, .bool false], .bool false]) (by simp [results, Try.results47, go_sem]) rfl ⟨by rw [HV.out], ?_⟩
    go_grown
  · obtain ⟨a, ha⟩ : ∃ a, s.size = a + 8 := ⟨s.size - 8, by omega⟩
    have hsx : (s.size : Int) - 8 = (a : Int) := by omega
    have ha0 : ¬ ((a : Int) < 0) := by omega
    by_cases h2 : 60000 < s.size
    · have HV := hide (broV_no (s := s) (by unfold broOk; rw [decide_eq_false (by omega), Bool.false_and]))
      have g2 : (60000 : Int) < (s.size : Int) := by omega
      clear h1 h2 ha
      go_enter Try.func47, Try.ntmps47
      go_wp2
      refine bodyPost_ret (v := .tuple #[.agg #[.int .i64 0, .int .i64 0, .string ⟨#[]⟩, .string ⟨#[]⟩, .bool false], .bool false]) (by simp [results, Try.results47, go_sem]) rfl ⟨by rw [HV.out], ?_⟩
      go_grown
    · have g2 : ¬ (60000 : Int) < (s.size : Int) := by omega
      have z1 : 4 ≤ (s.extract a s.size).size := by simp; omega
      have z2 : 4 ≤ (s.extract (a + 4) s.size).size := by simp; omega
      have e1 : tf4 (s.extract a s.size) = manyOf s := by rw [manyOf, show s.size - 8 = a by omega]
      have e2 : tf4 (s.extract (a + 4) s.size) = evOf s := by rw [evOf, show s.size - 4 = a + 4 by omega]
      have hsl : (a : Int) ≤ (s.size : Int) := by omega
      have hsl4 : (a : Int) + 4 ≤ (s.size : Int) := by omega
      have ca := fun wx => e1 ▸ impl_fixedAt_yes (s.extract a s.size) z1 wx
      have cb := fun wx => e2 ▸ impl_fixedAt_yes (s.extract (a + 4) s.size) z2 wx
      obtain ⟨p0, p1⟩ := many_bd s
      obtain ⟨q0, q1⟩ := ev_bd s
      have HB0 := hide (below_one w (.cells #[.int .i64 0, .int .i64 0, .string ⟨#[]⟩, .string ⟨#[]⟩, .bool false] 89))
      have HX0 := hide (BoxIs.new w #[.int .i64 0, .int .i64 0, .string ⟨#[]⟩, .string ⟨#[]⟩, .bool false] 89 rfl)
      have HD : Hid (broOk s = (decide (8 ≤ s.size ∧ s.size ≤ 60000 ∧ manyOf s ≤ ((s.size : Int) - 8) / 4) && everyB (evOf s))) := rfl
      have HL : Hid (leftOf s = s.extract 0 (s.size - 8 - 4 * (manyOf s).toNat)) := rfl
      have HN := hide (fun h => broV_no (s := s) h)
      have HY := hide (fun h => broV_yes (s := s) h)
      clear e1 e2 z1 z2
      generalize manyOf s = c at *
      generalize evOf s = ev at *
      have hwc : IntKind.i64.wrap c = c := by rw [IntKind.wrap_i64]; omega
      have hwe : IntKind.i64.wrap ev = ev := by rw [IntKind.wrap_i64]; omega
      have HH : Hid (s.size = a + 8 ∧ ¬ s.size < 8 ∧ ¬ 60000 < s.size) := ⟨ha, h1, h2⟩
      clear ha h1 h2
      go_enter Try.func47, Try.ntmps47
      go_wp2_with fail
      generalize w.alloc (.cells #[.int .i64 0, .int .i64 0, .string ⟨#[]⟩, .string ⟨#[]⟩, .bool false] 89) = W at HB0 HX0 ⊢
      refine (ca _).mono ?_
      rintro e w1 ⟨rfl, hb1⟩
      have HB1 := hide (HB0.out.trans (hb1.mono HB0.out.size))
      have HX1 := hide (HX0.out.next hb1)
      clear hb1 ca HB0 HX0
      go_wp2_with fail
      refine (cb _).mono ?_
      rintro e w2 ⟨rfl, hb2⟩
      have HB2 := hide (HB1.out.trans (hb2.mono HB1.out.size))
      have HX2 := hide (HX1.out.next hb2)
      clear hb2 cb HB1 HX1
      obtain ⟨x0, x1, x2, x3, x4⟩ : w2.cell? ⟨w.heap.size, 0, none⟩ = some (.int .i64 0) ∧ w2.cell? ⟨w.heap.size, 1, none⟩ = some (.int .i64 0) ∧ w2.cell? ⟨w.heap.size, 2, none⟩ = some (.string ⟨#[]⟩) ∧ w2.cell? ⟨w.heap.size, 3, none⟩ = some (.string ⟨#[]⟩) ∧ w2.cell? ⟨w.heap.size, 4, none⟩ = some (.bool false) :=
        ⟨HX2.out.cell 0, HX2.out.cell 1, HX2.out.cell 2, HX2.out.cell 3, HX2.out.cell 4⟩
      have xf := HX2.out.free
      by_cases h3 : (a : Int) / 4 < c
      · have hb : broOk s = false := by rw [HD.out, decide_eq_false (by have := HH.out; omega), Bool.false_and]
        have HV := hide (HN.out hb)
        clear HY HN HD HL hb
        go_wp2
        refine bodyPost_ret (v := .tuple #[.agg #[.int .i64 0, .int .i64 0, .string ⟨#[]⟩, .string ⟨#[]⟩, .bool false], .bool false]) (by simp [results, Try.results47, go_sem, x0, x1, x2, x3, x4]) rfl ⟨by rw [HV.out], ?_⟩
        exact ((((HB2.out.setCell (Nat.le_refl _) _).setCell (Nat.le_refl _) _).setCell (Nat.le_refl _) _).setCell (Nat.le_refl _) _).setCell (Nat.le_refl _) _
      · cases he : everyB ev with
        | false =>
          have ce := fun wx => he ▸ impl_everyOk ev wx
          have hb : broOk s = false := by rw [HD.out, he, Bool.and_false]
          have HV := hide (HN.out hb)
          clear HY HN HD HL hb he
          go_wp2_with fail
          refine (ce _).mono ?_
          rintro e w3 ⟨rfl, rfl⟩
          clear ce
          go_wp2
          refine bodyPost_ret (v := .tuple #[.agg #[.int .i64 0, .int .i64 0, .string ⟨#[]⟩, .string ⟨#[]⟩, .bool false], .bool false]) (by simp [results, Try.results47, go_sem, x0, x1, x2, x3, x4]) rfl ⟨by rw [HV.out], ?_⟩
          exact ((((HB2.out.setCell (Nat.le_refl _) _).setCell (Nat.le_refl _) _).setCell (Nat.le_refl _) _).setCell (Nat.le_refl _) _).setCell (Nat.le_refl _) _
        | true =>
          have ce := fun wx => he ▸ impl_everyOk ev wx
          have hb : broOk s = true := by rw [HD.out, he, Bool.and_true]; exact decide_eq_true (by have := HH.out; omega)
          have HV := hide (HY.out hb)
          obtain ⟨n, rfl⟩ := Int.eq_ofNat_of_zero_le p0
          obtain ⟨d, hd⟩ : ∃ d, a = d + 4 * n := ⟨a - 4 * n, by omega⟩
          have hdi : (a : Int) - (n : Int) * 4 = (d : Int) := by omega
          have hdi2 : (a : Int) - 4 * (n : Int) = (d : Int) := by omega
          have hds : (d : Int) ≤ (s.size : Int) := by omega
          have HL2 : Hid (leftOf s = s.extract 0 d) := by show _ = _; rw [HL.out]; congr 1; have := HH.out; omega
          clear HY HN HD HL hb he hd
          go_wp2_with fail
          refine (ce _).mono ?_
          rintro e w3 ⟨rfl, rfl⟩
          clear ce
          go_wp2
          refine bodyPost_ret (v := .tuple #[.agg #[.int .i64 ev, .int .i64 0, .string ⟨#[]⟩, .string (s.extract 0 d), .bool false], .bool true]) (by simp [results, Try.results47, go_sem, x0, x1, x2, x3, x4]) rfl ⟨by rw [HV.out, HL2.out], ?_⟩
          exact ((((HB2.out.setCell (Nat.le_refl _) _).setCell (Nat.le_refl _) _).setCell (Nat.le_refl _) _).setCell (Nat.le_refl _) _).setCell (Nat.le_refl _) _

end Go.Proofs.Ytljmfdcilnbjaaa
