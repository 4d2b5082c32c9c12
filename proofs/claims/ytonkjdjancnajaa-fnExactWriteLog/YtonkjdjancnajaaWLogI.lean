/- WriteLog of the program, whole. -/
import Derived.Test.YtonkjdjancnajaaWLog
namespace Go.Proofs.Ytonkjdjancnajaa
set_option maxRecDepth 100000
open Go.RowKit

theorem room_bd (p : Nat) (hp : p < 64) : 1 ≤ roomOf p ∧ roomOf p ≤ 58 ∧ (64 - (((p : Int) + (gapOf p : Int)) % 64) - 6 = (roomOf p : Int)) ∧ gapOf p ≤ 6 := by
  unfold roomOf gapOf
  split <;> omega

theorem nil_app (s : ByteArray) : (⟨#[]⟩ : ByteArray) ++ s = s := ByteArray.ext (by simp)
/-- How long a text in a slot is. -/
def strSz : Value → Nat
  | .string s => s.size
  | _ => 0

theorem writeLog_no {a : Int} {r : ByteArray} (h : a < 0 ∨ 8000 < r.size) : writeLog a r = ⟨#[]⟩ := by rw [writeLog, if_pos h]

set_option maxHeartbeats 1000000 in
theorem impl_WriteLog (at' : Int) (r : ByteArray) (w : World) :
    Calls Try.prog 24 #[.int .i64 at', .string r] w fun e w' => e = .returned (.string (writeLog at' r)) ∧ Below w.heap.size w w' := by
  by_cases hneg : at' < 0
  · have HV : Hid (writeLog at' r = ⟨#[]⟩) := writeLog_no (.inl hneg)
    go_enter Try.func24, Try.ntmps24
    go_wp2
    go_ret
    exact ⟨ret_strW HV.out.symm, Below.refl _ _⟩
  by_cases hbig : (8000 : Int) < (r.size : Int)
  · have HV : Hid (writeLog at' r = ⟨#[]⟩) := writeLog_no (.inr (by omega))
    go_enter Try.func24, Try.ntmps24
    go_wp2
    go_ret
    exact ⟨ret_strW HV.out.symm, Below.refl _ _⟩
  have HT : Hid (writeLog at' r = zeros (gapOf (at' % 64).toNat) ++ firstOf (at' % 64).toNat r) := by show _ = _; rw [writeLog, if_neg (by omega)]
  have ha0 : 0 ≤ at' := by omega
  obtain ⟨p, hp⟩ : ∃ p : Nat, at' % 64 = (p : Int) := ⟨(at' % 64).toNat, by omega⟩
  have hp64 : p < 64 := by omega
  rw [hp, Int.toNat_natCast] at HT
  obtain ⟨m1, m2, m3, m4⟩ := room_bd p hp64
  have hrz : r.size ≤ 8000 := by omega
  have hb0 := below_one w (.cells #[.pointer none, .slice none 0 0] 86)
  have hB0 := Bld.new w
  have cg := impl_gapAt p hp64
  have hp' : wrap64 (p : Int) = p := by unfold wrap64; omega
  have hpp : IntKind.i64.wrap (p : Int) = p := by rw [IntKind.wrap_i64]; omega
  have hz64 : p + gapOf p ≤ 100000 := by omega
  have cl := fun wx => impl_leftAt (p + gapOf p) hz64 wx
  have hLA : 64 - ((p + gapOf p : Nat) : Int) % 64 = (roomOf p : Int) + 6 := by omega
  rw [hLA, show ((p + gapOf p : Nat) : Int) = (p : Int) + (gapOf p : Int) by omega] at cl
  have HFI : Hid (firstOf p r = if r.size ≤ roomOf p then frag 1 r else frag 2 (r.extract 0 (roomOf p)) ++ tl 138 (r.extract (roomOf p) r.size)) := rfl
  clear hLA m3 hz64
  go_enter Try.func24, Try.ntmps24
  go_wp2_with fail
  generalize w.alloc (.cells #[.pointer none, .slice none 0 0] 86) = W at hb0 hB0 ⊢
  refine (cg _).mono ?_
  rintro e w0 ⟨rfl, rfl⟩
  clear cg hp'
  generalize gapOf p = G at *
  generalize roomOf p = R at *
  go_wp2_with fail
  refine (lib_Repeat0 G W (by omega)).mono ?_
  rintro e w1 ⟨rfl, hb1⟩
  have hB1 := hB0.next hb1
  have hL1 := hb0.trans (hb1.mono hb0.size)
  have hzs := zeros_size G
  clear hb0 hB0 hb1
  go_wp2_with fail
  refine (bld_WriteString w.heap.size ⟨#[]⟩ (zeros G) w1 hB1 (by show 0 + _ ≤ _; omega)).mono ?_
  rintro e w2 ⟨rfl, hB2, hb2⟩
  rw [nil_app] at hB2
  have HB2 := hide hB2
  have HL2 := hide (hL1.trans hb2)
  clear hB1 hL1 hb2 hB2
  go_wp2_with fail
  refine (cl _).mono ?_
  rintro e w3 ⟨rfl, rfl⟩
  clear cl
  generalize zeros G = Z at *
  by_cases hfit : (r.size : Int) ≤ (R : Int)
  · have HV : Hid (writeLog at' r = Z ++ frag 1 r) := by show _ = _; rw [HT.out, HFI.out, if_pos (by omega)]
    clear HT HFI
    go_wp2_with fail
    refine (impl_writeFragment w.heap.size Z 1 (by decide) r (by omega) w2 HB2.out (by omega)).mono ?_
    rintro e w4 ⟨rfl, hB4, hb4⟩
    have HL4 := hide (HL2.out.trans hb4)
    have HB4 := hide hB4
    clear hB4 hb4 HB2 HL2
    go_wp2_with fail
    refine (bld_String w.heap.size _ w4 HB4.out).mono ?_
    rintro e w5 ⟨rfl, hb5⟩
    have HL5 := hide (HL4.out.trans hb5)
    clear hb5 HL4 HB4
    go_wp2
    go_ret
    exact ⟨ret_strW HV.out.symm, HL5.out⟩
  · have hR0 : (0 : Int) ≤ (R : Int) := by omega
    have hR1 : (R : Int) ≤ (r.size : Int) := by omega
    have HV : Hid (writeLog at' r = Z ++ frag 2 (r.extract 0 R) ++ tl 138 (r.extract R r.size)) := by show _ = _; rw [HT.out, HFI.out, if_neg (by omega), ByteArray.append_assoc]
    have zf : (r.extract 0 R).size = R := by simp; omega
    have zr : (r.extract R r.size).size = r.size - R := by simp
    have zg := frag_size 2 (r.extract 0 R)
    clear HT HFI
    go_wp2_with fail
    refine (impl_writeFragment w.heap.size Z 2 (by decide) (r.extract 0 R) (by omega) w2 HB2.out (by omega)).mono ?_
    rintro e w4 ⟨rfl, hB4, hb4⟩
    have HL4 := hide (HL2.out.trans hb4)
    have HB4 := hide hB4
    have hz4 : (Z ++ frag 2 (r.extract 0 R)).size + 100 * (r.extract R r.size).size ≤ 800200 := by rw [ByteArray.size_append]; omega
    have hf4 : (r.extract R r.size).size ≤ 58 * (138 + 1) := by omega
    clear hB4 hb4 HB2 HL2 zf zg
    generalize hacc : Z ++ frag 2 (r.extract 0 R) = acc at *
    generalize hrest : r.extract R r.size = rest at *
    clear hacc
    go_wp2
    clear zr
    go_loopw [9] (fun v wr => ∃ (f : Nat) (rest acc : ByteArray), v = .string rest ∧ rest.size ≤ 58 * (f + 1) ∧ acc.size + 100 * rest.size ≤ 800200 ∧ Hid (writeLog at' r = acc ++ tl f rest) ∧ Hid (Bld wr w.heap.size acc) ∧ Hid (Below w.heap.size w wr)) (fun v _ => strSz v)
    case atStart => exact ⟨138, rest, acc, rfl, hf4, hz4, HV, HB4, HL4⟩
    case round =>
      obtain ⟨f, rs, ac, rfl, hf, hza, HVr, HBr, HLr⟩ := hrel
      clear HV HB4 HL4
      by_cases hm : (58 : Int) < (rs.size : Int)
      · obtain ⟨f, rfl⟩ : ∃ f', f = f' + 1 := ⟨f - 1, by omega⟩
        have h58 : (58 : Int) ≤ (rs.size : Int) := by omega
        have HV2 : Hid (writeLog at' r = ac ++ frag 3 (rs.extract 0 58) ++ tl f (rs.extract 58 rs.size)) := by show _ = _; rw [HVr.out, tl_more f (by omega), ByteArray.append_assoc]
        have zf : (rs.extract 0 58).size = 58 := by simp; omega
        have zr : (rs.extract 58 rs.size).size = rs.size - 58 := by simp
        have zg := frag_size 3 (rs.extract 0 58)
        clear HVr
        go_wp2_with fail
        refine (impl_writeFragment w.heap.size ac 3 (by decide) (rs.extract 0 58) (by omega) wr HBr.out (by omega)).mono ?_
        rintro e w5 ⟨rfl, hB5, hb5⟩
        have HL5 := hide (HLr.out.trans hb5)
        have HB5 := hide hB5
        have hz5 : (ac ++ frag 3 (rs.extract 0 58)).size + 100 * (rs.extract 58 rs.size).size ≤ 800200 := by rw [ByteArray.size_append]; omega
        have hz6 : (rs.extract 58 rs.size).size ≤ 58 * (f + 1) := by omega
        have hz7 : (rs.extract 58 rs.size).size < rs.size := by omega
        clear hB5 hb5 HBr HLr zf zr zg
        go_wp2
        exact ⟨⟨f, _, _, rfl, hz6, hz5, HV2, HB5, HL5⟩, hz7⟩
      · have HV2 : Hid (writeLog at' r = ac ++ frag 4 rs) := by show _ = _; rw [HVr.out, tl_last f (by omega)]
        clear HVr
        go_wp2_with fail
        refine (impl_writeFragment w.heap.size ac 4 (by decide) rs (by omega) wr HBr.out (by omega)).mono ?_
        rintro e w5 ⟨rfl, hB5, hb5⟩
        have HL5 := hide (HLr.out.trans hb5)
        have HB5 := hide hB5
        clear hB5 hb5 HBr HLr
        go_wp2_with fail
        refine (bld_String w.heap.size _ w5 HB5.out).mono ?_
        rintro e w6 ⟨rfl, hb6⟩
        have HL6 := hide (HL5.out.trans hb6)
        clear hb6 HL5 HB5
        go_wp2
        go_ret
        exact ⟨ret_strW HV2.out.symm, HL6.out⟩

end Go.Proofs.Ytonkjdjancnajaa
