/- A number of at most 10 to the 12, and a section, as the model reads them. (By gen_readvs.py once.) -/
import Derived.Test.YtplemoedpdammaaVerP
import Derived.Test.YtplemoedpdammaaMgRegMark
namespace Go.Proofs.Ytplemoedpdammaa
set_option maxRecDepth 100000
open Go.RowKit Go.Deep

theorem crc_bdV (s : ByteArray) : 0 ≤ crc s ∧ crc s ≤ 4294967295 := by
  have h := cfold_bd s.data.toList 4294967295 (by omega) (by omega)
  unfold crc
  exact xor_u32_bd _ _ h.1 h.2 (by omega) (by omega)
theorem vB_le (s : ByteArray) : (vB s).size ≤ 60000 := by
  unfold vB
  cases h : rtx s with
  | none => rw [rtext_none h]; exact Nat.zero_le _
  | some x =>
    obtain ⟨k, e⟩ := x
    obtain ⟨m, rfl, h1, h2⟩ := rtx_some h
    rw [rtext_some h]
    simp only [ByteArray.size_extract]
    omega
theorem takeVar_noneV {s : ByteArray} (h : tva s 10 0 0 = none) : takeVar s = .tuple #[.int .u64 0, .string ⟨#[]⟩, .bool false] := by rw [takeVar, h]
theorem takeVar_someV {s : ByteArray} {n : Int} {k : Nat} (h : tva s 10 0 0 = some (n, k)) : takeVar s = .tuple #[.int .u64 n, .string (s.extract k s.size), .bool true] := by rw [takeVar, h]

set_option maxHeartbeats 1000000 in
theorem spec_l12Int (s : ByteArray) (hs : s.size ≤ 1048576) (w : World) :
    Calls Try.prog 66 #[.string s] w fun e w' => e = .returned (.tuple #[.int .i64 (li s).1, .string (li s).2.1, .bool (li s).2.2]) ∧ Below w.heap.size w w' := by
  have c := fun wx => spec_TakeVar s (by unfold maxLen; omega) wx
  cases hv : tva s 10 0 0 with
  | none =>
    rw [takeVar_noneV hv] at c
    rw [li_none hv]
    clear hv
    go_enter Try.func66, Try.ntmps66
    go_wp2_with fail
    refine (c _).mono ?_
    rintro e w1 ⟨rfl, hb⟩
    go_wp2
    go_ret3
    exact ⟨rfl, hb⟩
  | some x =>
    obtain ⟨n, k⟩ := x
    have h0 := (put_take s hv).1
    rw [takeVar_someV hv] at c
    by_cases hn : 1000000000000 < n
    · rw [li_big hv hn]
      clear hv
      go_enter Try.func66, Try.ntmps66
      go_wp2_with fail
      refine (c _).mono ?_
      rintro e w1 ⟨rfl, hb⟩
      go_wp2
      go_ret3
      exact ⟨rfl, hb⟩
    · rw [li_some hv hn]
      have hw : IntKind.i64.wrap n = n := by rw [IntKind.wrap_i64]; omega
      have hw2 : wrap64 n = n := by unfold wrap64; omega
      clear hv
      generalize s.extract k s.size = R at c ⊢
      go_enter Try.func66, Try.ntmps66
      go_wp2_with fail
      refine (c _).mono ?_
      rintro e w1 ⟨rfl, hb⟩
      go_wp2
      go_ret3
      exact ⟨rfl, hb⟩

set_option maxHeartbeats 1000000 in
theorem spec_l10Take (s : ByteArray) (hs : s.size ≤ 1048576) (w : World) :
    Calls Try.prog 65 #[.string s, .int .i64 0] w fun e w' => (∃ b ok, e = .returned (.tuple #[.string b, .bool ok]) ∧ (ok = true → b = vB s) ∧ (s = sect (vB s) → ok = true) ∧ b.size ≤ 60000) ∧ Below w.heap.size w w' := by
  have hB := vB_le s
  have hnn : ¬ ((s.size : Int) < 0) := by omega
  have hx0 : s.extract 0 s.size = s := ByteArray.extract_zero_size
  have ct := fun wx => spec_TakeText s hs wx
  rw [takeText_rtV s] at ct
  have hS : s = sect (vB s) → rtext s = (vB s, fx4 (crc (vB s)), false) := fun h => by
    have := rtext_putV (vB s) (fx4 (crc (vB s))) hB
    unfold sect at h
    rw [← h] at this
    exact this
  have hrz := (rtext_bd s).1
  have hV : Hid (vB s = (rtext s).1) := rfl
  cases hl : (rtext s).2.2 with
  | true =>
    have HN : Hid (s = sect (vB s) → false = true) := fun h => by have := hS h; rw [this] at hl; cases hl
    simp only [hl, Bool.not_true] at ct
    generalize (rtext s).1 = b at ct hV
    generalize (rtext s).2.1 = r at ct hrz
    have cf := fun wx => spec_TakeFixed r wx
    have HN2 := HN
    clear hS hl
    by_cases h4 : r.size < 4
    · rw [takeFixed, if_pos h4] at cf
      go_enter Try.func65, Try.ntmps65
      go_wp2_with fail
      refine (ct _).mono ?_
      rintro e w1 ⟨rfl, hb1⟩
      go_wp2_with fail
      refine (cf _).mono ?_
      rintro e w2 ⟨rfl, hb2⟩
      have HBB := hide (hb1.trans (hb2.mono hb1.size))
      clear ct cf hb1 hb2
      go_wp2
      go_ret2
      exact ⟨⟨_, _, rfl, fun h => Bool.noConfusion h, HN2.out, by decide⟩, HBB.out⟩
    · rw [takeFixed, if_neg h4] at cf
      go_enter Try.func65, Try.ntmps65
      go_wp2_with fail
      refine (ct _).mono ?_
      rintro e w1 ⟨rfl, hb1⟩
      go_wp2_with fail
      refine (cf _).mono ?_
      rintro e w2 ⟨rfl, hb2⟩
      have HBB := hide (hb1.trans (hb2.mono hb1.size))
      clear ct cf hb1 hb2
      go_wp2
      go_ret2
      exact ⟨⟨_, _, rfl, fun h => Bool.noConfusion h, HN2.out, by decide⟩, HBB.out⟩
  | false =>
    simp only [hl, Bool.not_false] at ct
    have HS : Hid (s = sect (vB s) → (rtext s).2.1 = fx4 (crc (vB s))) := fun h => by rw [hS h]
    rw [hV.out] at hB HS ⊢
    generalize (rtext s).1 = b at ct hB HS ⊢
    generalize (rtext s).2.1 = r at ct hrz HS
    have cf := fun wx => spec_TakeFixed r wx
    have cc := fun wx => spec_Crc b (by unfold maxLen; omega) wx
    have hcb := crc_bdV b
    clear hS hl hV
    by_cases h4 : r.size < 4
    · have HN : Hid (s = sect b → false = true) := fun h => by have := HS.out h; rw [this, fx4_size] at h4; omega
      rw [takeFixed, if_pos h4] at cf
      clear HS
      go_enter Try.func65, Try.ntmps65
      go_wp2_with fail
      refine (ct _).mono ?_
      rintro e w1 ⟨rfl, hb1⟩
      go_wp2_with fail
      refine (cf _).mono ?_
      rintro e w2 ⟨rfl, hb2⟩
      have HBB := hide (hb1.trans (hb2.mono hb1.size))
      clear ct cf cc hb1 hb2
      go_wp2
      go_ret2
      exact ⟨⟨_, _, rfl, fun h => Bool.noConfusion h, HN.out, by decide⟩, HBB.out⟩
    · rw [takeFixed, if_neg h4] at cf
      generalize r.extract 4 r.size = r2 at cf
      by_cases hc : tf4 r = crc b
      · clear HS
        rw [hc] at cf
        generalize crc b = c at *
        go_enter Try.func65, Try.ntmps65
        go_wp2_with fail
        refine (ct _).mono ?_
        rintro e w1 ⟨rfl, hb1⟩
        go_wp2_with fail
        refine (cf _).mono ?_
        rintro e w2 ⟨rfl, hb2⟩
        have HBB := hide (hb1.trans (hb2.mono hb1.size))
        clear ct cf hb1 hb2
        go_wp2_with fail
        refine (cc _).mono ?_
        rintro e w3 ⟨rfl, rfl⟩
        clear cc
        go_wp2
        go_ret2
        exact ⟨⟨_, _, rfl, fun _ => rfl, fun _ => rfl, hB⟩, HBB.out⟩
      · have HN : Hid (s = sect b → false = true) := fun h => by
          have := HS.out h
          rw [this] at hc
          have e := tf4_fx4 (crc b) hcb.1 (by omega) ⟨#[]⟩
          rw [append_nilV] at e
          exact absurd e hc
        clear HS
        generalize tf4 r = d at *
        generalize crc b = c at *
        go_enter Try.func65, Try.ntmps65
        go_wp2_with fail
        refine (ct _).mono ?_
        rintro e w1 ⟨rfl, hb1⟩
        go_wp2_with fail
        refine (cf _).mono ?_
        rintro e w2 ⟨rfl, hb2⟩
        have HBB := hide (hb1.trans (hb2.mono hb1.size))
        clear ct cf hb1 hb2
        go_wp2_with fail
        refine (cc _).mono ?_
        rintro e w3 ⟨rfl, rfl⟩
        clear cc
        go_wp2
        go_ret2
        exact ⟨⟨_, _, rfl, fun h => Bool.noConfusion h, HN.out, by decide⟩, HBB.out⟩

end Go.Proofs.Ytplemoedpdammaa
