/- The law FnBloomMore, walked. -/
import Derived.Test.YtkopoonkedcpmacDrawMay
namespace Go.Proofs.Ytkopoonkedcpmac
open Go.RowKit Go.Deep

theorem usersB_frontB {S : Nat → ByteArray} {n k : Nat} (h : usersB S n = true) (hk : k ≤ n) : usersB S k = true := by
  obtain ⟨h1, h2⟩ := usersB_out h
  exact usersB_yes (by omega) fun i hi => h2 i (by omega)
theorem StrAt.frontB {w : World} {B : Nat} {a : Option Addr} {n k : Nat} {S : Nat → ByteArray} (h : StrAt w B a n S) (hk : k ≤ n) : StrAt w B a k S := by
  rcases h with h | ⟨b, off, e, hB, hc⟩
  · exact .inl (by omega)
  · exact .inr ⟨b, off, e, hB, fun i hi => hc i (by omega)⟩

set_option maxHeartbeats 4000000 in
set_option maxRecDepth 100000 in
theorem walk_FnBloomMore (v : Value) {w : World} (hv : IsBytes w v) (_w : World) :
    Calls Try.prog 5 #[v] w fun e w' => e = .returned (.bool true) ∧ Below w.heap.size w w' := by
  obtain ⟨a, len, cap, rfl, hc, hm⟩ := hv
  by_cases hbig : 1048576 < len
  · have hd : decide (1048576 < len) = true := by simp [hbig]
    go_enter Try.func5, Try.ntmps5
    go_wp2_with fail
    refine (laws_bigB a len cap hm _).mono ?_
    rintro e w1 ⟨rfl, rfl⟩
    go_wp2
    go_ret
    exact ⟨rfl, Below.refl _ _⟩
  · have hd : decide (1048576 < len) = false := by simp [hbig]
    have hl : len ≤ 1048576 := by omega
    go_enter Try.func5, Try.ntmps5
    go_wp2_with fail
    refine (laws_bigB a len cap hm _).mono ?_
    rintro e w1 ⟨rfl, rfl⟩
    go_wp2_with fail
    refine (draw_BloomOf w _ a len cap hc hl (Below.refl _ _)).mono ?_
    rintro e w1 ⟨va, n, vc, S, per, rfl, hn, hp0, hp1, hS, hcap, hform, hB1⟩
    have HB1 := hide hB1
    have HS := hide hS
    clear hB1 hS hform hbig hd
    go_wp2_with fail
    refine (draw_BloomMay w _ a len cap hc hl HB1.out).mono ?_
    rintro e w2 ⟨mk, ms, mp, mb, u, rfl, hu4, hb2⟩
    have HB2 := hide (HB1.out.trans (hb2.mono HB1.out.size))
    have HS2 := hide (HS.out.keep hb2)
    clear hb2 HB1 HS hc
    obtain ⟨k, hk⟩ : ∃ k, len % (n + 1) = k := ⟨_, rfl⟩
    have hkn : k ≤ n := by have := Nat.mod_lt len (show 0 < n + 1 by omega); omega
    have hkI : (len : Int) % ((n : Int) + 1) = (k : Int) := by rw [← hk]; simp
    clear hk
    have hb3 := (Below.refl w2.heap.size w2).alloc (Nat.le_refl _) (.cells #[.int .i64 mk, .int .i64 ms, .int .i64 mp, .string mb] 25)
    have HB3 := hide (HB2.out.trans (hb3.mono HB2.out.size))
    have HS3 := hide (HS2.out.keep hb3)
    clear hb3 HB2 HS2
    by_cases hy : usersB S n = true ∧ 1 ≤ per ∧ per ≤ 20
    · obtain ⟨hu, hq0, hq1⟩ := hy
      obtain ⟨P, rfl⟩ := Int.eq_ofNat_of_zero_le (show 0 ≤ per by omega)
      have hP1 : 1 ≤ P := by omega
      have hP2 : P ≤ 20 := by omega
      have hV := bloomV_yes hu hP1 hP2
      have hVk := bloomV_yes (usersB_frontB hu hkn) hP1 hP2
      have hmore := hide (bloomMay_more S k n P u (by omega) hP2 hkn)
      have hsz := bloomBits_size S n P
      have hszk := bloomBits_size S k P
      have hbd := sizeB_bd (len := n) (per := P) (by omega) hP2
      have hbdk := sizeB_bd (len := k) (per := P) (by omega) hP2
      rw [← hsz] at hbd
      rw [← hszk] at hbdk
      rw [← hsz, ← hszk] at hmore
      generalize bloomBits S n P = bb at *
      generalize bloomBits S k P = bk at *
      obtain ⟨pr, hpe⟩ : ∃ pr : Int, ((probesB P : Nat) : Int) = pr := ⟨_, rfl⟩
      rw [hpe] at hV hVk hmore
      have ci := fun (wx : World) (hs : StrAt wx wx.heap.size va n S) => hV ▸ impl_BloomOf va n vc S P wx (by omega) hs
      have ck := fun (wx : World) (hs : StrAt wx wx.heap.size va k S) => hVk ▸ impl_BloomOf va k vc S P wx (by omega) hs
      have cs := fun (wx : World) (hs : StrAt wx wx.heap.size va n S) => hV ▸ spec_BloomOf va n vc S P wx (by omega) hs
      have hu' : u.size ≤ maxLen := by unfold maxLen; omega
      have hbb : bb.size ≤ maxLen := by unfold maxLen; omega
      have hbk : bk.size ≤ maxLen := by unfold maxLen; omega
      clear hV hVk hu hsz hszk hpe
      go_wp2_with fail
      refine (ci _ HS3.out).mono ?_
      rintro e w4 ⟨rfl, hb4⟩
      have HB4 := hide (HB3.out.trans (hb4.mono HB3.out.size))
      have HS4 := hide (HS3.out.keep hb4)
      clear hb4 ci HB3 HS3
      go_wp2_with fail
      obtain ⟨W5, hW5⟩ : ∃ W5, w4.alloc (.cells #[.int .i64 1, .int .i64 0, .int .i64 pr, .string bb] 25) = W5 := ⟨_, rfl⟩
      have hF5 : FAt W5 w4.heap.size 1 0 pr bb := by rw [← hW5]; exact FAt.new w4 1 0 pr bb
      have hb5 : Below w4.heap.size w4 W5 := by rw [← hW5]; exact (Below.refl _ _).alloc (Nat.le_refl _) _
      rw [hW5]
      have HB5 := hide (HB4.out.trans (hb5.mono HB4.out.size))
      have HS5 := hide (HS4.out.keep hb5)
      have HF5 := hide hF5
      clear hb5 hF5 hW5 HB4 HS4
      refine (ck _ (HS5.out.frontB hkn)).mono ?_
      rintro e w6 ⟨rfl, hb6⟩
      have HB6 := hide (HB5.out.trans (hb6.mono HB5.out.size))
      have HS6 := hide (HS5.out.keep hb6)
      have HF6 := hide (HF5.out.below hb6)
      clear hb6 ck HB5 HS5 HF5
      go_wp2_with fail
      obtain ⟨W7, hW7⟩ : ∃ W7, w6.alloc (.cells #[.int .i64 1, .int .i64 0, .int .i64 pr, .string bk] 25) = W7 := ⟨_, rfl⟩
      have hF7 : FAt W7 w6.heap.size 1 0 pr bk := by rw [← hW7]; exact FAt.new w6 1 0 pr bk
      have hb7 : Below w6.heap.size w6 W7 := by rw [← hW7]; exact (Below.refl _ _).alloc (Nat.le_refl _) _
      rw [hW7]
      have HB7 := hide (HB6.out.trans (hb7.mono HB6.out.size))
      have HS7 := hide (HS6.out.keep hb7)
      have HF7 := hide (HF6.out.below hb7)
      have HG7 := hide hF7
      clear hb7 hF7 hW7 HB6 HS6 HF6
      refine (cs _ HS7.out).mono ?_
      rintro e w8 ⟨rfl, hb8⟩
      have hb9 := hb8.trans (((Below.refl w8.heap.size w8).alloc (Nat.le_refl _) (.cells #[.int .i64 1, .int .i64 0, .int .i64 pr, .string bb] 25)).mono hb8.size)
      have HB9 := hide (HB7.out.trans (hb9.mono HB7.out.size))
      have HF9 := hide (HF7.out.below hb9)
      have HG9 := hide (HG7.out.below hb9)
      have hF8 := HF7.out.below hb8
      have hG8 := HG7.out.below hb8
      obtain ⟨hc0, hc1, hc2, hc3⟩ := hF8.cells
      obtain ⟨hd0, hd1, hd2, hd3⟩ := hG8.cells
      have hlt9 := hF8.lt
      have hlt9g := hG8.lt
      clear hb8 hb9 cs HB7 HS7 HF7 HG7 hF8 hG8
      by_cases hz : bb.size = bk.size
      · have hzI : (bb.size : Int) = (bk.size : Int) := by omega
        cases hmk : bloomMayB 1 0 pr bk u with
        | false =>
          have cg := fun wx => hmk ▸ impl_BloomMay 1 0 pr bk u hbk hu' wx
          clear hmk hmore
          go_wp2_with fail
          refine (cg _).mono ?_
          rintro e w10 ⟨rfl, hb10⟩
          have HB10 := hide (HB9.out.trans (hb10.mono HB9.out.size))
          clear hb10 cg HB9 HF9 HG9 hc0 hc1 hc2 hc3 hd0 hd1 hd2 hd3
          go_wp2
          go_ret
          exact ⟨rfl, HB10.out⟩
        | true =>
          have cg := fun wx => hmk ▸ impl_BloomMay 1 0 pr bk u hbk hu' wx
          have hmf := hmore.out hz hmk
          have cf := fun wx => hmf ▸ impl_BloomMay 1 0 pr bb u hbb hu' wx
          clear hmk hmf hmore
          go_wp2_with fail
          refine (cg _).mono ?_
          rintro e w10 ⟨rfl, hb10⟩
          have HB10 := hide (HB9.out.trans (hb10.mono HB9.out.size))
          obtain ⟨he0, he1, he2, he3⟩ := (HF9.out.below hb10).cells
          clear hb10 cg HB9 HF9 HG9 hc0 hc1 hc2 hc3 hd0 hd1 hd2 hd3
          go_wp2_with fail
          refine (cf _).mono ?_
          rintro e w11 ⟨rfl, hb11⟩
          have HB11 := hide (HB10.out.trans (hb11.mono HB10.out.size))
          clear hb11 cf HB10 he0 he1 he2 he3
          go_wp2
          go_ret
          exact ⟨rfl, HB11.out⟩
      · have hzI : ¬ ((bb.size : Int) = (bk.size : Int)) := by omega
        clear hz
        go_wp2
        go_ret
        exact ⟨rfl, HB9.out⟩
    · have hV := bloomV_no hy
      unfold badB at hV
      have ci := fun (wx : World) (hs : StrAt wx wx.heap.size va n S) => hV ▸ impl_BloomOf va n vc S per wx (by omega) hs
      have cs := fun (wx : World) (hs : StrAt wx wx.heap.size va n S) => hV ▸ spec_BloomOf va n vc S per wx (by omega) hs
      obtain ⟨fk, fs, fp, fb, ok, hfo⟩ := bloomV_form S k per
      have ck := fun (wx : World) (hs : StrAt wx wx.heap.size va k S) => hfo ▸ impl_BloomOf va k vc S per wx (by omega) hs
      clear hV hy hfo
      go_wp2_with fail
      refine (ci _ HS3.out).mono ?_
      rintro e w4 ⟨rfl, hb4⟩
      have hb5 := hb4.trans (((Below.refl w4.heap.size w4).alloc (Nat.le_refl _) (.cells #[.int .i64 0, .int .i64 0, .int .i64 0, .string ⟨#[]⟩] 25)).mono hb4.size)
      have HB5 := hide (HB3.out.trans (hb5.mono HB3.out.size))
      have HS5 := hide (HS3.out.keep hb5)
      clear hb4 hb5 ci HB3 HS3
      go_wp2_with fail
      refine (ck _ (HS5.out.frontB hkn)).mono ?_
      rintro e w6 ⟨rfl, hb6⟩
      have hb7 := hb6.trans (((Below.refl w6.heap.size w6).alloc (Nat.le_refl _) (.cells #[.int .i64 fk, .int .i64 fs, .int .i64 fp, .string fb] 25)).mono hb6.size)
      have HB7 := hide (HB5.out.trans (hb7.mono HB5.out.size))
      have HS7 := hide (HS5.out.keep hb7)
      clear hb6 hb7 ck HB5 HS5
      go_wp2_with fail
      refine (cs _ HS7.out).mono ?_
      rintro e w8 ⟨rfl, hb8⟩
      have HB8 := hide (HB7.out.trans (hb8.mono HB7.out.size))
      clear hb8 HB7 HS7
      go_wp2
      go_ret
      exact ⟨rfl, HB8.out.alloc HB8.out.size _⟩

end Go.Proofs.Ytkopoonkedcpmac
