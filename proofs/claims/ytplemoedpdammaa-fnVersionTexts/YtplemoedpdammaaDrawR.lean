/- What the law on the texts of versions draws: bytes. (By gen_drawr.py.) -/
import Derived.Test.YtplemoedpdammaaLPicked
import Derived.Test.YtplemoedpdammaaMgMkMetaMkBoxVersionEntRowBoxVerO
namespace Go.Proofs.Ytplemoedpdammaa
set_option maxRecDepth 100000
open Go.RowKit Go.Deep

theorem sect_le (s : ByteArray) : (sect s).size ≤ s.size + 20 := by
  have h1 := putTextV_size s
  unfold sect
  rw [ByteArray.size_append, fx4_size]
  omega
theorem versT_le (l : List Meta1) (x y z : Int) : (versT (vc l x y z)).size ≤ 70000 := by
  cases h : versB (vc l x y z) with
  | true =>
    obtain ⟨h1, h2, _⟩ := ver_put h rfl
    have h3 := sect_le (vB (versT (vc l x y z)))
    rw [← h1] at h3
    omega
  | false => unfold versT; rw [h]; exact Nat.zero_le _

set_option linter.unusedVariables false in
set_option linter.unusedSimpArgs false in
set_option maxHeartbeats 4000000 in
theorem draw_ReadVersion (W w : World) (a : Option Addr) (len cap : Nat) (hc : IsCode W a len) (hl : len ≤ 1048576) (hb : Below W.heap.size W w) :
    Calls Try.prog 27 #[.slice a len cap] w fun e w' => (∃ s : ByteArray, e = .returned (.string s) ∧ s.size ≤ 1048576) ∧ Below w.heap.size w w' := by
  go_enter Try.func27, Try.ntmps27
  go_wp2_with fail
  refine (open_rdO w a len cap W hb).mono ?_
  rintro e w1 ⟨rfl, hr, hb1⟩
  have hgl := hr.lt
  go_wp2_with fail
  refine (rd_version W _ _ a len cap hc hl hr).mono ?_
  rintro e w2 ⟨a1, c1, l, nx, sq, lg, rfl, ho, hll, hn0, hn1, hs0, hs1, hr2, hm2⟩
  have hlow2 := hb1.trans (hm2.below hb1.size (Nat.le_refl _))
  have cT := spec_VersionText (.agg #[.slice a1 l.length c1, .int .i64 nx, .int .i64 sq, .int .i64 lg]) (vc l nx sq lg) w2 (by show l.length ≤ 1048576; omega) (versionIs_own ho)
  have hsz := versT_le l nx sq lg
  generalize versT (vc l nx sq lg) = s at cT hsz
  clear hr hb1 hm2
  go_wp2_with fail
  refine cT.mono ?_
  rintro e w3 ⟨rfl, hb3⟩
  have hr3 := hr2.mv hb3
  have hlow3 := hlow2.trans (hb3.mono hlow2.size)
  clear hr2 hlow2 hb3 ho cT
  go_wp2_with fail
  refine (rd_below W _ _ a len cap 6 (by omega) (by omega) hc hl hr3).mono ?_
  rintro e w4 ⟨x, rfl, hx0, hx1, hr4, hm4⟩
  have hlow4 := hlow3.trans (hm4.below hlow3.size (Nat.le_refl _))
  clear hr3 hlow3 hm4
  by_cases e0 : x = 0
  · subst e0
    go_wp2_with fail
    refine (rd_bytes W _ _ a len cap 2 (by omega) (by omega) hc hl hr4).mono ?_
    rintro e w5 ⟨u, rfl, hu, hr5, hm5⟩
    have HL := hide (hlow4.trans (hm5.below hlow4.size (Nat.le_refl _)))
    clear hr4 hr5 hlow4 hm5
    have hz : (s ++ u).size ≤ 1048576 := by rw [ByteArray.size_append]; omega
    go_wp2
    go_ret
    exact ⟨⟨_, rfl, hz⟩, HL.out⟩
  · have g0 : (x == 0) = false := by simpa using e0
    by_cases e1 : x = 1
    · subst e1
      by_cases hs00 : 0 < s.size
      · have hsi : (0 : Int) < (s.size : Int) := by omega
        go_wp2_with fail
        refine (rd_below W _ _ a len cap (s.size : Int) (by omega) (by omega) hc hl hr4).mono ?_
        rintro e w5 ⟨k, rfl, hk0, hk1, hr5, hm5⟩
        obtain ⟨k, rfl⟩ := Int.eq_ofNat_of_zero_le hk0
        have RD := hr5
        have LO := hlow4.trans (hm5.below hlow4.size (Nat.le_refl _))
        have hkl : k < s.size := by omega
        have hk2 : (k : Int) ≤ (s.size : Int) := by omega
        have hk3 : (k : Int) + 1 ≤ (s.size : Int) := by omega
        have hwk : IntKind.i64.wrap ((k : Int) + 1) = ((k + 1 : Nat) : Int) := by rw [IntKind.wrap_i64]; omega
        clear hr4 hlow4 hr5 hm5
        go_upto_region 9 with fail
        refine wp_region_noPanic ?_
        have hb0 : Below w5.heap.size w5 w5.drew := (Below.refl _ _).drew
        have RD_0 := RD.mv hb0
        have LO_0 := LO.trans (hb0.mono LO.size)
        refine wp_region_held_drew (S := fun _ => True) (by kernel_rfl) trivial (fun hSz => ?_)
        clear hSz LO RD
        generalize w5.drew = wq0 at hb0 RD_0 LO_0 ⊢
        clear hb0
        refine wpAnyH_take (i := 0) (v := .string s) nat0 (by kernel_rfl) (by kernel_rfl) (by kernel_rfl) (fun _ _ _ h => False.elim h) (Or.inl ⟨by rfl, ?_⟩) trivial ?_
        · intro wx hSw
          go_simp
        simp only [Act.put, List.setIfInBounds_toArray, List.set_cons_zero, List.set_cons_succ]
        refine wpAnyH_take (i := 1) (v := .int .i64 ((k : Int))) nat1 (by kernel_rfl) (by kernel_rfl) (by kernel_rfl) (fun _ _ _ h => False.elim h) (Or.inl ⟨by rfl, ?_⟩) trivial ?_
        · intro wx hSw
          go_simp
        simp only [Act.put, List.setIfInBounds_toArray, List.set_cons_zero, List.set_cons_succ]
        refine wpAnyH_take (i := 2) (v := .string (s.extract 0 k)) nat2 (by kernel_rfl) (by kernel_rfl) (by kernel_rfl) (fun _ _ _ h => False.elim h) (Or.inl ⟨by rfl, ?_⟩) trivial ?_
        · intro wx hSw
          go_simp
        simp only [Act.put, List.setIfInBounds_toArray, List.set_cons_zero, List.set_cons_succ]
        refine wpAnyH_take (i := 3) (v := .pointer (some ⟨w.heap.size, 0, none⟩)) nat3 (by kernel_rfl) (by kernel_rfl) (by kernel_rfl) (fun _ _ _ h => False.elim h) (Or.inl ⟨by rfl, ?_⟩) trivial ?_
        · intro wx hSw
          go_simp
        simp only [Act.put, List.setIfInBounds_toArray, List.set_cons_zero, List.set_cons_succ]
        refine wpAnyH_take (i := 6) (v := .string s) nat6 (by kernel_rfl) (by kernel_rfl) (by kernel_rfl) (fun _ _ _ h => False.elim h) (Or.inl ⟨by rfl, ?_⟩) trivial ?_
        · intro wx hSw
          go_simp
        simp only [Act.put, List.setIfInBounds_toArray, List.set_cons_zero, List.set_cons_succ]
        refine wpAnyH_take (i := 7) (v := .int .i64 ((k : Int))) nat7 (by kernel_rfl) (by kernel_rfl) (by kernel_rfl) (fun _ _ _ h => False.elim h) (Or.inl ⟨by rfl, ?_⟩) trivial ?_
        · intro wx hSw
          go_simp
        simp only [Act.put, List.setIfInBounds_toArray, List.set_cons_zero, List.set_cons_succ]
        refine wpAnyH_take (i := 8) (v := .int .i64 (((k + 1 : Nat) : Int))) nat8 (by kernel_rfl) (by kernel_rfl) (by kernel_rfl) (fun _ _ _ h => False.elim h) (Or.inl ⟨by rfl, ?_⟩) trivial ?_
        · intro wx hSw
          go_simp
        simp only [Act.put, List.setIfInBounds_toArray, List.set_cons_zero, List.set_cons_succ]
        refine wpAnyH_take (i := 9) (v := .string (s.extract (k + 1) s.size)) nat9 (by kernel_rfl) (by kernel_rfl) (by kernel_rfl) (fun _ _ _ h => False.elim h) (Or.inl ⟨by rfl, ?_⟩) trivial ?_
        · intro wx hSw
          go_simp
          intro hh
          omega
        simp only [Act.put, List.setIfInBounds_toArray, List.set_cons_zero, List.set_cons_succ]
        refine wpAnyH_ready (rs := [4]) (by kernel_rfl) (by simp) ?_
        refine AllReadyH.cons nat4 (fun K hK => ?_) AllReadyH.nil
        go_simp
        go_at_call 64
        refine (rd_bytes W _ _ a len cap 1 (by omega) (by omega) hc hl RD_0).mono ?_
        rintro e wq1 ⟨u1, rfl, hu1, hr1, hb1⟩
        have hz1 : (s.extract 0 k ++ u1 ++ s.extract (k + 1) s.size).size ≤ 1048576 := by simp only [ByteArray.size_append, ByteArray.size_extract]; omega
        have hy1 : (s.extract 0 k).size + u1.size ≤ 1048576 := by simp only [ByteArray.size_extract]; omega
        have hx1 : (s.extract 0 k).size + u1.size + (s.extract (k + 1) s.size).size ≤ 1048576 := by simp only [ByteArray.size_extract]; omega
        have RD_1 := hr1
        have LO_1 := LO_0.trans (hb1.below LO_0.size (Nat.le_refl _))
        refine hK.out _ _ trivial (fun hSz => ?_)
        clear hK K hSz LO_0 RD_0 hb1
        refine wpAnyH_take (i := 5) (v := .string (s.extract 0 k ++ u1)) nat5 (by kernel_rfl) (by kernel_rfl) (by kernel_rfl) (fun _ _ _ h => False.elim h) (Or.inl ⟨by rfl, ?_⟩) trivial ?_
        · intro wx hSw
          go_simp
          omega
        simp only [Act.put, List.setIfInBounds_toArray, List.set_cons_zero, List.set_cons_succ]
        refine wpAnyH_take (i := 10) (v := .string (s.extract 0 k ++ u1 ++ s.extract (k + 1) s.size)) nat10 (by kernel_rfl) (by kernel_rfl) (by kernel_rfl) (fun _ _ _ h => False.elim h) (Or.inl ⟨by rfl, ?_⟩) trivial ?_
        · intro wx hSw
          go_simp
          omega
        simp only [Act.put, List.setIfInBounds_toArray, List.set_cons_zero, List.set_cons_succ]
        refine wpAnyH_take (i := 11) (v := .string (s.extract 0 k ++ u1 ++ s.extract (k + 1) s.size)) nat11 (by kernel_rfl) (by kernel_rfl) (by kernel_rfl) (fun _ _ _ h => False.elim h) (Or.inl ⟨by rfl, ?_⟩) trivial ?_
        · intro wx hSw
          go_simp
        simp only [Act.put, List.setIfInBounds_toArray, List.set_cons_zero, List.set_cons_succ]
        refine wpAnyH_done (by kernel_rfl) ?_ _
        refine NoPanic.normal ?_
        go_wp2
        go_ret
        exact ⟨⟨_, rfl, hz1⟩, LO_1⟩
      · have hsi : ¬ ((0 : Int) < (s.size : Int)) := by omega
        have HL := hide hlow4
        clear hr4 hlow4
        go_wp2
        go_ret
        exact ⟨⟨_, rfl, by omega⟩, HL.out⟩
    · have g1 : (x == 1) = false := by simpa using e1
      by_cases e2 : x = 2
      · subst e2
        go_wp2_with fail
        refine (rd_bytes W _ _ a len cap 9 (by omega) (by omega) hc hl hr4).mono ?_
        rintro e w5 ⟨u, rfl, hu, hr5, hm5⟩
        have LO := hlow4.trans (hm5.below hlow4.size (Nat.le_refl _))
        have hsl := sect_le u
        clear hr4 hr5 hlow4 hm5
        go_wp2_with fail
        refine (spec_section u (by omega) w5).mono ?_
        rintro e w6 ⟨rfl, hb6⟩
        have HL := hide (LO.trans (hb6.mono LO.size))
        clear LO hb6
        go_wp2
        go_ret
        exact ⟨⟨_, rfl, by omega⟩, HL.out⟩
      · have g2 : (x == 2) = false := by simpa using e2
        have HL := hide hlow4
        clear hr4 hlow4
        go_wp2
        go_ret
        exact ⟨⟨_, rfl, by omega⟩, HL.out⟩

end Go.Proofs.Ytplemoedpdammaa
