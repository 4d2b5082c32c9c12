/- The law FnBlooms, walked. -/
import Derived.Test.YtkopoonkedcpmacBlooms
import Derived.Test.YtkopoonkedcpmacDrawBloom
import Derived.Test.YtkopoonkedcpmacNth
import Derived.Deep.RegionHeld3
namespace Go.Proofs.Ytkopoonkedcpmac
open Go.RowKit Go.Deep

/-- A filter in a box, as it lies. -/
abbrev fCells (kd sd pr : Int) (bs : ByteArray) : Array Value := #[.int .i64 kd, .int .i64 sd, .int .i64 pr, .string bs]
def FAt (w : World) (F : Nat) (kd sd pr : Int) (bs : ByteArray) : Prop := w.heap[F]? = some (.cells (fCells kd sd pr bs) 25)
theorem FAt.new (w : World) (kd sd pr : Int) (bs : ByteArray) : FAt (w.alloc (.cells (fCells kd sd pr bs) 25)) w.heap.size kd sd pr bs := heap_alloc_new w _
theorem FAt.lt {w : World} {F : Nat} {kd sd pr : Int} {bs : ByteArray} (h : FAt w F kd sd pr bs) : F < w.heap.size := (Array.getElem?_eq_some_iff.1 h).1
theorem FAt.below {w w' : World} {F : Nat} {kd sd pr : Int} {bs : ByteArray} (h : FAt w F kd sd pr bs) (hb : Below w.heap.size w w') : FAt w' F kd sd pr bs := (hb.block F h.lt).trans h
theorem FAt.cells {w : World} {F : Nat} {kd sd pr : Int} {bs : ByteArray} (h : FAt w F kd sd pr bs) : w.cell? ⟨F, 0, none⟩ = some (.int .i64 kd) ∧ w.cell? ⟨F, 1, none⟩ = some (.int .i64 sd) ∧ w.cell? ⟨F, 2, none⟩ = some (.int .i64 pr) ∧ w.cell? ⟨F, 3, none⟩ = some (.string bs) :=
  ⟨cell_of_row _ _ _ _ _ _ h, cell_of_row _ _ _ _ _ _ h, cell_of_row _ _ _ _ _ _ h, cell_of_row _ _ _ _ _ _ h⟩

theorem filter_size (kd sd pr : Int) (bs : ByteArray) : (Try.prog.info? 25).map (·.size) = some (fCells kd sd pr bs).size := by
  have h : (Try.prog.info? 25).map (·.size) = some 4 := by kernel_rfl
  exact h

theorem blo_kept {W : World} {F g k n : Nat} {pr : Int} {bs s : ByteArray} {S : Nat → ByteArray} {va : Option Addr} (a b : World)
    (h : FAt a F 1 0 pr bs ∧ a.cell? ⟨g, k, none⟩ = some (.string s) ∧ Hid (Below W.heap.size W a ∧ StrAt a a.heap.size va n S ∧ g < a.heap.size)) (hb : Below a.heap.size a b) :
    FAt b F 1 0 pr bs ∧ b.cell? ⟨g, k, none⟩ = some (.string s) ∧ Hid (Below W.heap.size W b ∧ StrAt b b.heap.size va n S ∧ g < b.heap.size) :=
  ⟨h.1.below hb, (hb.cell (p := ⟨g, k, none⟩) h.2.2.out.2.2).trans h.2.1, h.2.2.out.1.trans (hb.mono h.2.2.out.1.size), (h.2.2.out.2.1.below hb).mono hb.size, by have := h.2.2.out.2.2; have := hb.size; omega⟩

theorem StrAt.keep {w w' : World} {a : Option Addr} {n : Nat} {S : Nat → ByteArray} (h : StrAt w w.heap.size a n S) (hb : Below w.heap.size w w') : StrAt w' w'.heap.size a n S := (h.below hb).mono hb.size

set_option maxHeartbeats 4000000 in
set_option maxRecDepth 100000 in
theorem walk_FnBlooms (v : Value) {w : World} (hv : IsBytes w v) (_w : World) :
    Calls Try.prog 4 #[v] w fun e w' => e = .returned (.bool true) ∧ Below w.heap.size w w' := by
  obtain ⟨a, len, cap, rfl, hc, hm⟩ := hv
  by_cases hbig : 1048576 < len
  · have hd : decide (1048576 < len) = true := by simp [hbig]
    go_enter Try.func4, Try.ntmps4
    go_wp2_with fail
    refine (laws_bigB a len cap hm _).mono ?_
    rintro e w1 ⟨rfl, rfl⟩
    go_wp2
    go_ret
    exact ⟨rfl, Below.refl _ _⟩
  · have hd : decide (1048576 < len) = false := by simp [hbig]
    have hl : len ≤ 1048576 := by omega
    go_enter Try.func4, Try.ntmps4
    go_wp2_with fail
    refine (laws_bigB a len cap hm _).mono ?_
    rintro e w1 ⟨rfl, rfl⟩
    go_wp2_with fail
    refine (draw_BloomOf w _ a len cap hc hl (Below.refl _ _)).mono ?_
    rintro e w1 ⟨va, n, vc, S, per, rfl, hn, hp0, hp1, hS, hcap, hform, hB1⟩
    have HB1 := hide hB1
    have HS := hide hS
    have HF := hide hform
    clear hbig hc hm hd hB1 hS hform
    by_cases hy : usersB S n = true ∧ 1 ≤ per ∧ per ≤ 20
    · obtain ⟨hu, hq0, hq1⟩ := hy
      obtain ⟨P, rfl⟩ := Int.eq_ofNat_of_zero_le (show 0 ≤ per by omega)
      have hP1 : 1 ≤ P := by omega
      have hP2 : P ≤ 20 := by omega
      have hV := bloomV_yes hu hP1 hP2
      have hmay := hide (fun i (hi : i < n) => bloomMay_bloom S n P i (by omega) hP2 hi)
      have hok := filterOk_bloom S n P (by omega) hP2
      have hsz := bloomBits_size S n P
      have hen := sizeB_enough n P
      have hbd := sizeB_bd (len := n) (per := P) (by omega) hP2
      have hu44 := hide (usersB_out hu).2
      rw [← hsz] at hen hbd
      generalize bloomBits S n P = bb at *
      have hpr := probesB_bd P
      obtain ⟨pr, hpe⟩ : ∃ pr : Int, ((probesB P : Nat) : Int) = pr := ⟨_, rfl⟩
      rw [hpe] at hV hok hmay
      have ci := fun (wx : World) (hs : StrAt wx wx.heap.size va n S) => hV ▸ impl_BloomOf va n vc S P wx (by omega) hs
      have cs := fun (wx : World) (hs : StrAt wx wx.heap.size va n S) => hV ▸ spec_BloomOf va n vc S P wx (by omega) hs
      clear hV hu hsz hpe hpr
      go_wp2_with fail
      refine (ci _ HS.out).mono ?_
      rintro e w2 ⟨rfl, hb2⟩
      have HB2 := hide (HB1.out.trans (hb2.mono HB1.out.size))
      have HS2 := hide (HS.out.keep hb2)
      clear hb2 ci HB1 HS
      go_wp2_with fail
      obtain ⟨W3, hW3⟩ : ∃ W3, w2.alloc (.cells #[.int .i64 1, .int .i64 0, .int .i64 pr, .string bb] 25) = W3 := ⟨_, rfl⟩
      have hF3 : FAt W3 w2.heap.size 1 0 pr bb := by rw [← hW3]; exact FAt.new w2 1 0 pr bb
      have hb3 : Below w2.heap.size w2 W3 := by rw [← hW3]; exact (Below.refl _ _).alloc (Nat.le_refl _) _
      rw [hW3]
      have HB3 := hide (HB2.out.trans (hb3.mono HB2.out.size))
      have HS3 := hide (HS2.out.keep hb3)
      have HF3 := hide hF3
      clear hb3 hF3 hW3 HB2 HS2
      refine (cs _ HS3.out).mono ?_
      rintro e w4 ⟨rfl, hb4⟩
      have HB4 := hide (HB3.out.trans (hb4.mono HB3.out.size))
      have HS4 := hide (HS3.out.keep hb4)
      have HF4 := hide (HF3.out.below hb4)
      clear hb4 cs HB3 HS3 HF3
      obtain ⟨hc0, hc1, hc2, hc3⟩ := HF4.out.cells
      have hlt4 := HF4.out.lt
      have HB5 := hide (HB4.out.alloc HB4.out.size (.cells #[.int .i64 1, .int .i64 0, .int .i64 pr, .string bb] 25))
      have HS5 := hide (HS4.out.keep ((Below.refl w4.heap.size w4).alloc (Nat.le_refl _) (.cells #[.int .i64 1, .int .i64 0, .int .i64 pr, .string bb] 25)))
      have HF5 := hide (HF4.out.below ((Below.refl w4.heap.size w4).alloc (Nat.le_refl _) (.cells #[.int .i64 1, .int .i64 0, .int .i64 pr, .string bb] 25)))
      go_wp2
      generalize w4.alloc (.cells #[.int .i64 1, .int .i64 0, .int .i64 pr, .string bb] 25) = W5 at HB5 HS5 HF5 ⊢
      clear hc0 hc1 hc2 hc3 hlt4 HB4 HS4 HF4
      obtain ⟨z, hz⟩ : ∃ z : Nat, n * P = z := ⟨_, rfl⟩
      have hzI : (n : Int) * (P : Int) = (z : Int) := by rw [← hz]; simp
      have hz300 : z ≤ 300 := by rw [← hz]; exact Nat.le_trans (Nat.mul_le_mul hn hP2) (by omega)
      have hen2 : z ≤ 8 * bb.size := by rw [← hz, Nat.mul_comm]; exact hen
      clear hen hz
      go_loopw [9] (fun i wr => ∃ k : Nat, i = .int .i64 k ∧ k ≤ n ∧ Hid (Below w.heap.size w wr) ∧ Hid (StrAt wr wr.heap.size va n S) ∧ Hid (FAt wr w2.heap.size 1 0 pr bb)) (fun i _ => n - (intOf i).toNat)
      case atStart => exact ⟨0, rfl, by omega, HB5, HS5, HF5⟩
      case round =>
        obtain ⟨k, rfl, hk, HB, HS, HX⟩ := hrel
        clear HB5 HS5 HF5
        by_cases hlt : k < n
        · obtain ⟨g, rfl⟩ : ∃ g, va = some ⟨g, 0, none⟩ := by
            rcases HF.out with ⟨_, h0⟩ | h
            · omega
            · exact h
          rcases HS.out with h0 | ⟨b, off, e, hB, hcs⟩
          · omega
          obtain ⟨rfl, rfl⟩ : g = b ∧ 0 = off := by injection e with e; injection e; exact ⟨by assumption, by assumption⟩
          have hck := hcs k hlt
          rw [Nat.zero_add] at hck
          clear hcs e
          have hkn : (k : Int) < (n : Int) := by omega
          have hmk := hmay.out k hlt
          have hsk := hu44.out k hlt
          have hsk' : (S k).size ≤ maxLen := by unfold userB at hsk; unfold maxLen; have := of_decide_eq_true hsk; omega
          have hbb : bb.size ≤ maxLen := by unfold maxLen; omega
          have cm := fun wx => hmk ▸ impl_BloomMay 1 0 pr bb (S k) hbb hsk' wx
          go_wp2_with fail
          have hstart : FAt wr.drew w2.heap.size 1 0 pr bb ∧ wr.drew.cell? ⟨g, k, none⟩ = some (.string (S k)) ∧ Hid (Below w.heap.size w wr.drew ∧ StrAt wr.drew wr.drew.heap.size (some ⟨g, 0, none⟩) n S ∧ g < wr.drew.heap.size) :=
            ⟨HX.out, hck, HB.out.drew, HS.out, hB⟩
          clear hck HB HX HS hB hmk hsk hsk'
          refine wp_region_noPanic ?_
          refine wp_region_held_drew (S := (fun (w' : World) => FAt w' w2.heap.size 1 0 pr bb ∧ w'.cell? ⟨g, k, none⟩ = some (.string (S k)) ∧ Hid (Below w.heap.size w w' ∧ StrAt w' w'.heap.size (some ⟨g, 0, none⟩) n S ∧ g < w'.heap.size))) (by kernel_rfl) hstart (fun hH => ?_)
          clear hstart
          refine wpAnyH_take (i := 0) (v := .agg (fCells 1 0 pr bb)) nat0 (by kernel_rfl) (by kernel_rfl) (by kernel_rfl) (fun _ _ _ h => False.elim h) (Or.inl ⟨by rfl, ?_⟩) hH ?_
          · intro wx hSw
            exact exec_load_row wx _ _ 25 _ rfl w2.heap.size rfl 25 (fCells 1 0 pr bb) (0, 0) _ hSw.1 Try.underlying25 rfl (filter_size 1 0 pr bb)
          simp only [Act.put, List.setIfInBounds_toArray, List.set_cons_zero, List.set_cons_succ]
          refine wpAnyH_take (i := 1) (v := .slice (some ⟨g, 0, none⟩) n vc) nat1 (by kernel_rfl) (by kernel_rfl) (by kernel_rfl) (fun _ _ _ h => False.elim h) (Or.inl ⟨by rfl, ?_⟩) hH ?_
          · intro wx hSw
            go_simp
          simp only [Act.put, List.setIfInBounds_toArray, List.set_cons_zero, List.set_cons_succ]
          refine wpAnyH_take (i := 2) (v := .int .i64 k) nat2 (by kernel_rfl) (by kernel_rfl) (by kernel_rfl) (fun _ _ _ h => False.elim h) (Or.inl ⟨by rfl, ?_⟩) hH ?_
          · intro wx hSw
            go_simp
          simp only [Act.put, List.setIfInBounds_toArray, List.set_cons_zero, List.set_cons_succ]
          refine wpAnyH_take (i := 3) (v := .pointer (some ⟨g, k, none⟩)) nat3 (by kernel_rfl) (by kernel_rfl) (by kernel_rfl) (fun _ _ _ h => False.elim h) (Or.inl ⟨by rfl, ?_⟩) hH ?_
          · intro wx hSw
            go_simp
          simp only [Act.put, List.setIfInBounds_toArray, List.set_cons_zero, List.set_cons_succ]
          refine wpAnyH_take (i := 4) (v := .string (S k)) nat4 (by kernel_rfl) (by kernel_rfl) (by kernel_rfl) (fun _ _ _ h => False.elim h) (Or.inl ⟨by rfl, ?_⟩) hH ?_
          · intro wx hSw
            have hcc := hSw.2.1
            go_simp
          simp only [Act.put, List.setIfInBounds_toArray, List.set_cons_zero, List.set_cons_succ]
          refine wpAnyH_ready (rs := [5]) (by kernel_rfl) (by simp) ?_
          refine AllReadyH.cons nat5 (fun K hK => ?_) AllReadyH.nil
          go_simp
          go_at_call 15
          refine (held_below (S := (fun (w' : World) => FAt w' w2.heap.size 1 0 pr bb ∧ w'.cell? ⟨g, k, none⟩ = some (.string (S k)) ∧ Hid (Below w.heap.size w w' ∧ StrAt w' w'.heap.size (some ⟨g, 0, none⟩) n S ∧ g < w'.heap.size))) blo_kept hH (cm _)).mono ?_
          rintro e w5 ⟨rfl, hS5⟩
          refine hK.out _ _ hS5 (fun hH5 => ?_)
          clear hK K hS5 hH
          refine wpAnyH_take (i := 6) (v := .bool false) nat6 (by kernel_rfl) (by kernel_rfl) (by kernel_rfl) (fun _ _ _ h => False.elim h) (Or.inl ⟨by rfl, ?_⟩) hH5 ?_
          · intro wx hSw
            go_simp
          simp only [Act.put, List.setIfInBounds_toArray, List.set_cons_zero, List.set_cons_succ]
          refine wpAnyH_done (by kernel_rfl) ?_ _
          refine NoPanic.normal ?_
          have HB6 := hide hH5.2.2.out.1
          have HS6 := hide hH5.2.2.out.2.1
          have HF6 := hide hH5.1
          clear hH5 cm
          go_wp2
          exact ⟨⟨k + 1, by go_num, by omega, HB6, HS6, HF6⟩, by simp [intOf]; omega⟩
        · obtain rfl : k = n := by omega
          obtain ⟨hc0, hc1, hc2, hc3⟩ := HX.out.cells
          have hbb : bb.size ≤ maxLen := by unfold maxLen; omega
          have hlen1 : (bb.size : Int) ≤ 1000 := by omega
          have hlen2 : (z : Int) ≤ (bb.size : Int) * 8 := by omega
          have co := fun wx => hok ▸ impl_FilterOk 1 0 pr bb hbb wx
          go_wp2_with fail
          refine (co _).mono ?_
          rintro e w6 ⟨rfl, hb6⟩
          have HB6 := hide (HB.out.trans (hb6.mono HB.out.size))
          obtain ⟨hc0, hc1, hc2, hc3⟩ := (HX.out.below hb6).cells
          clear hb6 co HB HX
          go_wp2
          go_ret
          exact ⟨rfl, HB6.out⟩
    · have hV := bloomV_no hy
      unfold badB at hV
      have ci := fun (wx : World) (hs : StrAt wx wx.heap.size va n S) => hV ▸ impl_BloomOf va n vc S per wx (by omega) hs
      have cs := fun (wx : World) (hs : StrAt wx wx.heap.size va n S) => hV ▸ spec_BloomOf va n vc S per wx (by omega) hs
      clear hV hy
      go_wp2_with fail
      refine (ci _ HS.out).mono ?_
      rintro e w2 ⟨rfl, hb2⟩
      have HB2 := hide (HB1.out.trans (hb2.mono HB1.out.size))
      have HS2 := hide (HS.out.keep hb2)
      clear hb2 ci HB1 HS
      go_wp2_with fail
      obtain ⟨W3, hW3⟩ : ∃ W3, w2.alloc (.cells #[.int .i64 0, .int .i64 0, .int .i64 0, .string ⟨#[]⟩] 25) = W3 := ⟨_, rfl⟩
      have hF3 : FAt W3 w2.heap.size 0 0 0 ⟨#[]⟩ := by rw [← hW3]; exact FAt.new w2 0 0 0 ⟨#[]⟩
      have hb3 : Below w2.heap.size w2 W3 := by rw [← hW3]; exact (Below.refl _ _).alloc (Nat.le_refl _) _
      rw [hW3]
      have HB3 := hide (HB2.out.trans (hb3.mono HB2.out.size))
      have HS3 := hide (HS2.out.keep hb3)
      have HF3 := hide hF3
      clear hb3 hF3 hW3 HB2 HS2
      refine (cs _ HS3.out).mono ?_
      rintro e w4 ⟨rfl, hb4⟩
      have HB4 := hide (HB3.out.trans (hb4.mono HB3.out.size))
      have HF4 := hide (HF3.out.below hb4)
      clear hb4 cs HB3 HS3 HF3
      obtain ⟨hc0, hc1, hc2, hc3⟩ := HF4.out.cells
      have hlt4 := HF4.out.lt
      go_wp2
      go_ret
      exact ⟨rfl, HB4.out.alloc HB4.out.size _⟩

end Go.Proofs.Ytkopoonkedcpmac
