/- A drawn list of users. -/
import Derived.Test.YtonkjdjancnajacDrawP2
import Derived.Test.YtonkjdjancnajacStrs
namespace Go.Proofs.Ytonkjdjancnajac
set_option maxRecDepth 100000
open Go.RowKit Go.Deep

/-- v is a slice of the texts xs, in memory laid from block B on. -/
def OwnS (w : World) (B : Nat) (v : Value) (xs : List ByteArray) : Prop := Own w B 9 v (xs.map Value.string)

theorem OwnS.strs {w : World} {B : Nat} {v : Value} {xs : List ByteArray} (h : OwnS w B v xs) : ∃ a cap, v = .slice a xs.length cap ∧ StrAt w w.heap.size a xs.length (fun i => xs.getD i ⟨#[]⟩) ∧ xs.length ≤ cap ∧ (a = none ∧ xs.length = 0 ∨ ∃ g, a = some ⟨g, 0, none⟩) := by
  rcases h.2 with ⟨hn, h0⟩ | ⟨g, cap, cur, hv, hg, hh, hle, hcap, hsz, htake⟩
  · have : xs = [] := by simpa using h0
    subst this
    exact ⟨none, 0, by simpa using hn, .inl rfl, by simp, .inl ⟨rfl, rfl⟩⟩
  · refine ⟨some ⟨g, 0, none⟩, cap, by simpa using hv, .inr ⟨g, 0, rfl, (Array.getElem?_eq_some_iff.1 hh).1, fun i hi => ?_⟩, by simpa using hle, .inr ⟨g, rfl⟩⟩
    have hc := World.ownsRow.cells h (g := g) (by rw [hv]; rfl) i (.string (xs.getD i ⟨#[]⟩)) (by
      rw [List.getElem?_map, List.getD, List.getElem?_eq_getElem hi]; rfl)
    have e : (⟨g, 0, none⟩ : Addr).add i = ⟨g, 0 + i, none⟩ := by unfold Addr.add; split <;> simp_all
    rw [e] at hc
    exact hc

set_option maxHeartbeats 1000000 in
set_option maxRecDepth 100000 in
/-- A few drawn users, each of at most 44 bytes. -/
theorem rd_users (W w : World) (g : Nat) (a : Option Addr) (len cap : Nat) (m : Int) (hm0 : 0 ≤ m) (hm1 : m ≤ 100) (hc : IsCode W a len) (hl : len ≤ 1048576) (h : Rd W w g a len cap) :
    Calls Try.prog 53 #[.pointer (some ⟨g, 0, none⟩), .int .i64 m] w fun e w' => ∃ v xs, e = .returned v ∧ (xs.length : Int) ≤ m + 1 ∧ (∀ s ∈ xs, s.size ≤ 44) ∧ OwnS w' w.heap.size v xs ∧ Rd W w' g a len cap ∧ Mv g w w' := by
  have hi5 : (Try.prog.info? 9).map (fun i => (i.zero, i.size, i.bytes)) = some (some (.string ByteArray.empty), 1, 16) := by kernel_rfl
  have hg := h.lt
  go_enter Try.func53, Try.ntmps53
  go_wp2_with fail
  refine (rd_below W _ g a len cap (m + 1) (by omega) (by omega) hc hl (h.keep ((Below.refl _ _).alloc (Nat.le_refl _) _) h.lt)).mono ?_
  rintro e w1 ⟨x, rfl, hx0, hx1, hr, hmv⟩
  have hown : OwnS w1 w.heap.size (.slice (some ⟨w.heap.size, 0, none⟩) 0 0) [] := own_mv (Own.lit w _ _ [] 0 rfl (Nat.le_refl _) (by decide)) hmv hg
  have HR1 := hide hr
  have HM1 := hide (mv_alloc hmv)
  have HO1 := hide hown
  clear hr hmv hown h
  go_wp2
  go_loopw [5, 6] (fun v i wr => ∃ (k : Nat) (xs : List ByteArray), i = .int .i64 k ∧ (xs.length : Int) + k ≤ m ∧ Hid (∀ s ∈ xs, s.size ≤ 44) ∧ Hid (OwnS wr w.heap.size v xs) ∧ Hid (Rd W wr g a len cap) ∧ Hid (Mv g w wr))
    (fun _ i _ => (intOf i).toNat)
  case atStart =>
    obtain ⟨k, rfl⟩ := Int.eq_ofNat_of_zero_le hx0
    exact ⟨k, [], rfl, by simp; omega, fun _ h => by simp at h, HO1, HR1, HM1⟩
  case round =>
    obtain ⟨k, xs, rfl, hk, HX, HO, HR, HM⟩ := hrel
    clear HR1 HM1 HO1
    by_cases hlt : (0 : Int) < (k : Int)
    · go_wp2_with fail
      refine (rd_once W _ g a len cap 3 (by omega) (by omega) hc hl HR.out).mono ?_
      rintro e w2 ⟨b, rfl, hr2, hmv2⟩
      have HO2 := hide (show OwnS w2 w.heap.size _ xs from own_mv HO.out hmv2 hg)
      have HR2 := hide hr2
      have HM2 := hide (HM.out.trans hmv2)
      clear hr2 hmv2 HR HM HO
      cases b with
      | true =>
        go_wp2_with fail
        refine (rd_bytes W _ g a len cap 3 (by omega) (by omega) hc hl HR2.out).mono ?_
        rintro e w3 ⟨s, rfl, hs, hr3, hmv3⟩
        have hown : OwnS w3 w.heap.size _ xs := own_mv HO2.out hmv3 hg
        have HR3 := hide hr3
        have HM3 := hide (HM2.out.trans hmv3)
        have hsz : w.heap.size ≤ w3.heap.size := HM3.out.size
        have hs4 : (⟨#[107]⟩ ++ s : ByteArray).size ≤ 44 := by rw [ByteArray.size_append]; show 1 + s.size ≤ 44; omega
        have HS4 := hide hs4
        clear hr3 hmv3 HR2 HM2 HO2 hs4
        go_wp2_with (first
          | (at_builtin; refine wpList_append_one rfl _ _ 24 rfl 9 Try.underlying24 hi5 rfl (by decide) w.heap.size _ _ (xs.map Value.string) (by rfl) (by rfl) hown rfl hsz ?c1 ?_))
        case c1 => first | omega | (simp; omega)
        intro v' w4 hown' hb'
        have HR4 := hide (HR3.out.keep hb' hg)
        have HM4 := hide (mv_below HM3.out hb')
        have HO4 := hide hown'
        clear HR3 HM3 hown hown' hb'
        go_wp2
        obtain ⟨j, rfl⟩ : ∃ j, k = j + 1 := ⟨k - 1, by omega⟩
        exact ⟨⟨j, xs ++ [⟨#[107]⟩ ++ s], by go_num, by simp; omega, fun t ht => by
          rcases List.mem_append.1 ht with h | h
          · exact HX.out t h
          · have e : t = ⟨#[107]⟩ ++ s := by simpa using h
            rw [e]; exact HS4.out, by show OwnS _ _ _ _; unfold OwnS; rw [List.map_append]; exact HO4.out, HR4, HM4⟩, by simp [intOf]⟩
      | false =>
        go_wp2_with fail
        refine (rd_user W _ g a len cap hc hl HR2.out).mono ?_
        rintro e w3 ⟨s, rfl, hs, hr3, hmv3⟩
        have hown : OwnS w3 w.heap.size _ xs := own_mv HO2.out hmv3 hg
        have HR3 := hide hr3
        have HM3 := hide (HM2.out.trans hmv3)
        have hsz : w.heap.size ≤ w3.heap.size := HM3.out.size
        have HS4 : Hid (s.size ≤ 44) := by show s.size ≤ 44; omega
        clear hr3 hmv3 HR2 HM2 HO2
        go_wp2_with (first
          | (at_builtin; refine wpList_append_one rfl _ _ 24 rfl 9 Try.underlying24 hi5 rfl (by decide) w.heap.size _ _ (xs.map Value.string) (by rfl) (by rfl) hown rfl hsz ?c1 ?_))
        case c1 => first | omega | (simp; omega)
        intro v' w4 hown' hb'
        have HR4 := hide (HR3.out.keep hb' hg)
        have HM4 := hide (mv_below HM3.out hb')
        have HO4 := hide hown'
        clear HR3 HM3 hown hown' hb'
        go_wp2
        obtain ⟨j, rfl⟩ : ∃ j, k = j + 1 := ⟨k - 1, by omega⟩
        exact ⟨⟨j, xs ++ [s], by go_num, by simp; omega, fun t ht => by
          rcases List.mem_append.1 ht with h | h
          · exact HX.out t h
          · have e : t = s := by simpa using h
            rw [e]; exact HS4.out, by show OwnS _ _ _ _; unfold OwnS; rw [List.map_append]; exact HO4.out, HR4, HM4⟩, by simp [intOf]⟩
    · have hk0 : k = 0 := by omega
      subst hk0
      go_wp2_with fail
      refine (rd_once W _ g a len cap 24 (by omega) (by omega) hc hl HR.out).mono ?_
      rintro e w2 ⟨b, rfl, hr2, hmv2⟩
      have HO2 := hide (show OwnS w2 w.heap.size _ xs from own_mv HO.out hmv2 hg)
      have HR2 := hide hr2
      have HM2 := hide (HM.out.trans hmv2)
      clear hr2 hmv2 HR HM HO
      cases b with
      | true =>
        go_wp2_with fail
        refine (rd_bytes W _ g a len cap 44 (by omega) (by omega) hc hl HR2.out).mono ?_
        rintro e w3 ⟨s, rfl, hs, hr3, hmv3⟩
        have hown : OwnS w3 w.heap.size _ xs := own_mv HO2.out hmv3 hg
        have HR3 := hide hr3
        have HM3 := hide (HM2.out.trans hmv3)
        have hsz : w.heap.size ≤ w3.heap.size := HM3.out.size
        have HS4 : Hid (s.size ≤ 44) := by show s.size ≤ 44; omega
        clear hr3 hmv3 HR2 HM2 HO2
        go_wp2_with (first
          | (at_builtin; refine wpList_append_one rfl _ _ 24 rfl 9 Try.underlying24 hi5 rfl (by decide) w.heap.size _ _ (xs.map Value.string) (by rfl) (by rfl) hown rfl hsz ?c1 ?_))
        case c1 => first | omega | (simp; omega)
        intro v' w4 hown' hb'
        have HR4 := hide (HR3.out.keep hb' hg)
        have HM4 := hide (mv_below HM3.out hb')
        have HO4 := hide hown'
        clear HR3 HM3 hown hown' hb'
        go_wp2
        go_ret
        refine ⟨_, xs ++ [s], rfl, by simp; omega, fun t ht => ?_, by unfold OwnS; rw [List.map_append]; exact HO4.out, HR4.out, HM4.out⟩
        rcases List.mem_append.1 ht with h | h
        · exact HX.out t h
        · have e : t = s := by simpa using h
          rw [e]; exact HS4.out
      | false =>
        go_wp2
        go_ret
        exact ⟨_, xs, rfl, by omega, HX.out, HO2.out, HR2.out, HM2.out⟩

end Go.Proofs.Ytonkjdjancnajac
