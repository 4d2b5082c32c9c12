/- What the law on scans draws; the law FnScanned, walked. (By gen_scanned.py.) -/
import Derived.Test.YtfnhlccpkommoaaScanP
import Derived.Test.YtfnhlccpkommoaaDrawEs
namespace Go.Proofs.Ytfnhlccpkommoaa
set_option maxRecDepth 100000
open Go.RowKit Go.Deep

theorem laws_bigS (a : Option Addr) (len cap : Nat) (hl : len ≤ maxLen) (w : World) :
    Calls Try.prog 20 #[.slice a len cap] w fun e w' => e = .returned (.bool (decide (1048576 < len))) ∧ w = w' := by
  unfold maxLen at hl
  by_cases h : 1048576 < len
  · have h' : (1048576 : Int) < (len : Int) := by omega
    go_enter Try.func20, Try.ntmps20
    go_wp2
    go_ret
    exact ⟨congrArg (fun b => Ending.returned (.bool b)) (decide_eq_true h).symm, rfl⟩
  · have h' : ¬ ((1048576 : Int) < (len : Int)) := by omega
    go_enter Try.func20, Try.ntmps20
    go_wp2
    go_ret
    exact ⟨rfl, rfl⟩

theorem open_rdS (W : World) (a : Option Addr) (len cap : Nat) (W0 : World) (h0 : Below W0.heap.size W0 W) :
    Calls Try.prog 44 #[.slice a len cap] W fun e w' => e = .returned (.pointer (some ⟨W.heap.size, 0, none⟩)) ∧ Rd W0 w' W.heap.size a len cap ∧ Below W.heap.size W w' := by
  go_enter Try.func44, Try.ntmps44
  go_wp2
  go_ret
  refine ⟨rfl, ⟨h0.size, by simp, h0.trans ((Below.refl _ _).alloc h0.size _), ?_, ⟨0, Nat.zero_le _, ?_⟩, ?_⟩, (Below.refl _ _).alloc (Nat.le_refl _) _⟩
  · simp
  · simp
  · simp

def entsOfS (es : List En) : Ents := ⟨fun i => (es.getD i ⟨⟨#[]⟩, 0, 0, ⟨#[]⟩⟩).u, fun i => (es.getD i ⟨⟨#[]⟩, 0, 0, ⟨#[]⟩⟩).q, fun i => (es.getD i ⟨⟨#[]⟩, 0, 0, ⟨#[]⟩⟩).k, fun i => (es.getD i ⟨⟨#[]⟩, 0, 0, ⟨#[]⟩⟩).x⟩
theorem entAtS {w : World} {B g cap : Nat} {es : List En} (h : OwnE w B g cap es) : EntAt w w.heap.size (some ⟨g, 0, none⟩) es.length (entsOfS es) := by
  refine .inr ⟨g, 0, rfl, h.lt.2, fun i hi => ?_⟩
  have hg : es[i]? = some (es.getD i ⟨⟨#[]⟩, 0, 0, ⟨#[]⟩⟩) := by rw [List.getD, List.getElem?_eq_getElem hi]; rfl
  obtain ⟨c0, c1, c2, c3⟩ := cellsE_get es i _ hg
  rw [Nat.zero_add]
  exact ⟨h.cell c0, h.cell c1, h.cell c2, h.cell c3⟩

set_option linter.unusedVariables false in
set_option maxHeartbeats 4000000 in
theorem draw_Scan (W w : World) (a : Option Addr) (len cap : Nat) (hc : IsCode W a len) (hl : len ≤ 1048576) (hb : Below W.heap.size W w) :
    Calls Try.prog 21 #[.slice a len cap] w fun e w' => ∃ gE n capE E q fr to, e = .returned (.tuple #[.slice (some ⟨gE, 0, none⟩) n capE, .int .i64 q, .string fr, .string to]) ∧ n ≤ 1000 ∧ (fr : ByteArray).size ≤ 4 ∧ (to : ByteArray).size ≤ 4 ∧ EntAt w' w'.heap.size (some ⟨gE, 0, none⟩) n E ∧ Below w.heap.size w w' := by
  have hz0 : (⟨#[]⟩ : ByteArray).size ≤ 4 := by decide
  go_enter Try.func21, Try.ntmps21
  go_wp2_with fail
  refine (open_rdS w a len cap W hb).mono ?_
  rintro e w1 ⟨rfl, hr, hb1⟩
  obtain ⟨g, hg⟩ : ∃ g, w.heap.size = g := ⟨_, rfl⟩
  have HG := hide hg
  rw [hg] at hr ⊢
  have HB : Hid (Below g w w1) := by rw [← hg]; exact hb1
  have hglt := hr.lt
  have HR := hide hr
  clear hb1 hr hg
  go_wp2_with fail
  refine (rd_entries W _ _ a len cap 14 (by omega) (by omega) hc hl HR.out).mono ?_
  rintro e w2 ⟨gE, capE, es, rfl, hn, hsz, hown, hr2, hm2⟩
  have HB := hide (HB.out.trans (hm2.below (by rw [← HG.out]; exact HB.out.size) (Nat.le_refl _)))
  have HR := hide hr2
  have HO := hide hown
  have hN : es.length ≤ 1000 := by omega
  clear hr2 hm2 hown hn hsz
  obtain ⟨n, hnn⟩ : ∃ n, es.length = n := ⟨_, rfl⟩
  have HNN := hide hnn
  rw [hnn] at hN ⊢
  clear hnn
  go_wp2_with fail
  refine (rd_once W _ _ a len cap 2 (by omega) (by omega) hc hl HR.out).mono ?_
  rintro e w3 ⟨b1, rfl, hr, hm⟩
  have HB := hide (HB.out.trans (hm.below (by rw [← HG.out]; exact HB.out.size) (Nat.le_refl _)))
  have HR := hide hr
  have HO := hide (HO.out.mv hm hglt)
  clear hr hm
  cases b1 with
  | true =>
    go_wp2_with fail
    refine (rd_text W _ _ a len cap hc hl HR.out).mono ?_
    rintro e w4 ⟨s1, rfl, hs1, hr, hm⟩
    have HB := hide (HB.out.trans (hm.below (by rw [← HG.out]; exact HB.out.size) (Nat.le_refl _)))
    have HR := hide hr
    have HO := hide (HO.out.mv hm hglt)
    clear hr hm
    go_wp2_with fail
    refine (rd_once W _ _ a len cap 2 (by omega) (by omega) hc hl HR.out).mono ?_
    rintro e w5 ⟨b2, rfl, hr, hm⟩
    have HB := hide (HB.out.trans (hm.below (by rw [← HG.out]; exact HB.out.size) (Nat.le_refl _)))
    have HR := hide hr
    have HO := hide (HO.out.mv hm hglt)
    clear hr hm
    cases b2 with
    | true =>
      go_wp2_with fail
      refine (rd_text W _ _ a len cap hc hl HR.out).mono ?_
      rintro e w6 ⟨s2, rfl, hs2, hr, hm⟩
      have HB := hide (HB.out.trans (hm.below (by rw [← HG.out]; exact HB.out.size) (Nat.le_refl _)))
      have HR := hide hr
      have HO := hide (HO.out.mv hm hglt)
      clear hr hm
      go_wp2_with fail
      refine (rd_once W _ _ a len cap 3 (by omega) (by omega) hc hl HR.out).mono ?_
      rintro e w7 ⟨b3, rfl, hr, hm⟩
      have HB := hide (HB.out.trans (hm.below (by rw [← HG.out]; exact HB.out.size) (Nat.le_refl _)))
      have HR := hide hr
      have HO := hide (HO.out.mv hm hglt)
      clear hr hm
      cases b3 with
      | true =>
        go_wp2_with fail
        refine (rd_off W _ _ a len cap 0 13 (by omega) (by omega) (by omega) hc hl HR.out).mono ?_
        rintro e w8 ⟨x, rfl, hx0, hx1, hr, hm⟩
        have HB := hide (HB.out.trans (hm.below (by rw [← HG.out]; exact HB.out.size) (Nat.le_refl _)))
        have HR := hide hr
        have HO := hide (HO.out.mv hm hglt)
        clear hr hm
        go_wp2
        refine bodyPost_ret (v := .tuple #[.slice (some ⟨gE, 0, none⟩) n capE, .int .i64 (x), .string s1, .string s2]) (by simp [results, Try.results21, go_sem]) rfl ⟨gE, n, capE, entsOfS es, _, _, _, rfl, hN, by assumption, by assumption, by rw [← HNN.out]; exact entAtS HO.out, by rw [HG.out]; exact HB.out⟩
      | false =>
        go_wp2_with fail
        refine (rd_below W _ _ a len cap 9 (by omega) (by omega) hc hl HR.out).mono ?_
        rintro e w9 ⟨x, rfl, hx0, hx1, hr, hm⟩
        have HB := hide (HB.out.trans (hm.below (by rw [← HG.out]; exact HB.out.size) (Nat.le_refl _)))
        have HR := hide hr
        have HO := hide (HO.out.mv hm hglt)
        clear hr hm
        have hwx : IntKind.i64.wrap (10 + x) = 10 + x := by rw [IntKind.wrap_i64]; omega
        go_wp2
        refine bodyPost_ret (v := .tuple #[.slice (some ⟨gE, 0, none⟩) n capE, .int .i64 (10 + x), .string s1, .string s2]) (by simp [results, Try.results21, go_sem]) rfl ⟨gE, n, capE, entsOfS es, _, _, _, rfl, hN, by assumption, by assumption, by rw [← HNN.out]; exact entAtS HO.out, by rw [HG.out]; exact HB.out⟩
    | false =>
      go_wp2_with fail
      refine (rd_once W _ _ a len cap 3 (by omega) (by omega) hc hl HR.out).mono ?_
      rintro e w10 ⟨b3, rfl, hr, hm⟩
      have HB := hide (HB.out.trans (hm.below (by rw [← HG.out]; exact HB.out.size) (Nat.le_refl _)))
      have HR := hide hr
      have HO := hide (HO.out.mv hm hglt)
      clear hr hm
      cases b3 with
      | true =>
        go_wp2_with fail
        refine (rd_off W _ _ a len cap 0 13 (by omega) (by omega) (by omega) hc hl HR.out).mono ?_
        rintro e w11 ⟨x, rfl, hx0, hx1, hr, hm⟩
        have HB := hide (HB.out.trans (hm.below (by rw [← HG.out]; exact HB.out.size) (Nat.le_refl _)))
        have HR := hide hr
        have HO := hide (HO.out.mv hm hglt)
        clear hr hm
        go_wp2
        refine bodyPost_ret (v := .tuple #[.slice (some ⟨gE, 0, none⟩) n capE, .int .i64 (x), .string s1, .string ⟨#[]⟩]) (by simp [results, Try.results21, go_sem]) rfl ⟨gE, n, capE, entsOfS es, _, _, _, rfl, hN, by assumption, by assumption, by rw [← HNN.out]; exact entAtS HO.out, by rw [HG.out]; exact HB.out⟩
      | false =>
        go_wp2_with fail
        refine (rd_below W _ _ a len cap 9 (by omega) (by omega) hc hl HR.out).mono ?_
        rintro e w12 ⟨x, rfl, hx0, hx1, hr, hm⟩
        have HB := hide (HB.out.trans (hm.below (by rw [← HG.out]; exact HB.out.size) (Nat.le_refl _)))
        have HR := hide hr
        have HO := hide (HO.out.mv hm hglt)
        clear hr hm
        have hwx : IntKind.i64.wrap (10 + x) = 10 + x := by rw [IntKind.wrap_i64]; omega
        go_wp2
        refine bodyPost_ret (v := .tuple #[.slice (some ⟨gE, 0, none⟩) n capE, .int .i64 (10 + x), .string s1, .string ⟨#[]⟩]) (by simp [results, Try.results21, go_sem]) rfl ⟨gE, n, capE, entsOfS es, _, _, _, rfl, hN, by assumption, by assumption, by rw [← HNN.out]; exact entAtS HO.out, by rw [HG.out]; exact HB.out⟩
  | false =>
    go_wp2_with fail
    refine (rd_once W _ _ a len cap 2 (by omega) (by omega) hc hl HR.out).mono ?_
    rintro e w13 ⟨b2, rfl, hr, hm⟩
    have HB := hide (HB.out.trans (hm.below (by rw [← HG.out]; exact HB.out.size) (Nat.le_refl _)))
    have HR := hide hr
    have HO := hide (HO.out.mv hm hglt)
    clear hr hm
    cases b2 with
    | true =>
      go_wp2_with fail
      refine (rd_text W _ _ a len cap hc hl HR.out).mono ?_
      rintro e w14 ⟨s2, rfl, hs2, hr, hm⟩
      have HB := hide (HB.out.trans (hm.below (by rw [← HG.out]; exact HB.out.size) (Nat.le_refl _)))
      have HR := hide hr
      have HO := hide (HO.out.mv hm hglt)
      clear hr hm
      go_wp2_with fail
      refine (rd_once W _ _ a len cap 3 (by omega) (by omega) hc hl HR.out).mono ?_
      rintro e w15 ⟨b3, rfl, hr, hm⟩
      have HB := hide (HB.out.trans (hm.below (by rw [← HG.out]; exact HB.out.size) (Nat.le_refl _)))
      have HR := hide hr
      have HO := hide (HO.out.mv hm hglt)
      clear hr hm
      cases b3 with
      | true =>
        go_wp2_with fail
        refine (rd_off W _ _ a len cap 0 13 (by omega) (by omega) (by omega) hc hl HR.out).mono ?_
        rintro e w16 ⟨x, rfl, hx0, hx1, hr, hm⟩
        have HB := hide (HB.out.trans (hm.below (by rw [← HG.out]; exact HB.out.size) (Nat.le_refl _)))
        have HR := hide hr
        have HO := hide (HO.out.mv hm hglt)
        clear hr hm
        go_wp2
        refine bodyPost_ret (v := .tuple #[.slice (some ⟨gE, 0, none⟩) n capE, .int .i64 (x), .string ⟨#[]⟩, .string s2]) (by simp [results, Try.results21, go_sem]) rfl ⟨gE, n, capE, entsOfS es, _, _, _, rfl, hN, by assumption, by assumption, by rw [← HNN.out]; exact entAtS HO.out, by rw [HG.out]; exact HB.out⟩
      | false =>
        go_wp2_with fail
        refine (rd_below W _ _ a len cap 9 (by omega) (by omega) hc hl HR.out).mono ?_
        rintro e w17 ⟨x, rfl, hx0, hx1, hr, hm⟩
        have HB := hide (HB.out.trans (hm.below (by rw [← HG.out]; exact HB.out.size) (Nat.le_refl _)))
        have HR := hide hr
        have HO := hide (HO.out.mv hm hglt)
        clear hr hm
        have hwx : IntKind.i64.wrap (10 + x) = 10 + x := by rw [IntKind.wrap_i64]; omega
        go_wp2
        refine bodyPost_ret (v := .tuple #[.slice (some ⟨gE, 0, none⟩) n capE, .int .i64 (10 + x), .string ⟨#[]⟩, .string s2]) (by simp [results, Try.results21, go_sem]) rfl ⟨gE, n, capE, entsOfS es, _, _, _, rfl, hN, by assumption, by assumption, by rw [← HNN.out]; exact entAtS HO.out, by rw [HG.out]; exact HB.out⟩
    | false =>
      go_wp2_with fail
      refine (rd_once W _ _ a len cap 3 (by omega) (by omega) hc hl HR.out).mono ?_
      rintro e w18 ⟨b3, rfl, hr, hm⟩
      have HB := hide (HB.out.trans (hm.below (by rw [← HG.out]; exact HB.out.size) (Nat.le_refl _)))
      have HR := hide hr
      have HO := hide (HO.out.mv hm hglt)
      clear hr hm
      cases b3 with
      | true =>
        go_wp2_with fail
        refine (rd_off W _ _ a len cap 0 13 (by omega) (by omega) (by omega) hc hl HR.out).mono ?_
        rintro e w19 ⟨x, rfl, hx0, hx1, hr, hm⟩
        have HB := hide (HB.out.trans (hm.below (by rw [← HG.out]; exact HB.out.size) (Nat.le_refl _)))
        have HR := hide hr
        have HO := hide (HO.out.mv hm hglt)
        clear hr hm
        go_wp2
        refine bodyPost_ret (v := .tuple #[.slice (some ⟨gE, 0, none⟩) n capE, .int .i64 (x), .string ⟨#[]⟩, .string ⟨#[]⟩]) (by simp [results, Try.results21, go_sem]) rfl ⟨gE, n, capE, entsOfS es, _, _, _, rfl, hN, by assumption, by assumption, by rw [← HNN.out]; exact entAtS HO.out, by rw [HG.out]; exact HB.out⟩
      | false =>
        go_wp2_with fail
        refine (rd_below W _ _ a len cap 9 (by omega) (by omega) hc hl HR.out).mono ?_
        rintro e w20 ⟨x, rfl, hx0, hx1, hr, hm⟩
        have HB := hide (HB.out.trans (hm.below (by rw [← HG.out]; exact HB.out.size) (Nat.le_refl _)))
        have HR := hide hr
        have HO := hide (HO.out.mv hm hglt)
        clear hr hm
        have hwx : IntKind.i64.wrap (10 + x) = 10 + x := by rw [IntKind.wrap_i64]; omega
        go_wp2
        refine bodyPost_ret (v := .tuple #[.slice (some ⟨gE, 0, none⟩) n capE, .int .i64 (10 + x), .string ⟨#[]⟩, .string ⟨#[]⟩]) (by simp [results, Try.results21, go_sem]) rfl ⟨gE, n, capE, entsOfS es, _, _, _, rfl, hN, by assumption, by assumption, by rw [← HNN.out]; exact entAtS HO.out, by rw [HG.out]; exact HB.out⟩

end Go.Proofs.Ytfnhlccpkommoaa
