/- What the law on SplitRun draws. -/
import Derived.Test.YtjcoejabpagaiaaDrawEs
import Derived.Test.YtjcoejabpagaiaaOpen
import Derived.Test.YtjcoejabpagaiaaSplP
namespace Go.Proofs.Ytjcoejabpagaiaa
set_option maxRecDepth 100000
open Go.RowKit

def entsSp (es : List En) : Ents := ⟨fun i => (es.getD i ⟨⟨#[]⟩, 0, 0, ⟨#[]⟩⟩).u, fun i => (es.getD i ⟨⟨#[]⟩, 0, 0, ⟨#[]⟩⟩).q, fun i => (es.getD i ⟨⟨#[]⟩, 0, 0, ⟨#[]⟩⟩).k, fun i => (es.getD i ⟨⟨#[]⟩, 0, 0, ⟨#[]⟩⟩).x⟩
theorem entAtSp {w : World} {B g cap : Nat} {es : List En} (h : OwnE w B g cap es) : EntAt w w.heap.size (some ⟨g, 0, none⟩) es.length (entsSp es) := by
  refine .inr ⟨g, 0, rfl, h.lt.2, fun i hi => ?_⟩
  have hg : es[i]? = some (es.getD i ⟨⟨#[]⟩, 0, 0, ⟨#[]⟩⟩) := by rw [List.getD, List.getElem?_eq_getElem hi]; rfl
  obtain ⟨c0, c1, c2, c3⟩ := cellsE_get es i _ hg
  rw [Nat.zero_add]
  exact ⟨h.cell c0, h.cell c1, h.cell c2, h.cell c3⟩

set_option linter.unusedVariables false in
set_option maxHeartbeats 2000000 in
theorem draw_SplitRun (W w : World) (a : Option Addr) (len cap : Nat) (hc : IsCode W a len) (hl : len ≤ 1048576) (hb : Below W.heap.size W w) :
    Calls Try.prog 15 #[.slice a len cap] w fun e w' => ∃ gE n capE E most, e = .returned (.tuple #[.slice (some ⟨gE, 0, none⟩) n capE, .int .i64 most]) ∧ n ≤ 1000 ∧ -9223372036854775808 ≤ most ∧ most ≤ 9223372036854775807 ∧ EntAt w' w'.heap.size (some ⟨gE, 0, none⟩) n E ∧ Below w.heap.size w w' := by
  go_enter Try.func15, Try.ntmps15
  go_wp2_with fail
  refine (open_rdO w a len cap W hb).mono ?_
  rintro e w1 ⟨rfl, hr, hb1⟩
  obtain ⟨g, hg⟩ : ∃ g, w.heap.size = g := ⟨_, rfl⟩
  have HG := hide hg
  rw [hg] at hr ⊢
  have HB : Hid (Below g w w1) := by rw [← hg]; exact hb1
  have hglt := hr.lt
  have HR := hide hr
  clear hb1 hr hg
  go_wp2_with fail
  refine (rd_entries W _ _ a len cap 14 (by omega) (by omega) hc hl HR.out).mono ?_
  rintro e w2 ⟨gE, capE, es, rfl, hn, hsz, hown, hr2, hm2⟩
  have HB := hide (HB.out.trans (hm2.below (by rw [← HG.out]; exact HB.out.size) (Nat.le_refl _)))
  have HR := hide hr2
  have HO := hide hown
  have hN : es.length ≤ 1000 := by omega
  have hg2 := hr2.lt
  clear hr2 hm2 hown hn hsz
  obtain ⟨n, hnn⟩ : ∃ n, es.length = n := ⟨_, rfl⟩
  have HNN := hide hnn
  rw [hnn] at hN ⊢
  clear hnn
  go_wp2_with fail
  refine (rd_off W _ _ a len cap 1 5 (by omega) (by omega) (by omega) hc hl HR.out).mono ?_
  rintro e w3 ⟨x, rfl, hx0, hx1, hr, hm⟩
  have HB := hide (HB.out.trans (hm.below (by rw [← HG.out]; exact HB.out.size) (Nat.le_refl _)))
  have HE := hide (entAtSp (HO.out.mv hm hglt))
  rw [HNN.out] at HE
  clear hr hm
  go_wp2
  go_ret2
  exact ⟨_, _, _, _, _, rfl, hN, hx0, hx1, HE.out, by rw [HG.out]; exact HB.out⟩

end Go.Proofs.Ytjcoejabpagaiaa
