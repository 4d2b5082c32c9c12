/- What the laws on blocks draw: a row of entries and how often to begin anew. -/
import Derived.Test.YtljmfdcilnbjaacLSought
import Derived.Test.YtljmfdcilnbjaacBlkS
namespace Go.Proofs.Ytljmfdcilnbjaac
set_option maxRecDepth 100000
open Go.RowKit Go.Deep

set_option maxHeartbeats 2000000 in
set_option maxRecDepth 100000 in
theorem draw_BlockOf (W w : World) (a : Option Addr) (len cap : Nat) (hc : IsCode W a len) (hl : len ≤ 1048576) (hb : Below W.heap.size W w) :
    Calls Try.prog 6 #[.slice a len cap] w fun e w' => ∃ gE capE es every, e = .returned (.tuple #[.slice (some ⟨gE, 0, none⟩) es.length capE, .int .i64 every]) ∧ (es : List En).length ≤ 10 ∧ EntAt w' w'.heap.size (some ⟨gE, 0, none⟩) es.length (entsOf es) ∧ Below w.heap.size w w' := by
  go_enter Try.func6, Try.ntmps6
  go_wp2_with fail
  refine (open_rdK w a len cap W hb).mono ?_
  rintro e w1 ⟨rfl, hr, hb1⟩
  obtain ⟨g, hg⟩ : ∃ g, w.heap.size = g := ⟨_, rfl⟩
  rw [hg] at hr ⊢
  have HB1 : Hid (Below g w w1) := by rw [← hg]; exact hb1
  have hglt := hr.lt
  have HR1 := hide hr
  clear hb1 hr
  go_wp2_with fail
  refine (rd_entries W _ _ a len cap 9 (by omega) (by omega) hc hl HR1.out).mono ?_
  rintro e w2 ⟨gE, capE, es, rfl, hn, hsz, hown, hr2, hm2⟩
  have HB2 := hide (HB1.out.trans (hm2.below (by rw [← hg]; exact HB1.out.size) (Nat.le_refl _)))
  have HR2 := hide hr2
  have HO := hide hown
  have HN := hide hn
  clear hr2 hm2 hown HB1 HR1 hn hsz
  go_wp2_with fail
  refine (rd_off W _ _ a len cap 1 5 (by omega) (by omega) (by omega) hc hl HR2.out).mono ?_
  rintro e w3 ⟨x, rfl, hx0, hx1, hr3, hm3⟩
  have HB3 := hide (HB2.out.trans (hm3.below (by rw [← hg]; exact HB2.out.size) (Nat.le_refl _)))
  have HO3 := hide (HO.out.mv hm3 hglt)
  clear hr3 hm3 HB2 HO HR2
  go_wp2
  go_ret2
  exact ⟨gE, capE, es, x, rfl, by have := HN.out; omega, HO3.out.entAt, by rw [hg]; exact HB3.out⟩

end Go.Proofs.Ytljmfdcilnbjaac
