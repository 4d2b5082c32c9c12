/- The laws FnPicked and FnOverlap, walked. -/
import Derived.Test.YtplemoedpdammaaDrawQ
import Derived.Test.YtplemoedpdammaaPickP
import Derived.Test.YtplemoedpdammaaOver
namespace Go.Proofs.Ytplemoedpdammaa
set_option maxRecDepth 100000
open Go.RowKit Go.Deep

/-- A version of one's own is this version. -/
theorem versionIs_own {w : World} {B : Nat} {a : Option Addr} {c : Nat} {l : List Meta1} {nx sq lg : Int} (h : OwnMeta w B (.slice a l.length c) l) : VersionIs w (.agg #[.slice a l.length c, .int .i64 nx, .int .i64 sq, .int .i64 lg]) (vc l nx sq lg) := by
  obtain ⟨a0, p0, hva, hM⟩ := h.arg
  simp only [Value.slice.injEq, true_and] at hva
  obtain ⟨rfl, rfl⟩ := hva
  exact ⟨a, c, rfl, hM⟩

theorem laws_sameIntsV (a b : Option Addr) (len ca cb : Nat) (S : Nat → Int) (w : World) (hl : len ≤ 1048576) (ha : IntAt w w.heap.size a len S) (hb : IntAt w w.heap.size b len S) :
    Calls Try.prog 31 #[.slice a len ca, .slice b len cb] w fun e w' => e = .returned (.bool true) ∧ Below w.heap.size w w' := by
  have HA := hide ha
  have HB := hide hb
  have HW0 := hide (Below.refl w.heap.size w)
  clear ha hb
  go_enter Try.func31, Try.ntmps31
  go_wp2
  go_loopw [5] (fun i wr => ∃ k : Nat, i = .int .i64 k ∧ k ≤ len ∧ Hid (Below w.heap.size w wr)) (fun i _ => len - (intOf i).toNat)
  case atStart => exact ⟨0, rfl, by omega, HW0⟩
  case round =>
    obtain ⟨k, rfl, hk, HW⟩ := hrel
    by_cases hlt : k < len
    · obtain ⟨g1, o1, rfl, _, c0⟩ := (HA.out.below HW.out).at hlt
      obtain ⟨g2, o2, rfl, _, d0⟩ := (HB.out.below HW.out).at hlt
      have hki : (k : Int) < (len : Int) := by omega
      go_wp2
      go_quiet (fail)
      go_wp2
      exact ⟨⟨k + 1, by go_num, by omega, below_drewN HW.out _⟩, by simp [intOf]; omega⟩
    · obtain rfl : k = len := by omega
      go_wp2
      go_ret
      exact ⟨rfl, HW.out⟩

set_option maxHeartbeats 4000000 in
theorem walk_FnPicked (v : Value) {w : World} (hv : IsBytes w v) (_w : World) :
    Calls Try.prog 7 #[v] w fun e w' => e = .returned (.bool true) ∧ Below w.heap.size w w' := by
  obtain ⟨a, len, cap, rfl, hc, hm⟩ := hv
  by_cases hbig : 1048576 < len
  · have hd : decide (1048576 < len) = true := by simp [hbig]
    go_enter Try.func7, Try.ntmps7
    go_wp2_with fail
    refine (laws_bigO a len cap hm _).mono ?_
    rintro e w1 ⟨rfl, rfl⟩
    go_wp2
    go_ret
    exact ⟨rfl, Below.refl _ _⟩
  · have hd : decide (1048576 < len) = false := by simp [hbig]
    have hl : len ≤ 1048576 := by omega
    go_enter Try.func7, Try.ntmps7
    go_wp2_with fail
    refine (laws_bigO a len cap hm _).mono ?_
    rintro e w1 ⟨rfl, rfl⟩
    go_wp2_with fail
    refine (draw_PickLevel w _ a len cap hc hl (Below.refl _ _)).mono ?_
    rintro e w1 ⟨a1, c1, l, nx, sq, lg, rfl, ho, hll, hb1⟩
    have hX := (BoxIs.new w1 #[.slice a1 l.length c1, .int .i64 nx, .int .i64 sq, .int .i64 lg] 46 rfl).hid
    have HB := hide (hb1.trans ((below_one w1 (.cells #[.slice a1 l.length c1, .int .i64 nx, .int .i64 sq, .int .i64 lg] 46)).mono hb1.size))
    have HO := (ho.next (below_one w1 (.cells #[.slice a1 l.length c1, .int .i64 nx, .int .i64 sq, .int .i64 lg] 46))).hid
    clear ho hb1 hd
    go_wp2_with fail
    generalize w1.alloc (.cells #[.slice a1 l.length c1, .int .i64 nx, .int .i64 sq, .int .i64 lg] 46) = W1 at hX HB HO ⊢
    generalize w1.heap.size = E at hX ⊢
    have y0 := hX.out.cell 0
    have y1 := hX.out.cell 1
    have y2 := hX.out.cell 2
    have y3 := hX.out.cell 3
    simp only [List.getElem?_toArray, List.getElem?_cons_succ, List.getElem?_cons_zero] at y0 y1 y2 y3
    have cI := impl_PickLevel (.agg #[.slice a1 l.length c1, .int .i64 nx, .int .i64 sq, .int .i64 lg]) (vc l nx sq lg) W1 (by show l.length ≤ 1048576; omega) (versionIs_own HO.out)
    have HP := hide (@pick_has (vc l nx sq lg))
    generalize hpv : pickV (vc l nx sq lg) = P at cI HP
    generalize hpb : pickB (vc l nx sq lg) = b at cI HP
    go_wp2_with fail
    refine cI.mono ?_
    rintro e w2 ⟨rfl, hb2⟩
    have cS := spec_PickLevel (.agg #[.slice a1 l.length c1, .int .i64 nx, .int .i64 sq, .int .i64 lg]) (vc l nx sq lg) w2 (by show l.length ≤ 1048576; omega) (versionIs_own (HO.out.next hb2))
    rw [hpv, hpb] at cS
    have hX2 := (hX.out.next hb2).hid
    have HB2 := hide (HB.out.trans (hb2.mono HB.out.size))
    have HO2 := (HO.out.next hb2).hid
    clear hX HB HO hb2 y0 y1 y2 y3 cI hpv hpb
    have y0 := hX2.out.cell 0
    have y1 := hX2.out.cell 1
    have y2 := hX2.out.cell 2
    have y3 := hX2.out.cell 3
    simp only [List.getElem?_toArray, List.getElem?_cons_succ, List.getElem?_cons_zero] at y0 y1 y2 y3
    go_wp2_with fail
    refine cS.mono ?_
    rintro e w3 ⟨rfl, hb3⟩
    have hX3 := (hX2.out.next hb3).hid
    have HB3 := hide (HB2.out.trans (hb3.mono HB2.out.size))
    have HO3 := (HO2.out.next hb3).hid
    clear hX2 HB2 HO2 hb3 y0 y1 y2 y3 cS
    cases b with
    | false =>
      go_wp2
      go_ret
      exact ⟨rfl, HB3.out⟩
    | true =>
      obtain ⟨i0, hi0, hLi⟩ := HP.out rfl
      have HL := hide hLi
      have hi1 : i0 < l.length := hi0
      clear HP hLi hi0
      go_wp2
      go_loopg [8] l.length (fun k v wr => ∃ i : Nat, v = .int .i64 (i : Int) ∧ i + k = l.length ∧ i ≤ i0 ∧ wr = w3)
      case atStart => exact ⟨0, rfl, by omega, by omega, rfl⟩
      case round =>
        obtain ⟨i, rfl, hik, hi, rfl⟩ := hrel
        have y0 := hX3.out.cell 0
        simp only [List.getElem?_toArray, List.getElem?_cons_zero] at y0
        obtain ⟨a0, p0, hva, hM⟩ := HO3.out.arg
        simp only [Value.slice.injEq, true_and] at hva
        obtain ⟨rfl, rfl⟩ := hva
        have hil : i < l.length := by omega
        obtain ⟨b, off, rfl, hbl, c0, c1', c2, c3, c4⟩ := hM.at hil
        have hik' : (i : Int) < (l.length : Int) := by omega
        by_cases he : (fnMeta l).L i = P
        · rw [he] at c1'
          go_wp2
          go_ret
          exact ⟨rfl, HB3.out⟩
        · have hne : i ≠ i0 := fun e => he (by rw [e]; exact HL.out)
          have hw : IntKind.i64.wrap ((i : Int) + 1) = ((i + 1 : Nat) : Int) := by rw [IntKind.wrap_i64]; omega
          clear HL hM
          go_wp2
          go_roundg (gk - 1)
          case measure => omega
          case rel => exact ⟨i + 1, rfl, by omega, by omega, rfl⟩

end Go.Proofs.Ytplemoedpdammaa
