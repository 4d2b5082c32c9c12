/- Compacted of the program. -/
import Derived.Laws.EntriesVeiled
import Derived.RangeFuncNested
import Derived.RangeFuncBound
import Derived.RangeFuncCalls
import Derived.RangeFuncLeaves
import Derived.RangeFuncWrites
import Derived.Shelf.Abstract
import Derived.Shelf.RegionOpen
import Derived.WalkKit
import Derived.OwnWalkIn
import Derived.TacticsInMore
import Derived.LoopNIn
import Derived.LoopIn
import Derived.Test.YtapajchnfjjipaaBkw
import Derived.Test.YtapajchnfjjipaaStay
import Derived.Test.YtapajchnfjjipaaRevE
import Derived.Test.YtapajchnfjjipaaCompS
import Derived.Test.YtapajchnfjjipaaCpI
import Derived.Test.YtapajchnfjjipaaCompC
import Derived.Test.YtapajchnfjjipaaCompP
namespace Go.Proofs.Ytapajchnfjjipaa
set_option maxRecDepth 100000
open Go.RowKit Go.Shelf
attribute [local go_sem] Oper.semAt_some

/-- AT A STEP OF A REGION OF A ROUND: entries are appended to a row of one's own. -/
theorem stepIn_append_entry {l n : Nat} {w : World} {ops : Array Oper} {o : Oper} {a : Act} {K : Act → World → Prop} {Q : Exit → Act → World → Prop} {C : Prop} (hgd : o.guard = none) (s x : Operand) (t : TypeId)
    (ho : o.op = .call { callee := .builtin .append, args := #[s, x], argTypes := #[t, t] }) (ht : Try.prog.underlying t = some (.slice 45))
    (B : Nat) (v : Value) (es news : List Entry1) (hs : a.eval s = v) (hown : OwnEntry w B v es) (ad : Addr) (m c : Nat) (hx : a.eval x = .slice (some ad) m c) (hm : news.length = m)
    (hnews : ∀ j u, (cellsEntry news)[j]? = some u → w.cell? (ad.add j) = some u) (hB : B ≤ w.heap.size) (hlen : es.length + m ≤ 1000000)
    (h : ∀ v' w', OwnEntry w' B v' (es ++ news) → w.grownBy w' v.ownBlock → K (a.put o.dst v') w') :
    if Region.wanted o (yielded ops a.tmps) = true then Oper.wpIn (Fence.wide.inRound l) n Try.prog o a w K Q else C := by
  have hw : Region.wanted o (yielded ops a.tmps) = true := by simp [Region.wanted, hgd]
  rw [if_pos hw]
  obtain ⟨i0, hi', hz0, hs0, hb0⟩ := info_parts entry_inf1
  obtain ⟨v', w', hr, h2, h3, _⟩ := run_append_own (P := Try.prog) (w := w) B t o.type 45 i0 _ 4 48 ht hi' hz0 hs0 hb0 rfl (by decide) v es.length (cellsEntry es) hown ad m c (cellsEntry news) (by rw [cellsEntry_len, hm]) hnews (cellsEntry_one news) (by unfold maxLen; omega) (by omega) hB
  unfold Oper.wpIn
  refine ⟨fun _ _ => trivial, ?_⟩
  show Oper.uponIn _ _ _ o a K Q ((o.semAt (some l) a.eval).run Try.prog w)
  rw [Oper.semAt_some l _ o (by rw [ho]; intro c h; cases h)]
  unfold execOp
  simp only [ho, resolve, invoke, builtin, Sem.run_bind, Sem.run_pure, Result.andThen_ok, List.map_toArray, List.map_cons, List.map_nil, hs, hx, hr, Oper.uponIn_value]
  refine h v' w' ?_ h3
  unfold OwnEntry
  rw [List.length_append, hm, cellsEntry_append]
  exact h2

/-- A row of entries of one's own, as an answer. -/
def MineE (w : World) (B : Nat) (v : Value) (l : List Entry1) : Prop := ∃ a p, v = .slice a l.length p ∧ Mine w B 45 4 a p l.length (entCell (fnEntry l))
theorem MineE.mine {w : World} {B : Nat} {v : Value} {l : List Entry1} (h : MineE w B v l) : ∃ a p, v = .slice a l.length p ∧ Mine w B 45 4 a p l.length (entCell (fnEntry l)) := h
theorem Mine.far {w : World} {B D : Nat} {ty : TypeId} {k : Nat} {a : Option Addr} {p n : Nat} {f : Nat → Value} (h : Mine w B ty k a p n f) {o : Obj} (o' : Obj) (hD : w.heap[D]? = some o) (ho : o.isCells = false) : Mine (w.putObj D o') B ty k a p n f := by
  rcases h with h | ⟨g, cur, ha, hB, hh, hn, hc⟩
  · exact .inl h
  · refine .inr ⟨g, cur, ha, hB, ?_, hn, hc⟩
    rw [World.putObj_heap_other (by rintro rfl; rw [hh] at hD; cases hD; simp [Obj.isCells] at ho)]
    exact hh
theorem lib_ReverseE0 (a : Option Addr) (p : Nat) (w : World) :
    Calls Try.prog 43 #[.slice a 0 p] w fun e w' => e = .returned (.tuple #[]) ∧ Below w.heap.size w w' := by
  have HB0 : Hid (Below w.heap.size w w) := Below.refl _ _
  go_enter Try.func43, Try.ntmps43
  go_wp2
  go_loopw [2, 3] (fun a b wr => a = .int .i64 0 ∧ b = .int .i64 (-1) ∧ Hid (Below w.heap.size w wr)) (fun _ _ _ => 0)
  case atStart => exact ⟨rfl, rfl, HB0⟩
  case round =>
    obtain ⟨rfl, rfl, HB⟩ := hrel
    go_wp2
    refine bodyPost_end (results_none rfl _ _ _) rfl ⟨by simp, HB.out⟩

theorem entU_some {E : Ents} {i : Nat} (h : entOk E i = true) : 1 ≤ (E.U i).size := by
  unfold entOk entryOkB keyOkB at h
  simp only [Bool.and_eq_true, decide_eq_true_eq] at h
  omega
theorem entU_size {E : Ents} {i : Nat} (h : entOk E i = true) : (E.U i).size ≤ 281474976710656 := by
  unfold entOk entryOkB keyOkB at h
  simp only [Bool.and_eq_true, decide_eq_true_eq] at h
  omega
theorem entX_size {E : Ents} {i : Nat} (h : entOk E i = true) : (E.X i).size ≤ 281474976710656 := by
  unfold entOk entryOkB keyOkB at h
  simp only [Bool.and_eq_true, decide_eq_true_eq] at h
  omega
set_option linter.unusedVariables false in
set_option maxHeartbeats 4000000 in
theorem impl_Compacted (a : Option Addr) (len cap : Nat) (E : Ents) (b : Option Addr) (n ncap : Nat) (S : Nat → Int) (bottom : Bool) (w : World) (hl : len ≤ 1048576) (hn : n ≤ 1048576) (hS : EntAt w w.heap.size a len E) (hI : IntAt w w.heap.size b n S) :
    Calls Try.prog 21 #[.slice a len cap, .slice b n ncap, .bool bottom] w fun e w' => (∃ v, e = .returned v ∧ MineE w' w.heap.size v ((compL E len S n bottom).map (entryAt1 E))) ∧ Below w.heap.size w w' := by
  have HS := hS.hid
  have HI := hI.hid
  clear hS hI
  refine (callsIn_wide (n := 6)).1 ?_
  refine callsIn_of_wp_marks Try.func21 rfl trivial ?_ rfl
  simp only [Try.ntmps21, List.size_toArray, List.length_cons, List.length_nil, Nat.reduceAdd, Nat.reduceSub, Array.replicate_succ, Array.replicate_zero, List.push_toArray, List.append_toArray, List.nil_append, List.cons_append]
  gi_wp2
  refine ⟨trivial, ?_⟩
  refine (callsIn_wide.2 (impl_staying bottom _)).mono ?_
  rintro e W1 ⟨⟨bb, g, rfl, hgB, hG, hBB⟩, hB1⟩
  have hz1 := hB1.size
  have HL : Hid (BoxIs W1 w.heap.size #[.slice a len cap] 29) := ((BoxIs.new w #[.slice a len cap] 29 rfl).next (below_one _ _)).next hB1
  have HR : Hid (BoxIs W1 (w.heap.size + 1) #[.slice none 0 0] 29) := (BoxIs.new (w.alloc (.cells #[.slice a len cap] 29)) #[.slice none 0 0] 29 (g := w.heap.size + 1) (by simp)).next hB1
  have hB0 : Below w.heap.size w W1 := (((Below.refl _ w).alloc (Nat.le_refl _) _).alloc (by simp) _).trans (hB1.mono (by simp; omega))
  simp only [World.size_alloc] at hgB hz1
  have hgl := hG.lt
  have HG := hG.hid
  have HBB := hBB.hid
  have HB0 := hide hB0
  have hl1 : W1.cell? ⟨w.heap.size, 0, none⟩ = some (.slice a len cap) := HL.out.cell 0
  have hlt1 := HL.out.lt
  clear hB1 hG hBB hB0
  gi_wp2
  refine ⟨trivial, ?_⟩
  have hb2 := below_one W1 (.cells #[stayF bb g] 56)
  have HB2 : Hid (Below w.heap.size w (W1.alloc (.cells #[stayF bb g] 56))) := HB0.out.trans (hb2.mono HB0.out.size)
  have HC2 : Hid (BoxIs (W1.alloc (.cells #[stayF bb g] 56)) W1.heap.size #[stayF bb g] 56) := BoxIs.new _ _ _ rfl
  have HL2 := (HL.out.next hb2).hid
  have HR2 := (HR.out.next hb2).hid
  have HG2 := (HG.out.next hb2).hid
  have HBB2 := (HBB.out.next hb2).hid
  refine (callsIn_wide.2 (impl_Needed a len cap E b n ncap S _ hl hn ((HS.out.below HB2.out).mono HB2.out.size) ((HI.out.below HB2.out).mono HB2.out.size))).mono ?_
  rintro e W2 ⟨⟨v2, rfl, hO2⟩, hB2⟩
  have HB3 := hide (HB2.out.trans (hB2.mono HB2.out.size))
  have HC3 := (HC2.out.next hB2).hid
  have HL3 := (HL2.out.next hB2).hid
  have HR3 := (HR2.out.next hB2).hid
  have HG3 := (HG2.out.next hB2).hid
  have HBB3 := (HBB2.out.next hB2).hid
  obtain ⟨m, hm1, hmp, hml⟩ : ∃ m, m ≤ 1000 ∧ (∀ p, p < m → p < len ∧ rowOkB E len = true) ∧ (∀ p, p ∈ neededN E len S n → p < m) ∧ (neededN E len S n).length ≤ m := by
    cases hok : rowOkB E len with
    | true => exact ⟨len, by have := (rowOk_out hok).1; omega, fun p hp => ⟨hp, rfl⟩, neededN_lt E len S n, neededN_len E len S n⟩
    | false =>
      have h0 : neededN E len S n = [] := by unfold neededN; rw [if_neg (by rw [hok]; simp)]
      exact ⟨0, by omega, fun p hp => by omega, by rw [h0]; simp, by rw [h0]; simp⟩
  obtain ⟨NS, hNS⟩ := plcs (neededN E len S n) hml.1
  have hneed : needed E len S n = NS.map (fun p => (p.1 : Int)) := by rw [needed_N, ← hNS]; simp
  have hNle : NS.length ≤ 1000 := by rw [show NS.length = (neededN E len S n).length by rw [← hNS]; simp]; omega
  obtain ⟨na, np, nb, rfl, hna, hnbB, hnbz, _, hnr⟩ := own_plcs NS hneed hO2 hB2.size
  have HNS := hide hNS
  have HNR := hide hnr
  have HNA := hide hna
  have HMP := hide hmp
  have hz2 := hB2.size
  simp only [World.size_alloc] at hnbB hz2
  clear hO2 hB2 hNS hneed hnr hna HB2 HC2 HL2 HR2 HG2 HBB2 hb2 HL HR HG HBB HB0 hl1 hml hmp
  gi_wp2
  refine ⟨trivial, ?_⟩
  refine (callsIn_wide.2 (lib_Backward _ W2 ⟨_, _, _, rfl⟩)).mono ?_
  rintro e W3 ⟨rfl, hW3⟩
  have hb3 : Below W2.heap.size W2 W3 := by rw [hW3]; exact below_one _ _
  have hBd : BoxIs W3 W2.heap.size #[.slice na NS.length np] 22 := by rw [hW3]; exact BoxIs.new _ _ _ rfl
  have hz3 : W3.heap.size = W2.heap.size + 1 := by rw [hW3]; simp
  clear hW3
  obtain ⟨c, cT, cB, cbr, cg, cbb, cbc, cbl, cBd, cnb, cw, cbo, clv, coB, coN⟩ : ∃ c : CP, c.T = W3.heap.size ∧ c.B = w.heap.size ∧ c.br = w.heap.size + 1 ∧ c.g = g ∧ c.bb = bb ∧ c.bc = W1.heap.size ∧ c.bl = w.heap.size ∧ c.Bd = W2.heap.size ∧ c.nb = nb ∧ c.w0 = w ∧ c.bottom = bottom ∧ c.lv = .slice a len cap ∧ c.oB = W3.heap[W2.heap.size]? ∧ c.oN = W3.heap[nb]? :=
    ⟨⟨W3.heap.size, w.heap.size, w.heap.size + 1, g, bb, W1.heap.size, w.heap.size, W2.heap.size, nb, w, bottom, .slice a len cap, W3.heap[W2.heap.size]?, W3.heap[nb]?⟩, rfl, rfl, rfl, rfl, rfl, rfl, rfl, rfl, rfl, rfl, rfl, rfl, rfl, rfl⟩
  have hok : c.Ok := by
    have hbl := HBB3.out.lt
    constructor <;> simp only [cT, cB, cbr, cg, cbb, cbc, cbl, cBd, cnb, cw] <;> omega
  have HCI : Hid (CI c (.slice none 0 0) [] ⟨#[]⟩ W3) := by
    constructor
    · exact OwnEntry.nil _ _
    · rw [cbr]; exact HR3.out.next hb3
    · rw [cg]; exact HG3.out.next hb3
    · rw [cbb, cbo]; exact HBB3.out.next hb3
    · rw [cbc, cbb, cg]; exact HC3.out.next hb3
    · rw [cbl, clv]; exact HL3.out.next hb3
    · rw [cBd, coB]
    · rw [cnb, coN]
    · rw [cT]; exact Nat.le_refl _
    · rw [cB, cw]; exact HB3.out.trans (hb3.mono HB3.out.size)
  have HNR3 : Hid (∀ (i : Nat) (p : Plc m), NS[i]? = some p → W3.cell? ⟨nb, i, none⟩ = some (.int .i64 (p.1 : Int))) := fun i p hp => by
    have h := HNR.out i p hp
    have hlt : nb < W2.heap.size := by
      rcases HNA.out with h0 | h0
      · have := (List.getElem?_eq_some_iff.1 hp).1; omega
      · exact Nat.lt_of_le_of_ne hnbz (fun e => by rw [e] at h; simp [World.cell?] at h)
    exact (hb3.cell (p := ⟨nb, i, none⟩) hlt).trans h
  have HBd := hBd.hid
  have h1 : W2.heap.size < W3.heap.size := by omega
  have h2 : nb < W3.heap.size := by omega
  clear hb3 hBd HB3 HC3 HL3 HR3 HG3 HBB3 HNR
  gi_wp2
  refine wpIn_rangeFunc_ownG (F := Fence.wide) rfl (by decide) (gf := 59) (lb := #[.pointer (some ⟨W2.heap.size, 0, none⟩)]) rfl trivial (enters_of Try.func59 (by kernel_rfl) rfl)
    (bkw_stops (m := m) (by omega) (6 - 1) (by decide) W2.heap.size nb np na NS (by omega) W3 h1 h2 (HBd.out.cell 0) HNA.out HNR3.out) (fun h k => KeepB.trans h k) (KeepB.turn h1 h2) (Below.refl _ _) (fun _ => rfl)
    (fun pre W => ∃ v, CI c v ((runR E bottom (pre.map fun x => x.2.1)).1.map (entryAt1 E)) (runR E bottom (pre.map fun x => x.2.1)).2 W)
    (fun _ _ _ => False) (cT ▸ CI.from hok (fun (pre : List (Nat × Plc m)) => (runR E bottom (pre.map fun x => x.2.1)).1.map (entryAt1 E)) (fun pre => (runR E bottom (pre.map fun x => x.2.1)).2)) (fun _ _ _ _ _ hs _ _ => hs) ⟨_, HCI.out⟩
    (fun x => { tmps := #[.slice a len cap, .slice b n ncap, .bool bottom, .pointer (some ⟨w.heap.size, 0, none⟩), undef, undef, .slice none 0 0, .pointer (some ⟨w.heap.size + 1, 0, none⟩), .pointer (some ⟨W1.heap.size, 0, none⟩), undef, .int .i64 (x.2.1 : Int), undef, .bool bottom, stayF bb g, .slice a len cap, .slice b n ncap, .slice na NS.length np, .func (.func 59) #[] #[.pointer (some ⟨W2.heap.size, 0, none⟩)], .int .i64 (x.1 : Int), .int .i64 (x.2.1 : Int), undef, undef, undef, undef, undef, undef, undef, undef, undef, undef, undef, undef, undef, undef, undef, undef], defers := [] }) ?assign ?body ?done ?stop
  case assign =>
    intro l x W K hK
    simp only [bkwE]
    gi_wp2
    exact hK
  case stop =>
    rintro D c pre W _ _ h _
    exact h.elim
  case done =>
    rintro D ys W hD rfl ⟨v, hci⟩ hK
    have hpl : (bkw NS NS.length).map (fun x => x.2.1) = (neededN E len S n).reverse := by rw [bkw_places NS NS.length (Nat.le_refl _), List.take_length, HNS.out]
    have hlen2 : (runR E bottom (neededN E len S n).reverse).1.length ≤ 1000 := by
      refine Nat.le_trans (runR_len _ _ _) ?_
      rw [List.length_reverse, ← HNS.out, List.length_map]; exact hNle
    have hus : ∀ p, p ∈ neededN E len S n → ¬ E.U p = ⟨#[]⟩ := by
      intro p hp e
      obtain ⟨q, hq⟩ : ∃ q : Plc m, q.1 = p := by
        rw [← HNS.out, List.mem_map] at hp
        obtain ⟨q, _, hq⟩ := hp
        exact ⟨q, hq⟩
      have h := HMP.out q.1 q.2
      rw [hq] at h
      have h3 := entU_some ((rowOk_out h.2).2 p h.1).1
      rw [e] at h3
      exact absurd h3 (by decide)
    rw [hpl] at hci
    have hcmp := (runR_comp bottom (neededN E len S n) hus).1
    obtain ⟨es, hes⟩ : ∃ es, es = (runR E bottom (neededN E len S n).reverse).1.map (entryAt1 E) := ⟨_, rfl⟩
    have HRES : Hid ((compL E len S n bottom).map (entryAt1 E) = es.reverse) := by
      show _ = _
      rw [compL_N, ← hcmp, hes, List.map_reverse]
    have hesl : es.length ≤ 1000 := by rw [hes, List.length_map]; exact hlen2
    rw [← hes] at hci
    clear hpl hlen2 hus hcmp hes
    have hbr := hci.box.cell 0
    have hltr := hci.box.lt
    rw [cbr] at hbr hltr
    simp only [List.getElem?_toArray, List.getElem?_cons_zero] at hbr
    have hsz := hci.size
    have hBw := hci.below
    rw [cT] at hsz
    rw [cB, cw] at hBw
    obtain ⟨ra, rp, rfl, hM⟩ := hci.row.mine
    rw [cT] at hM
    have HBW := hide hBw
    have HKD := hide hK
    clear hci hBw hK
    have hBz := HBW.out.size
    rcases Nat.eq_zero_or_pos es.length with h0 | h0
    · have hl0 : es = [] := List.length_eq_zero_iff.1 h0
      subst hl0
      have HM : Hid (MineE W w.heap.size (.slice ra 0 rp) ([] : List Entry1).reverse) := ⟨ra, rp, rfl, by
        rcases hM with h | ⟨g', cur, ha, hB, hh, hn', hc⟩
        · exact .inl h
        · exact .inr ⟨g', cur, ha, by omega, hh, hn', hc⟩⟩
      clear hM
      gi_wp2
      refine ⟨trivial, ?_⟩
      refine (callsIn_wide.2 (lib_ReverseE0 ra rp W)).mono ?_
      rintro e W7 ⟨rfl, hb7⟩
      have hbr7 := (hb7.cell (p := ⟨w.heap.size + 1, 0, none⟩) hltr).trans hbr
      have HK7 : Hid (W7.heap[D]? = some (.deferred (some []))) := (hb7.block D (Array.getElem?_eq_some_iff.1 HKD.out).1).trans HKD.out
      have HB7 := hide (HBW.out.trans (hb7.mono hBz))
      have HM7 : Hid (MineE W7 w.heap.size (.slice ra 0 rp) ([] : List Entry1).reverse) := by
        obtain ⟨a', p', hv, hm⟩ := HM.out
        exact ⟨a', p', hv, hm.next hb7⟩
      clear hb7 HM HKD HBW hbr
      gi_wp2
      refine ⟨by simp, .inl ⟨_, _, rfl, run_takeDeferred HK7.out, ?_⟩⟩
      refine ⟨_, results_tmp rfl _ _ _, ⟨_, rfl, ?_⟩, HB7.out.trans (belowK_b (w := W3) (by omega) W7 D _ _ hD HK7.out rfl rfl)⟩
      rw [HRES.out]
      obtain ⟨a', p', hv, hm⟩ := HM7.out
      exact ⟨a', p', hv, hm.far _ HK7.out rfl⟩
    · obtain ⟨g', rfl, hg', hh'⟩ : ∃ g', ra = some ⟨g', 0, none⟩ ∧ W3.heap.size ≤ g' ∧ ∃ cur, W.heap[g']? = some (.cells cur 45) := by
        rcases hM with ⟨_, _, h⟩ | ⟨g', cur, ha, hB, hh, _⟩
        · omega
        · exact ⟨g', ha, hB, cur, hh⟩
      obtain ⟨nn, hnn⟩ : ∃ nn, es.length = nn := ⟨_, rfl⟩
      have hrl : es.reverse.length = nn := by simp [hnn]
      rw [hnn] at hesl h0 hM hbr
      have HN := hide hnn
      have HRL := hide hrl
      clear hnn hrl
      gi_wp2
      refine ⟨trivial, ?_⟩
      refine (callsIn_wide.2 (lib_ReverseE g' rp nn (fnEntry es) W3.heap.size W h0 hesl hM)).mono ?_
      rintro e W7 ⟨rfl, hv, i, mm, hE, hlt, hm⟩
      have hbr7 := (hv.cell (p := ⟨w.heap.size + 1, 0, none⟩) hltr (by show w.heap.size + 1 ≠ g'; omega)).trans hbr
      have HK7 : Hid (W7.heap[D]? = some (.deferred (some []))) := by
        refine (hv.block D (Array.getElem?_eq_some_iff.1 HKD.out).1 ?_).trans HKD.out
        intro e
        obtain ⟨cur, hc⟩ := hh'
        have := HKD.out
        rw [e, hc] at this
        cases this
      have HB7 := hide (HBW.out.trans (hv.below hBz (by omega)))
      have HM7 : Hid (MineE W7 w.heap.size (.slice (some ⟨g', 0, none⟩) nn rp) es.reverse) := by
        refine ⟨some ⟨g', 0, none⟩, rp, by rw [HRL.out], ?_⟩
        rw [HRL.out]
        have hm2 := hm.congr fun c hc => revE_end HN.out hE hlt hc
        rcases hm2 with h | ⟨g2, cur, ha, hB, hh, hn', hc⟩
        · exact .inl h
        · exact .inr ⟨g2, cur, ha, by omega, hh, hn', hc⟩
      clear hv hE hlt hm hM HKD HBW hbr
      gi_wp2
      refine ⟨by simp, .inl ⟨_, _, rfl, run_takeDeferred HK7.out, ?_⟩⟩
      refine ⟨_, results_tmp rfl _ _ _, ⟨_, rfl, ?_⟩, HB7.out.trans (belowK_b (w := W3) (by omega) W7 D _ _ hD HK7.out rfl rfl)⟩
      rw [HRES.out]
      obtain ⟨a', p', hv, hm⟩ := HM7.out
      exact ⟨a', p', hv, hm.far _ HK7.out rfl⟩
  case body =>
    rintro l pre ⟨i, p, hp⟩ W ⟨v, hci⟩ hlt
    obtain ⟨hpl, hrow⟩ := HMP.out p hp
    have hmap : (pre ++ [((i, ⟨p, hp⟩) : Nat × Plc m)]).map (fun x => x.2.1) = pre.map (fun x => x.2.1) ++ [p] := by simp
    have hrl : (runR E bottom (pre.map fun x => x.2.1)).1.length ≤ 1000 := Nat.le_trans (runR_len _ _ _) (by simp; omega)
    obtain ⟨pl, hplc⟩ : ∃ pl, pl = pre.map (fun x => x.2.1) := ⟨_, rfl⟩
    have HMAP : Hid ((pre ++ [((i, ⟨p, hp⟩) : Nat × Plc m)]).map (fun x => x.2.1) = pl ++ [p]) := by rw [hplc]; exact hmap
    rw [← hplc] at hci hrl
    clear hmap hplc
    have HE := (HS.out.below (by have := hci.below; rw [cB, cw] at this; exact this)).at hpl
    obtain ⟨b', off, rfl, hb', c0, c1, c2, c3⟩ := HE
    have hbl := hci.bl.cell 0
    have hbc := hci.bc.cell 0
    have hlb := hci.bl.lt
    have hlc := hci.bc.lt
    rw [cbl, clv] at hbl
    rw [cbl] at hlb
    rw [cbc, cbb, cg] at hbc
    rw [cbc] at hlc
    simp only [List.getElem?_toArray, List.getElem?_cons_zero] at hbl hbc
    have hji : (p : Int) < (len : Int) := by omega
    have hj0 : (0 : Int) ≤ (p : Int) := by omega
    have hwz := hci.size
    have hbz := hci.below.size
    rw [cw] at hbz
    have hbW : b' < W.heap.size := by omega
    have HCIW := hide hci
    clear hci
    have hb5 := below_one W (.cells #[.string (E.U p), .int .i64 (E.Q p), .int .i64 (E.K p), .string (E.X p)] 45)
    have hci5 := HCIW.out.next hok hb5
    have HEB5 : Hid (BoxIs (W.alloc (.cells #[.string (E.U p), .int .i64 (E.Q p), .int .i64 (E.K p), .string (E.X p)] 45)) W.heap.size #[.string (E.U p), .int .i64 (E.Q p), .int .i64 (E.K p), .string (E.X p)] 45) := BoxIs.new _ _ _ rfl
    have HK5 : Hid (KeepsFrom W3.heap.size W (W.alloc (.cells #[.string (E.U p), .int .i64 (E.Q p), .int .i64 (E.K p), .string (E.X p)] 45))) := KeepsFrom.of_next hb5
    have HCI5 := hide hci5
    clear hb5 hci5
    gi_wp2
    refine ⟨trivial, ?_⟩
    have hg5 := HCI5.out.g
    have hbb5 := HCI5.out.bb
    rw [cg] at hg5
    rw [cbb, cbo] at hbb5
    refine (CallsIn.inRound l (callsIn_wide.2 (impl_stay bottom (runR E bottom pl).2 (E.U p) (E.Q p) (E.K p) _ w.heap.size g bb (by omega) (by simp; omega) hg5 hbb5))).mono ?_
    rintro e W6 ⟨rfl, hsm, hmv, hg6⟩
    have HCI6 : Hid (CI c v ((runR E bottom pl).1.map (entryAt1 E)) (runR E bottom (pl ++ [p])).2 W6) := by
      rw [runR_last]
      exact HCI5.out.stay hok (by rw [cB]; exact hsm) (by rw [cg]; exact hmv) (by rw [cg]; exact hg6)
    have hne : W.heap.size ≠ g := by omega
    have HEB6 := (HEB5.out.mv hmv hne).hid
    have HK6 : Hid (KeepsFrom W3.heap.size W W6) := HK5.out.trans (KeepsFrom.of_mv hmv (by omega))
    clear hg5 hbb5 hsm hmv hg6 HCI5 HEB5 HK5
    cases hst : st bottom (runR E bottom pl).2 (E.U p) (E.K p) with
    | false =>
      gi_wp2
      refine ⟨HK6.out, ?_, v, ?_⟩
      · have := HCIW.out.keep HCI6.out
        rw [cBd, cnb] at this
        exact this
      · rw [HMAP.out, runR_no hst]
        exact HCI6.out
    | true =>
      have hent := (rowOk_out hrow).2 p hpl
      have hu := entU_size hent.1
      have hx := entX_size hent.1
      clear hent
      have hdr : Below W6.heap.size W6 W6.drew := (Below.refl _ _).drew
      have F0_0 := HCI6.out.next hok hdr
      have F1_0 := HEB6.out.next hdr
      have F2_0 := HK6.out.trans (KeepsFrom.of_next hdr)
      have HEND : Hid (∀ (v' : Value) (X : World), CI c v' ((runR E bottom pl).1.map (entryAt1 E) ++ [entryAt1 E p]) (runR E bottom (pl ++ [p])).2 X → KeepsFrom W3.heap.size W X →
          KeepsFrom W3.heap.size W X ∧ KeepB W2.heap.size nb W X ∧ ∃ v, CI c v ((runR E bottom ((pre ++ [((i, ⟨p, hp⟩) : Nat × Plc m)]).map fun x => x.2.1)).1.map (entryAt1 E)) (runR E bottom ((pre ++ [((i, ⟨p, hp⟩) : Nat × Plc m)]).map fun x => x.2.1)).2 X) := by
        intro v' X h k
        have hkp := HCIW.out.keep h
        rw [cBd, cnb] at hkp
        refine ⟨k, hkp, v', ?_⟩
        rw [HMAP.out, runR_yes hst, List.map_append]
        exact h
      clear HCI6 HEB6 HK6 HMAP hdr hbl hbc c0 c1 c2 c3
      have hmx : Try.prog.follows .mixedOrders = true := by kernel_rfl
      gi_wp2_with fail
      refine wpIn_region_any hmx ?_
      change wpAnyIn _ _ _ _ _ _ _ _ _ W6.drew
      generalize W6.drew = X0 at F0_0 F1_0 F2_0 ⊢
      refine wpAnyIn_ready (rs := [0, 1]) (by kernel_rfl) (by simp) ?_
      refine AllReadyIn.cons nat0 (fun K hK => ?_) (AllReadyIn.cons nat1 (fun K hK => ?_) AllReadyIn.nil)
      · have yl := F0_0.box.cell 0
        rw [cbr] at yl
        simp only [List.getElem?_toArray, List.getElem?_cons_zero] at yl
        go_simp
        refine hK _ _ ?_
        clear hK K yl
        refine wpAnyIn_ready (rs := [1]) (by kernel_rfl) (by simp) ?_
        refine AllReadyIn.cons nat1 (fun K hK => ?_) AllReadyIn.nil
        have y0 := F1_0.cell 0
        have y1 := F1_0.cell 1
        have y2 := F1_0.cell 2
        have y3 := F1_0.cell 3
        simp only [List.getElem?_toArray, List.getElem?_cons_succ, List.getElem?_cons_zero] at y0 y1 y2 y3
        go_simp
        refine hK _ _ ?_
        clear hK K y0 y1 y2 y3
        refine wpAnyIn_ready (rs := [2]) (by kernel_rfl) (by simp) ?_
        refine AllReadyIn.cons nat2 (fun K hK => ?_) AllReadyIn.nil
        go_simp
        refine ⟨trivial, ?_⟩
        refine (CallsIn.inRound l (callsIn_wide.2 (impl_copyEntry (E.U p) (E.Q p) (E.K p) (E.X p) _ hu hx))).mono ?_
        rintro e X3 ⟨rfl, hb3⟩
        have F0_3 := F0_0.next hok hb3
        have F1_3 := F1_0.next hb3
        have F2_3 := F2_0.trans (KeepsFrom.of_next hb3)
        refine hK _ _ ?_
        clear hK K hb3 F0_0 F1_0 F2_0
        refine wpAnyIn_ready (rs := [3]) (by kernel_rfl) (by simp) ?_
        refine AllReadyIn.cons nat3 (fun K hK => ?_) AllReadyIn.nil
        have hb4 := below_one X3 (.cells #[.string (E.U p), .int .i64 (E.Q p), .int .i64 (E.K p), .string (E.X p)] 45)
        have F0_4 := F0_3.next hok hb4
        have F1_4 := F1_3.next hb4
        have F2_4 := F2_3.trans (KeepsFrom.of_next hb4)
        have F3_4 := BoxIs.new X3 #[.string (E.U p), .int .i64 (E.Q p), .int .i64 (E.K p), .string (E.X p)] 45 rfl
        go_simp
        refine hK _ _ ?_
        clear hK K hb4 F0_3 F1_3 F2_3
        obtain ⟨G4, hG4⟩ : ∃ G, G = X3.heap.size := ⟨_, rfl⟩
        rw [← hG4] at F3_4 ⊢
        generalize X3.alloc (.cells #[.string (E.U p), .int .i64 (E.Q p), .int .i64 (E.K p), .string (E.X p)] 45) = X4 at F0_4 F1_4 F2_4 F3_4 ⊢
        clear hG4
        refine wpAnyIn_ready (rs := [4]) (by kernel_rfl) (by simp) ?_
        refine AllReadyIn.cons nat4 (fun K hK => ?_) AllReadyIn.nil
        have hnw := entry_news (e := entryAt1 E p) F3_4
        refine stepIn_append_entry rfl _ _ 29 rfl Try.underlying29 c.T v ((runR E bottom pl).1.map (entryAt1 E)) [entryAt1 E p] (by rfl) F0_4.row ⟨G4, 0, none⟩ 1 1 (by rfl) rfl hnw F0_4.size (by simp; omega) ?_
        intro v' X5 hown hgr
        obtain ⟨va, vn, vp, rfl⟩ := hown.shapeN
        obtain ⟨hbx, hci⟩ := F0_4.grown hok hown hgr
        have HK5 := F2_4.trans (F0_4.row.keepsFrom (T := W3.heap.size) hgr)
        clear hown hgr hnw F0_4 F1_4 F2_4 F3_4
        refine hK _ _ ?_
        clear hK K
        refine wpAnyIn_ready (rs := [5]) (by kernel_rfl) (by simp) ?_
        refine AllReadyIn.cons nat5 (fun K hK => ?_) AllReadyIn.nil
        have yl := hbx.cell 0
        have yf := hbx.free 0
        rw [cbr] at yl yf
        simp only [List.getElem?_toArray, List.getElem?_cons_zero] at yl
        rw [cbr] at hci
        go_simp
        refine hK _ _ ?_
        clear hK K yl yf
        have HKE := HK5.trans (KeepsFrom.of_set (T := W3.heap.size) (g := w.heap.size + 1) (v := .slice va vn vp) 0 (by omega))
        refine wpAnyIn_done (by kernel_rfl) ?_ _
        exact HEND.out _ _ hci HKE
      · have y0 := F1_0.cell 0
        have y1 := F1_0.cell 1
        have y2 := F1_0.cell 2
        have y3 := F1_0.cell 3
        simp only [List.getElem?_toArray, List.getElem?_cons_succ, List.getElem?_cons_zero] at y0 y1 y2 y3
        go_simp
        refine hK _ _ ?_
        clear hK K y0 y1 y2 y3
        refine wpAnyIn_ready (rs := [0, 2]) (by kernel_rfl) (by simp) ?_
        refine AllReadyIn.cons nat0 (fun K hK => ?_) (AllReadyIn.cons nat2 (fun K hK => ?_) AllReadyIn.nil)
        · have yl := F0_0.box.cell 0
          rw [cbr] at yl
          simp only [List.getElem?_toArray, List.getElem?_cons_zero] at yl
          go_simp
          refine hK _ _ ?_
          clear hK K yl
          refine wpAnyIn_ready (rs := [2]) (by kernel_rfl) (by simp) ?_
          refine AllReadyIn.cons nat2 (fun K hK => ?_) AllReadyIn.nil
          go_simp
          refine ⟨trivial, ?_⟩
          refine (CallsIn.inRound l (callsIn_wide.2 (impl_copyEntry (E.U p) (E.Q p) (E.K p) (E.X p) _ hu hx))).mono ?_
          rintro e X9 ⟨rfl, hb9⟩
          have F0_9 := F0_0.next hok hb9
          have F1_9 := F1_0.next hb9
          have F2_9 := F2_0.trans (KeepsFrom.of_next hb9)
          refine hK _ _ ?_
          clear hK K hb9 F0_0 F1_0 F2_0
          refine wpAnyIn_ready (rs := [3]) (by kernel_rfl) (by simp) ?_
          refine AllReadyIn.cons nat3 (fun K hK => ?_) AllReadyIn.nil
          have hb10 := below_one X9 (.cells #[.string (E.U p), .int .i64 (E.Q p), .int .i64 (E.K p), .string (E.X p)] 45)
          have F0_10 := F0_9.next hok hb10
          have F1_10 := F1_9.next hb10
          have F2_10 := F2_9.trans (KeepsFrom.of_next hb10)
          have F3_10 := BoxIs.new X9 #[.string (E.U p), .int .i64 (E.Q p), .int .i64 (E.K p), .string (E.X p)] 45 rfl
          go_simp
          refine hK _ _ ?_
          clear hK K hb10 F0_9 F1_9 F2_9
          obtain ⟨G10, hG10⟩ : ∃ G, G = X9.heap.size := ⟨_, rfl⟩
          rw [← hG10] at F3_10 ⊢
          generalize X9.alloc (.cells #[.string (E.U p), .int .i64 (E.Q p), .int .i64 (E.K p), .string (E.X p)] 45) = X10 at F0_10 F1_10 F2_10 F3_10 ⊢
          clear hG10
          refine wpAnyIn_ready (rs := [4]) (by kernel_rfl) (by simp) ?_
          refine AllReadyIn.cons nat4 (fun K hK => ?_) AllReadyIn.nil
          have hnw := entry_news (e := entryAt1 E p) F3_10
          refine stepIn_append_entry rfl _ _ 29 rfl Try.underlying29 c.T v ((runR E bottom pl).1.map (entryAt1 E)) [entryAt1 E p] (by rfl) F0_10.row ⟨G10, 0, none⟩ 1 1 (by rfl) rfl hnw F0_10.size (by simp; omega) ?_
          intro v' X11 hown hgr
          obtain ⟨va, vn, vp, rfl⟩ := hown.shapeN
          obtain ⟨hbx, hci⟩ := F0_10.grown hok hown hgr
          have HK11 := F2_10.trans (F0_10.row.keepsFrom (T := W3.heap.size) hgr)
          clear hown hgr hnw F0_10 F1_10 F2_10 F3_10
          refine hK _ _ ?_
          clear hK K
          refine wpAnyIn_ready (rs := [5]) (by kernel_rfl) (by simp) ?_
          refine AllReadyIn.cons nat5 (fun K hK => ?_) AllReadyIn.nil
          have yl := hbx.cell 0
          have yf := hbx.free 0
          rw [cbr] at yl yf
          simp only [List.getElem?_toArray, List.getElem?_cons_zero] at yl
          rw [cbr] at hci
          go_simp
          refine hK _ _ ?_
          clear hK K yl yf
          have HKE := HK11.trans (KeepsFrom.of_set (T := W3.heap.size) (g := w.heap.size + 1) (v := .slice va vn vp) 0 (by omega))
          refine wpAnyIn_done (by kernel_rfl) ?_ _
          exact HEND.out _ _ hci HKE
        · go_simp
          refine ⟨trivial, ?_⟩
          refine (CallsIn.inRound l (callsIn_wide.2 (impl_copyEntry (E.U p) (E.Q p) (E.K p) (E.X p) _ hu hx))).mono ?_
          rintro e X13 ⟨rfl, hb13⟩
          have F0_13 := F0_0.next hok hb13
          have F1_13 := F1_0.next hb13
          have F2_13 := F2_0.trans (KeepsFrom.of_next hb13)
          refine hK _ _ ?_
          clear hK K hb13 F0_0 F1_0 F2_0
          refine wpAnyIn_ready (rs := [0, 3]) (by kernel_rfl) (by simp) ?_
          refine AllReadyIn.cons nat0 (fun K hK => ?_) (AllReadyIn.cons nat3 (fun K hK => ?_) AllReadyIn.nil)
          · have yl := F0_13.box.cell 0
            rw [cbr] at yl
            simp only [List.getElem?_toArray, List.getElem?_cons_zero] at yl
            go_simp
            refine hK _ _ ?_
            clear hK K yl
            refine wpAnyIn_ready (rs := [3]) (by kernel_rfl) (by simp) ?_
            refine AllReadyIn.cons nat3 (fun K hK => ?_) AllReadyIn.nil
            have hb15 := below_one X13 (.cells #[.string (E.U p), .int .i64 (E.Q p), .int .i64 (E.K p), .string (E.X p)] 45)
            have F0_15 := F0_13.next hok hb15
            have F1_15 := F1_13.next hb15
            have F2_15 := F2_13.trans (KeepsFrom.of_next hb15)
            have F3_15 := BoxIs.new X13 #[.string (E.U p), .int .i64 (E.Q p), .int .i64 (E.K p), .string (E.X p)] 45 rfl
            go_simp
            refine hK _ _ ?_
            clear hK K hb15 F0_13 F1_13 F2_13
            obtain ⟨G15, hG15⟩ : ∃ G, G = X13.heap.size := ⟨_, rfl⟩
            rw [← hG15] at F3_15 ⊢
            generalize X13.alloc (.cells #[.string (E.U p), .int .i64 (E.Q p), .int .i64 (E.K p), .string (E.X p)] 45) = X15 at F0_15 F1_15 F2_15 F3_15 ⊢
            clear hG15
            refine wpAnyIn_ready (rs := [4]) (by kernel_rfl) (by simp) ?_
            refine AllReadyIn.cons nat4 (fun K hK => ?_) AllReadyIn.nil
            have hnw := entry_news (e := entryAt1 E p) F3_15
            refine stepIn_append_entry rfl _ _ 29 rfl Try.underlying29 c.T v ((runR E bottom pl).1.map (entryAt1 E)) [entryAt1 E p] (by rfl) F0_15.row ⟨G15, 0, none⟩ 1 1 (by rfl) rfl hnw F0_15.size (by simp; omega) ?_
            intro v' X16 hown hgr
            obtain ⟨va, vn, vp, rfl⟩ := hown.shapeN
            obtain ⟨hbx, hci⟩ := F0_15.grown hok hown hgr
            have HK16 := F2_15.trans (F0_15.row.keepsFrom (T := W3.heap.size) hgr)
            clear hown hgr hnw F0_15 F1_15 F2_15 F3_15
            refine hK _ _ ?_
            clear hK K
            refine wpAnyIn_ready (rs := [5]) (by kernel_rfl) (by simp) ?_
            refine AllReadyIn.cons nat5 (fun K hK => ?_) AllReadyIn.nil
            have yl := hbx.cell 0
            have yf := hbx.free 0
            rw [cbr] at yl yf
            simp only [List.getElem?_toArray, List.getElem?_cons_zero] at yl
            rw [cbr] at hci
            go_simp
            refine hK _ _ ?_
            clear hK K yl yf
            have HKE := HK16.trans (KeepsFrom.of_set (T := W3.heap.size) (g := w.heap.size + 1) (v := .slice va vn vp) 0 (by omega))
            refine wpAnyIn_done (by kernel_rfl) ?_ _
            exact HEND.out _ _ hci HKE
          · have hb18 := below_one X13 (.cells #[.string (E.U p), .int .i64 (E.Q p), .int .i64 (E.K p), .string (E.X p)] 45)
            have F0_18 := F0_13.next hok hb18
            have F1_18 := F1_13.next hb18
            have F2_18 := F2_13.trans (KeepsFrom.of_next hb18)
            have F3_18 := BoxIs.new X13 #[.string (E.U p), .int .i64 (E.Q p), .int .i64 (E.K p), .string (E.X p)] 45 rfl
            go_simp
            refine hK _ _ ?_
            clear hK K hb18 F0_13 F1_13 F2_13
            obtain ⟨G18, hG18⟩ : ∃ G, G = X13.heap.size := ⟨_, rfl⟩
            rw [← hG18] at F3_18 ⊢
            generalize X13.alloc (.cells #[.string (E.U p), .int .i64 (E.Q p), .int .i64 (E.K p), .string (E.X p)] 45) = X18 at F0_18 F1_18 F2_18 F3_18 ⊢
            clear hG18
            refine wpAnyIn_ready (rs := [0]) (by kernel_rfl) (by simp) ?_
            refine AllReadyIn.cons nat0 (fun K hK => ?_) AllReadyIn.nil
            have yl := F0_18.box.cell 0
            rw [cbr] at yl
            simp only [List.getElem?_toArray, List.getElem?_cons_zero] at yl
            go_simp
            refine hK _ _ ?_
            clear hK K yl
            refine wpAnyIn_ready (rs := [4]) (by kernel_rfl) (by simp) ?_
            refine AllReadyIn.cons nat4 (fun K hK => ?_) AllReadyIn.nil
            have hnw := entry_news (e := entryAt1 E p) F3_18
            refine stepIn_append_entry rfl _ _ 29 rfl Try.underlying29 c.T v ((runR E bottom pl).1.map (entryAt1 E)) [entryAt1 E p] (by rfl) F0_18.row ⟨G18, 0, none⟩ 1 1 (by rfl) rfl hnw F0_18.size (by simp; omega) ?_
            intro v' X20 hown hgr
            obtain ⟨va, vn, vp, rfl⟩ := hown.shapeN
            obtain ⟨hbx, hci⟩ := F0_18.grown hok hown hgr
            have HK20 := F2_18.trans (F0_18.row.keepsFrom (T := W3.heap.size) hgr)
            clear hown hgr hnw F0_18 F1_18 F2_18 F3_18
            refine hK _ _ ?_
            clear hK K
            refine wpAnyIn_ready (rs := [5]) (by kernel_rfl) (by simp) ?_
            refine AllReadyIn.cons nat5 (fun K hK => ?_) AllReadyIn.nil
            have yl := hbx.cell 0
            have yf := hbx.free 0
            rw [cbr] at yl yf
            simp only [List.getElem?_toArray, List.getElem?_cons_zero] at yl
            rw [cbr] at hci
            go_simp
            refine hK _ _ ?_
            clear hK K yl yf
            have HKE := HK20.trans (KeepsFrom.of_set (T := W3.heap.size) (g := w.heap.size + 1) (v := .slice va vn vp) 0 (by omega))
            refine wpAnyIn_done (by kernel_rfl) ?_ _
            exact HEND.out _ _ hci HKE

end Go.Proofs.Ytapajchnfjjipaa
