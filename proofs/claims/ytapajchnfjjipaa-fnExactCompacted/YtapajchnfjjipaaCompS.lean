/- Compacted of the model. -/
import Derived.Test.YtapajchnfjjipaaNeedS
import Derived.Test.YtapajchnfjjipaaOwnEntry
import Derived.Test.YtapajchnfjjipaaRowArg
import Derived.Laws.OwnMore
namespace Go.Proofs.Ytapajchnfjjipaa
set_option maxRecDepth 100000
open Go.RowKit Go.Deep

/-- 'append(v, u...)', u a row of entries of one's own (or nil). -/
theorem wpList_append_erow {w : World} {ops : Array Oper} {rest : List Oper} {o : Oper} {a : Act} {Q : Exit → Act → World → Prop} (hgd : o.guard = none) (s x : Operand) (t : TypeId)
    (ho : o.op = .call { callee := .builtin .append, args := #[s, x], argTypes := #[t, t] }) (ht : Try.prog.underlying t = some (.slice 45))
    (B : Nat) (v : Value) (es : List Entry1) (hs : a.eval s = v) (hown : OwnEntry w B v es) (Bu : Nat) (u : Value) (news : List Entry1) (hx : a.eval x = u) (hsrc : OwnEntry w Bu u news) (hB : B ≤ w.heap.size) (hlen : es.length + news.length ≤ 1000000)
    (h : ∀ v' w', OwnEntry w' B v' (es ++ news) → Below B w w' → wpList Try.prog ops Q rest (a.put o.dst v') w') : wpList Try.prog ops Q (o :: rest) a w := by
  obtain ⟨i0, hi', hz0, hs0, hb0⟩ := info_parts entry_inf1
  rcases hsrc.2 with ⟨rfl, h0⟩ | ⟨g, cap, cur, rfl, hg, hh, hle, hcap, hsz, htake⟩
  · have hn : news = [] := List.length_eq_zero_iff.1 h0
    subst hn
    refine wpList_plain hgd fun _ hK => ?_
    have hr := run_append_owned_none (P := Try.prog) (w := w) B t o.type 45 i0 _ ht hi' v es.length (cellsEntry es) hown
    unfold Oper.wp execOp
    simp only [ho, resolve, invoke, builtin, Sem.run_bind, Sem.run_pure, Result.andThen_ok, List.map_toArray, List.map_cons, List.map_nil, hs, hx, hr]
    exact hK _ _ (h v w (by rw [List.append_nil]; exact hown) (Below.refl _ _))
  · refine wpList_append_entry hgd s x t ho ht B v es news hs hown ⟨g, 0, none⟩ news.length cap hx rfl ?_ hB hlen h
    intro j u hu
    have hbx : BoxIs w g cur 45 := hh
    rw [Addr.add_lit]
    show w.cell? ⟨g, 0 + j, none⟩ = some u
    rw [Nat.zero_add, hbx.cell j]
    have hj : j < news.length * 4 := by have := (List.getElem?_eq_some_iff.1 hu).1; rwa [cellsEntry_len] at this
    rw [← htake, List.getElem?_take, if_pos hj] at hu
    simpa using hu

/-- The places that are needed, of the first k. -/
def needN (E : Ents) (SL : List Int) : Nat → List Nat
  | 0 => []
  | k + 1 => needN E SL k ++ (if needA E SL k = true then [k] else [])
theorem needL_N (E : Ents) (SL : List Int) : ∀ k, needL E SL k = (needN E SL k).map fun (i : Nat) => (i : Int)
  | 0 => rfl
  | k + 1 => by
    rw [needL, needN, List.map_append, ← needL_N E SL k]
    congr 1
    split <;> rfl
theorem needN_lt (E : Ents) (SL : List Int) : ∀ k p, p ∈ needN E SL k → p < k
  | 0, p, h => by simp [needN] at h
  | k + 1, p, h => by
    rw [needN] at h
    rcases List.mem_append.1 h with h | h
    · have := needN_lt E SL k p h; omega
    · split at h
      · have := List.mem_singleton.1 h; omega
      · simp at h
/-- Has the first one of what stays this user. -/
def olderB (E : Ents) (out : List Nat) (p : Nat) : Bool := match out with
  | [] => false
  | h :: _ => decide (E.U h = E.U p)
def stepC (E : Ents) (bottom : Bool) (p : Nat) (out : List Nat) : List Nat := if E.K p = 0 ∧ bottom = true ∧ olderB E out p = false then out else p :: out
/-- What stays of needed places. -/
def compN (E : Ents) (bottom : Bool) (ns : List Nat) : List Nat := ns.foldr (stepC E bottom) []
def compL (E : Ents) (len : Nat) (S : Nat → Int) (n : Nat) (bottom : Bool) : List Nat := if rowOkB E len = true ∧ snapsB S n = true then compN E bottom (needN E (seqsL S n) len) else []
theorem stepC_len (E : Ents) (b : Bool) (p : Nat) (out : List Nat) : (stepC E b p out).length ≤ out.length + 1 := by
  unfold stepC; split <;> simp
theorem compN_len (E : Ents) (b : Bool) : ∀ ns, (compN E b ns).length ≤ ns.length
  | [] => by simp [compN]
  | p :: ns => by
    have := compN_len E b ns
    have h2 := stepC_len E b p (compN E b ns)
    show (stepC E b p (compN E b ns)).length ≤ _
    simp only [List.length_cons]
    omega
theorem needN_len (E : Ents) (SL : List Int) : ∀ k, (needN E SL k).length ≤ k := fun k => by
  have := needL_len E SL k
  rw [needL_N, List.length_map] at this
  exact this
theorem compL_len {E : Ents} {len : Nat} {S : Nat → Int} {n : Nat} {b : Bool} : (compL E len S n b).length ≤ len := by
  unfold compL; split
  · exact Nat.le_trans (compN_len _ _ _) (needN_len _ _ _)
  · simp
theorem compN_drop {E : Ents} {b : Bool} {ns : List Nat} {j : Nat} (hj : j < ns.length) : compN E b (ns.drop j) = stepC E b ns[j] (compN E b (ns.drop (j + 1))) := by
  rw [List.drop_eq_getElem_cons hj]; rfl

set_option linter.unusedVariables false in
set_option linter.unusedSimpArgs false in
set_option maxHeartbeats 2000000 in
theorem spec_l14Compacted (a : Option Addr) (len cap : Nat) (E : Ents) (b : Option Addr) (n ncap : Nat) (S : Nat → Int) (bottom : Bool) (w : World) (hok : rowOkB E len = true) (hn : n ≤ 20) (hb : ∃ g o, b = some ⟨g, o, none⟩) (hS : EntAt w w.heap.size a len E) (hI : IntAt w w.heap.size b n S) :
    Calls Try.prog 39 #[.slice a len cap, .slice b n ncap, .bool bottom] w fun e w' => (∃ v, e = .returned v ∧ OwnEntry w' w.heap.size v ((compN E bottom (needN E (seqsL S n) len)).map (entryAt1 E))) ∧ Below w.heap.size w w' := by
  have HS : Hid (EntAt w w.heap.size a len E) := hS
  have h4 := (rowOk_out hok).1
  have HLT : Hid (∀ p, p ∈ needN E (seqsL S n) len → p < len) := needN_lt E (seqsL S n) len
  have hnl := needN_len E (seqsL S n) len
  go_enter Try.func39, Try.ntmps39
  go_wp2_with fail
  refine (spec_l14Needed a len cap E b n ncap S w hok hn hb hS hI).mono ?_
  rintro e w1 ⟨⟨v1, rfl, ho1⟩, hB1⟩
  obtain ⟨na, np, rfl, hN⟩ := ho1.at
  rw [needL_N, List.length_map] at hN ⊢
  have hNS : ∀ i, i < (needN E (seqsL S n) len).length → ((needN E (seqsL S n) len).map fun (i : Nat) => (i : Int)).getD i 0 = (((needN E (seqsL S n) len).getD i 0 : Nat) : Int) := fun i hi => by simp [List.getD, hi]
  generalize hns : needN E (seqsL S n) len = NS at hN hNS HLT hnl ⊢
  have HNSE := hide hns
  obtain ⟨N, hNl⟩ : ∃ N, NS.length = N := ⟨_, rfl⟩
  have HNL := hide hNl
  rw [hNl] at hN hNS hnl ⊢
  have HNA := hide hN
  have HNS := hide hNS
  have HB0 : Hid (Below w1.heap.size w1 (w1.alloc (.cells #[] 45))) := below_one w1 _
  have HO0 : Hid (OwnEntry (w1.alloc (.cells #[] 45)) w1.heap.size (.slice (some ⟨w1.heap.size, 0, none⟩) 0 0) ((compN E bottom (NS.drop N)).map (entryAt1 E))) := by
    show OwnEntry _ _ _ _
    rw [List.drop_of_length_le (Nat.le_of_eq hNl)]
    exact OwnEntry.lit w1 _ (Nat.le_refl _)
  have HB1 := hide hB1
  have hB1z := hB1.size
  have hw : IntKind.i64.wrap ((N : Int) - 1) = (N : Int) - 1 := by rw [IntKind.wrap_i64]; omega
  have hx0 : (N : Int) - 1 + 1 ≤ (N : Int) ∧ (N : Int) ≤ (N : Int) - 1 + 1 := by omega
  clear hN hNS ho1 hNl hok hb hS hI hB1 hns
  go_wp2
  clear hw
  generalize w1.alloc (.cells #[] 45) = W1 at HB0 HO0 ⊢
  go_loopw [8, 9] (fun v i wr => ∃ (k : Nat) (x : Int), i = .int .i64 x ∧ k ≤ N ∧ (x + 1 ≤ (k : Int) ∧ (k : Int) ≤ x + 1) ∧ Hid (OwnEntry wr w1.heap.size v ((compN E bottom (NS.drop k)).map (entryAt1 E))) ∧ Hid (Below w1.heap.size w1 wr)) (fun _ i _ => (intOf i + 1).toNat)
  case atStart => exact ⟨N, _, rfl, Nat.le_refl _, hx0, HO0, HB0⟩
  case round =>
    obtain ⟨k, x, rfl, hk, ⟨hx1, hx2⟩, HO, HW⟩ := hrel
    clear HO0 HB0 hx0
    by_cases hpos : 0 < k
    · obtain ⟨j, rfl⟩ : ∃ j, k = j + 1 := ⟨k - 1, by omega⟩
      obtain rfl : x = (j : Int) := by omega
      have hjN : j < NS.length := by rw [HNL.out]; omega
      obtain ⟨p, hp⟩ : ∃ p, NS[j] = p := ⟨_, rfl⟩
      have hpl : p < len := HLT.out p (by rw [← hp]; exact List.getElem_mem hjN)
      obtain ⟨bN, oN, rfl, hbN, d0⟩ := (HNA.out.next HW.out).at (show j < N by omega)
      rw [HNS.out j (by omega), show NS.getD j 0 = p by simp [List.getD, hjN, hp]] at d0
      obtain ⟨bE, off, rfl, hbE, c0, c1, c2, c3⟩ := ((HS.out.below HB1.out).below (HW.out.mono hB1z)).at hpl
      have HST : Hid (compN E bottom (NS.drop j) = stepC E bottom p (compN E bottom (NS.drop (j + 1)))) := by show _ = _; rw [compN_drop hjN, hp]
      have hol : (compN E bottom (NS.drop (j + 1))).length ≤ 1000 := Nat.le_trans (compN_len _ _ _) (by rw [List.length_drop, HNL.out]; omega)
      clear hp hjN hpos hx1 hx2
      generalize compN E bottom (NS.drop (j + 1)) = out at HO HST hol
      have hji : (j : Int) < (N : Int) := by omega
      have hj0 : (0 : Int) ≤ (j : Int) := by omega
      have hpi : (p : Int) < (len : Int) := by omega
      have hp0 : (0 : Int) ≤ (p : Int) := by omega
      have hsub : IntKind.i64.wrap ((j : Int) - 1) = (j : Int) - 1 := by rw [IntKind.wrap_i64]; omega
      have hsub2 : wrap64 ((j : Int) - 1) = (j : Int) - 1 := by unfold wrap64; omega
      have hxx : (j : Int) - 1 + 1 ≤ (j : Int) ∧ (j : Int) ≤ (j : Int) - 1 + 1 := by omega
      have hjn : j ≤ N := by omega
      have hwz := HW.out.size
      have hb1 := below_one wr (.cells #[.string (E.U p), .int .i64 (E.Q p), .int .i64 (E.K p), .string (E.X p)] 45)
      have HX := (BoxIs.new wr #[.string (E.U p), .int .i64 (E.Q p), .int .i64 (E.K p), .string (E.X p)] 45 rfl).hid
      have HO2 := hide (HO.out.next hb1)
      have HW2 := hide (HW.out.trans (hb1.mono hwz))
      clear HO HW hb1 hk
      obtain ⟨oa, op, hv8, hOA⟩ := HO2.out.arg
      subst hv8
      have HOA := hOA.hid
      clear hOA
      rcases out with _ | ⟨h, t⟩
      · skip
        go_wp2_with fail
        generalize wr.alloc (.cells #[.string (E.U p), .int .i64 (E.Q p), .int .i64 (E.K p), .string (E.X p)] 45) = W2 at HX HO2 HW2 HOA ⊢
        have hwX := HX.out.lt
        have yy : W2.cell? ⟨wr.heap.size, 0, none⟩ = some (.string (E.U p)) := HX.out.cell 0
        go_quiet (fail)
        generalize hdr : W2.drewN _ = W4
        have hbd : Below W2.heap.size W2 W4 := by rw [← hdr]; exact below_drewN (Below.refl _ _) _
        have HX4 := hide (HX.out.next hbd)
        have HO4 := hide (HO2.out.next hbd)
        have HW4 := hide (HW2.out.trans (hbd.mono HW2.out.size))
        have y2 : W4.cell? ⟨wr.heap.size, 2, none⟩ = some (.int .i64 (E.K p)) := HX4.out.cell 2
        have yE0 : W4.cell? ⟨wr.heap.size, 0, none⟩ = some (.string (E.U p)) := HX4.out.cell 0
        have yE1 : W4.cell? ⟨wr.heap.size, 1, none⟩ = some (.int .i64 (E.Q p)) := HX4.out.cell 1
        have yE3 : W4.cell? ⟨wr.heap.size, 3, none⟩ = some (.string (E.X p)) := HX4.out.cell 3
        clear hdr hbd HX HO2 HW2 HOA HX4 yy
        by_cases hK : E.K p = 0
        · have hK1 : (E.K p == 0) = true := by simp [hK]
          cases bottom with
          | true =>
            have hst : stepC E true p ([] : List Nat) = ([] : List Nat) := by unfold stepC; rw [if_pos ⟨hK, rfl, show olderB E [] p = false from rfl⟩]
            clear hK
            have HU : Hid (OwnEntry W4 w1.heap.size (.slice oa 0 op) ((compN E true (NS.drop j)).map (entryAt1 E))) := by show OwnEntry _ _ _ _; rw [HST.out, hst]; exact HO4.out
            clear HO4 HST
            go_wp2
            exact ⟨⟨j, (j : Int) - 1, rfl, hjn, hxx, HU, HW4⟩, by first | (simp [intOf]; done) | (simp [intOf]; omega)⟩
          | false =>
            have hst : stepC E false p ([] : List Nat) = p :: ([] : List Nat) := by unfold stepC; rw [if_neg (by simp)]
            clear hK
            have HU : Hid (stepC E false p ([] : List Nat) = p :: ([] : List Nat)) := hst
            have hb5 := below_one W4 (.cells #[.string (E.U p), .int .i64 (E.Q p), .int .i64 (E.K p), .string (E.X p)] 45)
            have HO5 := hide (HO4.out.next hb5)
            have HW5 := hide (HW4.out.trans (hb5.mono HW4.out.size))
            have HL5 : Hid (OwnEntry (W4.alloc (.cells #[.string (E.U p), .int .i64 (E.Q p), .int .i64 (E.K p), .string (E.X p)] 45)) w1.heap.size (.slice (some ⟨W4.heap.size, 0, none⟩) 1 1) [entryAt1 E p]) := World.ownsRow_lit W4 #[.string (E.U p), .int .i64 (E.Q p), .int .i64 (E.K p), .string (E.X p)] 1 HW4.out.size (by decide) rfl
            clear hb5 HO4 HW4
            go_wp2_with (at_builtin; refine wpList_append_erow rfl _ _ 29 rfl Try.underlying29 w1.heap.size _ [entryAt1 E p] (by rfl) HL5.out _ _ (([] : List Nat).map (entryAt1 E)) (by rfl) HO5.out HW5.out.size (by have hq := hol; simp only [List.length_map, List.length_cons, List.length_nil] at hq ⊢; omega) ?_)
            intro v' W6 ho6 hb6
            have HO6 : Hid (OwnEntry W6 w1.heap.size v' ((compN E false (NS.drop j)).map (entryAt1 E))) := by show OwnEntry _ _ _ _; rw [HST.out, HU.out]; exact ho6
            have HW6 := hide (HW5.out.trans hb6)
            clear ho6 hb6 HO5 HL5 HW5 HU HST
            go_wp2
            exact ⟨⟨j, (j : Int) - 1, rfl, hjn, hxx, HO6, HW6⟩, by first | (simp [intOf]; done) | (simp [intOf]; omega)⟩
        · have hK1 : (E.K p == 0) = false := by simp [hK]
          have hst : stepC E bottom p ([] : List Nat) = p :: ([] : List Nat) := by unfold stepC; rw [if_neg (fun e => hK e.1)]
          clear hK
          have HU : Hid (stepC E bottom p ([] : List Nat) = p :: ([] : List Nat)) := hst
          have hb5 := below_one W4 (.cells #[.string (E.U p), .int .i64 (E.Q p), .int .i64 (E.K p), .string (E.X p)] 45)
          have HO5 := hide (HO4.out.next hb5)
          have HW5 := hide (HW4.out.trans (hb5.mono HW4.out.size))
          have HL5 : Hid (OwnEntry (W4.alloc (.cells #[.string (E.U p), .int .i64 (E.Q p), .int .i64 (E.K p), .string (E.X p)] 45)) w1.heap.size (.slice (some ⟨W4.heap.size, 0, none⟩) 1 1) [entryAt1 E p]) := World.ownsRow_lit W4 #[.string (E.U p), .int .i64 (E.Q p), .int .i64 (E.K p), .string (E.X p)] 1 HW4.out.size (by decide) rfl
          clear hb5 HO4 HW4
          go_wp2_with (at_builtin; refine wpList_append_erow rfl _ _ 29 rfl Try.underlying29 w1.heap.size _ [entryAt1 E p] (by rfl) HL5.out _ _ (([] : List Nat).map (entryAt1 E)) (by rfl) HO5.out HW5.out.size (by have hq := hol; simp only [List.length_map, List.length_cons, List.length_nil] at hq ⊢; omega) ?_)
          intro v' W6 ho6 hb6
          have HO6 : Hid (OwnEntry W6 w1.heap.size v' ((compN E bottom (NS.drop j)).map (entryAt1 E))) := by show OwnEntry _ _ _ _; rw [HST.out, HU.out]; exact ho6
          have HW6 := hide (HW5.out.trans hb6)
          clear ho6 hb6 HO5 HL5 HW5 HU HST
          go_wp2
          exact ⟨⟨j, (j : Int) - 1, rfl, hjn, hxx, HO6, HW6⟩, by first | (simp [intOf]; done) | (simp [intOf]; omega)⟩
      · obtain ⟨og, oo, rfl, hog, e0, e1, e2, e3⟩ := HOA.out.at (show 0 < ((h :: t).map (entryAt1 E)).length by simp)
        have he0 : (fnEntry ((h :: t).map (entryAt1 E))).U 0 = E.U h := rfl
        rw [he0] at e0
        obtain ⟨T, hT⟩ : ∃ T, ((h :: t).map (entryAt1 E)).length = T := ⟨_, rfl⟩
        have hT0 : 0 < T := by rw [← hT]; simp
        have hTi : (0 : Int) < (T : Int) := by omega
        rw [hT] at HOA ⊢
        have HT := hide hT
        rw [hT] at HO2
        simp only [Nat.zero_mul, Nat.add_zero] at e0
        clear hT he0 e1 e2 e3
        by_cases hq : E.U h = E.U p
        · have hq1 : ((E.U h).toList == (E.U p).toList) = true := by simp [hq]
          have hof : olderB E (h :: t) p = true := decide_eq_true hq
          clear hq
          go_wp2_with fail
          generalize wr.alloc (.cells #[.string (E.U p), .int .i64 (E.Q p), .int .i64 (E.K p), .string (E.X p)] 45) = W2 at HX HO2 HW2 HOA e0 ⊢
          have hwX := HX.out.lt
          have yy : W2.cell? ⟨wr.heap.size, 0, none⟩ = some (.string (E.U p)) := HX.out.cell 0
          go_quiet (fail)
          generalize hdr : W2.drewN _ = W4
          have hbd : Below W2.heap.size W2 W4 := by rw [← hdr]; exact below_drewN (Below.refl _ _) _
          have HX4 := hide (HX.out.next hbd)
          have HO4 := hide (HO2.out.next hbd)
          have HW4 := hide (HW2.out.trans (hbd.mono HW2.out.size))
          have y2 : W4.cell? ⟨wr.heap.size, 2, none⟩ = some (.int .i64 (E.K p)) := HX4.out.cell 2
          have yE0 : W4.cell? ⟨wr.heap.size, 0, none⟩ = some (.string (E.U p)) := HX4.out.cell 0
          have yE1 : W4.cell? ⟨wr.heap.size, 1, none⟩ = some (.int .i64 (E.Q p)) := HX4.out.cell 1
          have yE3 : W4.cell? ⟨wr.heap.size, 3, none⟩ = some (.string (E.X p)) := HX4.out.cell 3
          clear hdr hbd HX HO2 HW2 HOA HX4 yy
          by_cases hK : E.K p = 0
          · have hK1 : (E.K p == 0) = true := by simp [hK]
            cases bottom with
            | true =>
              have hst : stepC E true p (h :: t) = p :: (h :: t) := by unfold stepC; rw [if_neg (by rw [hof]; simp)]
              clear hK
              have HU : Hid (stepC E true p (h :: t) = p :: (h :: t)) := hst
              have hb5 := below_one W4 (.cells #[.string (E.U p), .int .i64 (E.Q p), .int .i64 (E.K p), .string (E.X p)] 45)
              have HO5 := hide (HO4.out.next hb5)
              have HW5 := hide (HW4.out.trans (hb5.mono HW4.out.size))
              have HL5 : Hid (OwnEntry (W4.alloc (.cells #[.string (E.U p), .int .i64 (E.Q p), .int .i64 (E.K p), .string (E.X p)] 45)) w1.heap.size (.slice (some ⟨W4.heap.size, 0, none⟩) 1 1) [entryAt1 E p]) := World.ownsRow_lit W4 #[.string (E.U p), .int .i64 (E.Q p), .int .i64 (E.K p), .string (E.X p)] 1 HW4.out.size (by decide) rfl
              clear hb5 HO4 HW4
              go_wp2_with (at_builtin; refine wpList_append_erow rfl _ _ 29 rfl Try.underlying29 w1.heap.size _ [entryAt1 E p] (by rfl) HL5.out _ _ ((h :: t).map (entryAt1 E)) (by rfl) HO5.out HW5.out.size (by have hq := hol; simp only [List.length_map, List.length_cons, List.length_nil] at hq ⊢; omega) ?_)
              intro v' W6 ho6 hb6
              have HO6 : Hid (OwnEntry W6 w1.heap.size v' ((compN E true (NS.drop j)).map (entryAt1 E))) := by show OwnEntry _ _ _ _; rw [HST.out, HU.out]; exact ho6
              have HW6 := hide (HW5.out.trans hb6)
              clear ho6 hb6 HO5 HL5 HW5 HU HST
              go_wp2
              exact ⟨⟨j, (j : Int) - 1, rfl, hjn, hxx, HO6, HW6⟩, by first | (simp [intOf]; done) | (simp [intOf]; omega)⟩
            | false =>
              have hst : stepC E false p (h :: t) = p :: (h :: t) := by unfold stepC; rw [if_neg (by simp)]
              clear hK
              have HU : Hid (stepC E false p (h :: t) = p :: (h :: t)) := hst
              have hb5 := below_one W4 (.cells #[.string (E.U p), .int .i64 (E.Q p), .int .i64 (E.K p), .string (E.X p)] 45)
              have HO5 := hide (HO4.out.next hb5)
              have HW5 := hide (HW4.out.trans (hb5.mono HW4.out.size))
              have HL5 : Hid (OwnEntry (W4.alloc (.cells #[.string (E.U p), .int .i64 (E.Q p), .int .i64 (E.K p), .string (E.X p)] 45)) w1.heap.size (.slice (some ⟨W4.heap.size, 0, none⟩) 1 1) [entryAt1 E p]) := World.ownsRow_lit W4 #[.string (E.U p), .int .i64 (E.Q p), .int .i64 (E.K p), .string (E.X p)] 1 HW4.out.size (by decide) rfl
              clear hb5 HO4 HW4
              go_wp2_with (at_builtin; refine wpList_append_erow rfl _ _ 29 rfl Try.underlying29 w1.heap.size _ [entryAt1 E p] (by rfl) HL5.out _ _ ((h :: t).map (entryAt1 E)) (by rfl) HO5.out HW5.out.size (by have hq := hol; simp only [List.length_map, List.length_cons, List.length_nil] at hq ⊢; omega) ?_)
              intro v' W6 ho6 hb6
              have HO6 : Hid (OwnEntry W6 w1.heap.size v' ((compN E false (NS.drop j)).map (entryAt1 E))) := by show OwnEntry _ _ _ _; rw [HST.out, HU.out]; exact ho6
              have HW6 := hide (HW5.out.trans hb6)
              clear ho6 hb6 HO5 HL5 HW5 HU HST
              go_wp2
              exact ⟨⟨j, (j : Int) - 1, rfl, hjn, hxx, HO6, HW6⟩, by first | (simp [intOf]; done) | (simp [intOf]; omega)⟩
          · have hK1 : (E.K p == 0) = false := by simp [hK]
            have hst : stepC E bottom p (h :: t) = p :: (h :: t) := by unfold stepC; rw [if_neg (fun e => hK e.1)]
            clear hK
            have HU : Hid (stepC E bottom p (h :: t) = p :: (h :: t)) := hst
            have hb5 := below_one W4 (.cells #[.string (E.U p), .int .i64 (E.Q p), .int .i64 (E.K p), .string (E.X p)] 45)
            have HO5 := hide (HO4.out.next hb5)
            have HW5 := hide (HW4.out.trans (hb5.mono HW4.out.size))
            have HL5 : Hid (OwnEntry (W4.alloc (.cells #[.string (E.U p), .int .i64 (E.Q p), .int .i64 (E.K p), .string (E.X p)] 45)) w1.heap.size (.slice (some ⟨W4.heap.size, 0, none⟩) 1 1) [entryAt1 E p]) := World.ownsRow_lit W4 #[.string (E.U p), .int .i64 (E.Q p), .int .i64 (E.K p), .string (E.X p)] 1 HW4.out.size (by decide) rfl
            clear hb5 HO4 HW4
            go_wp2_with (at_builtin; refine wpList_append_erow rfl _ _ 29 rfl Try.underlying29 w1.heap.size _ [entryAt1 E p] (by rfl) HL5.out _ _ ((h :: t).map (entryAt1 E)) (by rfl) HO5.out HW5.out.size (by have hq := hol; simp only [List.length_map, List.length_cons, List.length_nil] at hq ⊢; omega) ?_)
            intro v' W6 ho6 hb6
            have HO6 : Hid (OwnEntry W6 w1.heap.size v' ((compN E bottom (NS.drop j)).map (entryAt1 E))) := by show OwnEntry _ _ _ _; rw [HST.out, HU.out]; exact ho6
            have HW6 := hide (HW5.out.trans hb6)
            clear ho6 hb6 HO5 HL5 HW5 HU HST
            go_wp2
            exact ⟨⟨j, (j : Int) - 1, rfl, hjn, hxx, HO6, HW6⟩, by first | (simp [intOf]; done) | (simp [intOf]; omega)⟩
        · have hq1 : ((E.U h).toList == (E.U p).toList) = false := by have := toList_neL hq; simpa using this
          have hof : olderB E (h :: t) p = false := decide_eq_false hq
          clear hq
          go_wp2_with fail
          generalize wr.alloc (.cells #[.string (E.U p), .int .i64 (E.Q p), .int .i64 (E.K p), .string (E.X p)] 45) = W2 at HX HO2 HW2 HOA e0 ⊢
          have hwX := HX.out.lt
          have yy : W2.cell? ⟨wr.heap.size, 0, none⟩ = some (.string (E.U p)) := HX.out.cell 0
          go_quiet (fail)
          generalize hdr : W2.drewN _ = W4
          have hbd : Below W2.heap.size W2 W4 := by rw [← hdr]; exact below_drewN (Below.refl _ _) _
          have HX4 := hide (HX.out.next hbd)
          have HO4 := hide (HO2.out.next hbd)
          have HW4 := hide (HW2.out.trans (hbd.mono HW2.out.size))
          have y2 : W4.cell? ⟨wr.heap.size, 2, none⟩ = some (.int .i64 (E.K p)) := HX4.out.cell 2
          have yE0 : W4.cell? ⟨wr.heap.size, 0, none⟩ = some (.string (E.U p)) := HX4.out.cell 0
          have yE1 : W4.cell? ⟨wr.heap.size, 1, none⟩ = some (.int .i64 (E.Q p)) := HX4.out.cell 1
          have yE3 : W4.cell? ⟨wr.heap.size, 3, none⟩ = some (.string (E.X p)) := HX4.out.cell 3
          clear hdr hbd HX HO2 HW2 HOA HX4 yy
          by_cases hK : E.K p = 0
          · have hK1 : (E.K p == 0) = true := by simp [hK]
            cases bottom with
            | true =>
              have hst : stepC E true p (h :: t) = (h :: t) := by unfold stepC; rw [if_pos ⟨hK, rfl, hof⟩]
              clear hK
              have HU : Hid (OwnEntry W4 w1.heap.size (.slice (some ⟨og, oo, none⟩) T op) ((compN E true (NS.drop j)).map (entryAt1 E))) := by show OwnEntry _ _ _ _; rw [HST.out, hst]; exact HO4.out
              clear HO4 HST
              go_wp2
              exact ⟨⟨j, (j : Int) - 1, rfl, hjn, hxx, HU, HW4⟩, by first | (simp [intOf]; done) | (simp [intOf]; omega)⟩
            | false =>
              have hst : stepC E false p (h :: t) = p :: (h :: t) := by unfold stepC; rw [if_neg (by simp)]
              clear hK
              have HU : Hid (stepC E false p (h :: t) = p :: (h :: t)) := hst
              have hb5 := below_one W4 (.cells #[.string (E.U p), .int .i64 (E.Q p), .int .i64 (E.K p), .string (E.X p)] 45)
              have HO5 := hide (HO4.out.next hb5)
              have HW5 := hide (HW4.out.trans (hb5.mono HW4.out.size))
              have HL5 : Hid (OwnEntry (W4.alloc (.cells #[.string (E.U p), .int .i64 (E.Q p), .int .i64 (E.K p), .string (E.X p)] 45)) w1.heap.size (.slice (some ⟨W4.heap.size, 0, none⟩) 1 1) [entryAt1 E p]) := World.ownsRow_lit W4 #[.string (E.U p), .int .i64 (E.Q p), .int .i64 (E.K p), .string (E.X p)] 1 HW4.out.size (by decide) rfl
              clear hb5 HO4 HW4
              go_wp2_with (at_builtin; refine wpList_append_erow rfl _ _ 29 rfl Try.underlying29 w1.heap.size _ [entryAt1 E p] (by rfl) HL5.out _ _ ((h :: t).map (entryAt1 E)) (by rfl) HO5.out HW5.out.size (by have hq := hol; simp only [List.length_map, List.length_cons, List.length_nil] at hq ⊢; omega) ?_)
              intro v' W6 ho6 hb6
              have HO6 : Hid (OwnEntry W6 w1.heap.size v' ((compN E false (NS.drop j)).map (entryAt1 E))) := by show OwnEntry _ _ _ _; rw [HST.out, HU.out]; exact ho6
              have HW6 := hide (HW5.out.trans hb6)
              clear ho6 hb6 HO5 HL5 HW5 HU HST
              go_wp2
              exact ⟨⟨j, (j : Int) - 1, rfl, hjn, hxx, HO6, HW6⟩, by first | (simp [intOf]; done) | (simp [intOf]; omega)⟩
          · have hK1 : (E.K p == 0) = false := by simp [hK]
            have hst : stepC E bottom p (h :: t) = p :: (h :: t) := by unfold stepC; rw [if_neg (fun e => hK e.1)]
            clear hK
            have HU : Hid (stepC E bottom p (h :: t) = p :: (h :: t)) := hst
            have hb5 := below_one W4 (.cells #[.string (E.U p), .int .i64 (E.Q p), .int .i64 (E.K p), .string (E.X p)] 45)
            have HO5 := hide (HO4.out.next hb5)
            have HW5 := hide (HW4.out.trans (hb5.mono HW4.out.size))
            have HL5 : Hid (OwnEntry (W4.alloc (.cells #[.string (E.U p), .int .i64 (E.Q p), .int .i64 (E.K p), .string (E.X p)] 45)) w1.heap.size (.slice (some ⟨W4.heap.size, 0, none⟩) 1 1) [entryAt1 E p]) := World.ownsRow_lit W4 #[.string (E.U p), .int .i64 (E.Q p), .int .i64 (E.K p), .string (E.X p)] 1 HW4.out.size (by decide) rfl
            clear hb5 HO4 HW4
            go_wp2_with (at_builtin; refine wpList_append_erow rfl _ _ 29 rfl Try.underlying29 w1.heap.size _ [entryAt1 E p] (by rfl) HL5.out _ _ ((h :: t).map (entryAt1 E)) (by rfl) HO5.out HW5.out.size (by have hq := hol; simp only [List.length_map, List.length_cons, List.length_nil] at hq ⊢; omega) ?_)
            intro v' W6 ho6 hb6
            have HO6 : Hid (OwnEntry W6 w1.heap.size v' ((compN E bottom (NS.drop j)).map (entryAt1 E))) := by show OwnEntry _ _ _ _; rw [HST.out, HU.out]; exact ho6
            have HW6 := hide (HW5.out.trans hb6)
            clear ho6 hb6 HO5 HL5 HW5 HU HST
            go_wp2
            exact ⟨⟨j, (j : Int) - 1, rfl, hjn, hxx, HO6, HW6⟩, by first | (simp [intOf]; done) | (simp [intOf]; omega)⟩
    · obtain rfl : x = -1 := by omega
      have hk0 : k = 0 := by omega
      have HOv : Hid (OwnEntry wr w.heap.size u8 ((compN E bottom NS).map (entryAt1 E))) := by
        show OwnEntry _ _ _ _
        have := HO.out
        rw [hk0, List.drop_zero] at this
        exact this.base hB1z
      have HWv := hide (HB1.out.trans (HW.out.mono hB1z))
      clear HO HW hk0
      go_wp2
      go_ret
      exact ⟨⟨_, rfl, by rw [HNSE.out]; exact HOv.out⟩, HWv.out⟩

set_option linter.unusedVariables false in
theorem spec_Compacted (a : Option Addr) (len cap : Nat) (E : Ents) (b : Option Addr) (n ncap : Nat) (S : Nat → Int) (bottom : Bool) (w : World) (hl : len ≤ 1048576) (hn : n ≤ 1048576) (hb : ∃ g o, b = some ⟨g, o, none⟩) (hS : EntAt w w.heap.size a len E) (hI : IntAt w w.heap.size b n S) :
    Calls Try.prog 20 #[.slice a len cap, .slice b n ncap, .bool bottom] w fun e w' => (∃ v, e = .returned v ∧ OwnEntry w' w.heap.size v ((compL E len S n bottom).map (entryAt1 E))) ∧ Below w.heap.size w w' := by
  have HS := hS.hid
  have HI := hI.hid
  have HBB := hide hb
  clear hb
  cases hok : rowOkB E len with
  | false =>
    have HV : Hid ((compL E len S n bottom).map (entryAt1 E) = []) := by show _ = _; unfold compL; rw [if_neg (by rw [hok]; simp)]; rfl
    go_enter Try.func20, Try.ntmps20
    go_wp2_with fail
    refine (hok ▸ spec_EntriesOk a len cap E w hl hS).mono ?_
    rintro e w1 ⟨rfl, hB⟩
    clear hok
    go_wp2
    go_ret
    exact ⟨⟨_, rfl, by rw [HV.out]; exact OwnEntry.nil _ _⟩, hB⟩
  | true =>
    cases sok : snapsB S n with
    | false =>
      have HV : Hid ((compL E len S n bottom).map (entryAt1 E) = []) := by show _ = _; unfold compL; rw [if_neg (by rw [sok]; simp)]; rfl
      go_enter Try.func20, Try.ntmps20
      go_wp2_with fail
      refine (hok ▸ spec_EntriesOk a len cap E w hl hS).mono ?_
      rintro e w1 ⟨rfl, hB⟩
      clear hok hS hI
      go_wp2_with fail
      refine (sok ▸ spec_SnapsOk b n ncap S w1 hn (HI.out.next hB)).mono ?_
      rintro e w2 ⟨rfl, hB2⟩
      have HB := hide (hB.trans (hB2.mono hB.size))
      clear hB hB2 sok
      go_wp2
      go_ret
      exact ⟨⟨_, rfl, by rw [HV.out]; exact OwnEntry.nil _ _⟩, HB.out⟩
    | true =>
      have HV : Hid (compL E len S n bottom = compN E bottom (needN E (seqsL S n) len)) := by show _ = _; unfold compL; rw [if_pos ⟨hok, sok⟩]
      have hn20 := (snapsB_out sok).1
      have HOK := hide hok
      go_enter Try.func20, Try.ntmps20
      go_wp2_with fail
      refine (hok ▸ spec_EntriesOk a len cap E w hl hS).mono ?_
      rintro e w1 ⟨rfl, hB⟩
      clear hok hS hI
      go_wp2_with fail
      refine (sok ▸ spec_SnapsOk b n ncap S w1 hn (HI.out.next hB)).mono ?_
      rintro e w2 ⟨rfl, hB2⟩
      have hB12 := hB.trans (hB2.mono hB.size)
      clear hB hB2 sok
      go_wp2_with fail
      refine (spec_l14Compacted a len cap E b n ncap S bottom w2 HOK.out hn20 HBB.out ((HS.out.below hB12).mono hB12.size) (HI.out.next hB12)).mono ?_
      rintro e w3 ⟨⟨v, rfl, ho⟩, hB3⟩
      have HO : Hid (OwnEntry w3 w.heap.size v ((compL E len S n bottom).map (entryAt1 E))) := by show OwnEntry _ _ _ _; rw [HV.out]; exact ho.base hB12.size
      have HB := hide (hB12.trans (hB3.mono hB12.size))
      clear ho hB12 hB3
      go_wp2
      go_ret
      exact ⟨⟨_, rfl, HO.out⟩, HB.out⟩

end Go.Proofs.Ytapajchnfjjipaa
