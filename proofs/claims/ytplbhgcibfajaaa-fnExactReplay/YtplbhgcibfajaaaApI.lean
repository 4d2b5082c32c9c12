/- Apply of the program. (By gen_api.py.) -/
import Derived.Test.YtplbhgcibfajaaaSrtM
import Derived.Test.YtplbhgcibfajaaaVersI
import Derived.Test.YtplbhgcibfajaaaRowG
import Derived.Test.YtplbhgcibfajaaaClone
import Derived.Laws.OwnMore
import Derived.Deep.DeepCutAuto
import Derived.Deep.LoopGhost
namespace Go.Proofs.Ytplbhgcibfajaaa
set_option maxRecDepth 100000
open Go.RowKit Go.Deep Go.Sort

set_option maxHeartbeats 1000000 in
theorem lib_ContainsI (a : Option Addr) (len cap : Nat) (S : Nat → Int) (x : Int) (w : World) (hl : len ≤ 1048576) (hS : IntAt w w.heap.size a len S) :
    Calls Try.prog 57 #[.slice a len cap, .int .i64 x] w fun e w' => e = .returned (.bool (cutB S x len)) ∧ Below w.heap.size w w' := by
  have hI : Calls Try.prog 71 #[.slice a len cap, .int .i64 x] w fun e w' => (∃ r : Int, e = .returned (.int .i64 r) ∧ (0 ≤ r ↔ cutB S x len = true)) ∧ Below w.heap.size w w' := by
    have HS := hS.hid
    have HB0 := hide (Below.refl w.heap.size w)
    clear hS
    go_enter Try.func71, Try.ntmps71
    go_wp2
    go_loopg [8] len (fun g v wr => ∃ k : Nat, v = .int .i64 (k : Int) ∧ k + g = len ∧ Hid (cutB S x k = false) ∧ Hid (Below w.heap.size w wr))
    case atStart => exact ⟨0, rfl, by omega, rfl, HB0⟩
    case round =>
      obtain ⟨k, rfl, hk, HC, HW⟩ := hrel
      clear HB0
      by_cases hlt : k < len
      · obtain ⟨b, off, rfl, hb, c0⟩ := (HS.out.below HW.out).at hlt
        have hki : (k : Int) < (len : Int) := by omega
        by_cases he : x = S k
        · have hr : cutB S x len = true := (cutB_mem S x len).2 (by rw [he]; exact List.mem_map.2 ⟨k, List.mem_range.2 hlt, rfl⟩)
          have HR := hide hr
          rw [← he] at c0
          clear hr he HC
          go_wp2
          go_ret
          exact ⟨⟨(k : Int), rfl, by simp [HR.out]⟩, HW.out⟩
        · have he1 : (x == S k) = false := by simpa using he
          have HC2 : Hid (cutB S x (k + 1) = false) := by show cutB S x (k + 1) = false; rw [cutB, HC.out, Bool.false_or]; exact decide_eq_false (fun e => he e.symm)
          clear HC
          go_wp2
          go_roundg (gk - 1)
          case measure => omega
          case rel => exact ⟨k + 1, by go_num, by omega, HC2, HW⟩
      · obtain rfl : k = len := by omega
        have hki : ¬ ((k : Int) < (k : Int)) := by omega
        go_wp2
        go_ret
        exact ⟨⟨-1, rfl, by rw [HC.out]; simp⟩, HW.out⟩
  go_enter Try.func57, Try.ntmps57
  go_wp2_with fail
  refine hI.mono ?_
  rintro e w1 ⟨⟨r, rfl, hr⟩, hb⟩
  have HB := hide hb
  have HR := hide hr
  clear hI hS hb hr
  by_cases h0 : 0 ≤ r
  · have hv := HR.out.1 h0
    go_wp2
    go_ret
    exact ⟨by show Ending.returned (.bool true) = _; rw [hv], HB.out⟩
  · have hv : cutB S x len = false := by
      cases hq : cutB S x len with
      | false => rfl
      | true => exact (h0 (HR.out.2 hq)).elim
    have hd : decide (0 ≤ r) = false := decide_eq_false h0
    go_wp2
    go_ret
    exact ⟨by show Ending.returned (.bool false) = _; rw [hv], HB.out⟩

theorem cutB_numsL (c : VersionC) (x : Int) : cutB c.r0.N x c.n0 = (numsL c.r0 c.n0).contains x := by
  rw [Bool.eq_iff_iff, cutB_mem]
  simp [numsL]
theorem intAt_list {w : World} {B : Nat} {v : Value} {c : VersionC} (h : OwnI w B v (numsL c.r0 c.n0)) : ∃ a cap, v = .slice a c.n0 cap ∧ IntAt w w.heap.size a c.n0 c.r0.N := by
  obtain ⟨a, cap, hv, hI⟩ := h.at
  rw [numsL_len] at hv hI
  refine ⟨a, cap, hv, ?_⟩
  rcases hI with hI | ⟨b, off, e, hb, hc⟩
  · exact .inl hI
  · exact .inr ⟨b, off, e, hb, fun i hi => by rw [hc i hi]; simp [numsL, List.getD, hi]⟩

set_option maxHeartbeats 2000000 in
theorem impl_cutsOk (b1 : Option Addr) (q1 : Nat) (a0 : Option Addr) (p0 : Nat) (c : VersionC) (d : EditC) (w : World) (hf : c.n0 ≤ 1000) (hg : d.n1 ≤ 1048576) (hU : IntAt w w.heap.size b1 d.n1 d.r1) (hSrc : IntSrc w (.slice b1 d.n1 q1) (cutsL d)) (hS : MetaAt w w.heap.size a0 c.n0 c.r0) :
    Calls Try.prog 35 #[.slice b1 d.n1 q1, .slice a0 c.n0 p0] w fun e w' => e = .returned (.bool (cutsB c d)) ∧ Below w.heap.size w w' := by
  have hfn : c.n0 ≤ 1048576 := by omega
  by_cases h1 : d.n1 ≤ c.n0
  · have h1' : ¬ ((c.n0 : Int) < (d.n1 : Int)) := by omega
    have hv : cutsB c d = (nodupB (cutsL d) && (cutsL d).all fun x => (numsL c.r0 c.n0).contains x) := by unfold cutsB; rw [decide_eq_true h1, Bool.true_and]
    rw [hv]
    obtain ⟨al, hal⟩ : ∃ al, ((cutsL d).all fun x => (numsL c.r0 c.n0).contains x) = al := ⟨_, rfl⟩
    rw [hal]
    have HAL := hide hal
    obtain ⟨nd, hnd⟩ : ∃ nd, nodupB (cutsL d) = nd := ⟨_, rfl⟩
    have cD := impl_differI (.slice b1 d.n1 q1) (cutsL d) w hSrc (by rw [cutsL_len]; omega)
    rw [hnd] at cD ⊢
    have HU := hU.hid
    have HS := hS.hid
    clear hU hS hv hnd hSrc hal
    go_enter Try.func35, Try.ntmps35
    go_wp2_with fail
    refine cD.mono ?_
    rintro e w1 ⟨rfl, hb1⟩
    have HU1 := (HU.out.next hb1).hid
    have HS1 := (HS.out.next hb1).hid
    have HB1 := hide hb1
    clear HU HS hb1 cD
    cases nd with
    | false =>
      go_wp2
      go_ret
      exact ⟨rfl, HB1.out⟩
    | true =>
      go_wp2_with fail
      refine (impl_numsOf a0 c.n0 p0 c.r0 w1 hfn HS1.out).mono ?_
      rintro e w2 ⟨⟨v, rfl, hN⟩, hb2⟩
      obtain ⟨na, nc, rfl, hNI⟩ := intAt_list hN
      have HU2 := (HU1.out.next hb2).hid
      have HN2 := hNI.hid
      have HB2 := hide (HB1.out.trans (hb2.mono HB1.out.size))
      clear HU1 HS1 hb2 HB1 hN hNI
      go_wp2
      go_loopg [22] d.n1 (fun g v wr => ∃ k : Nat, v = .int .i64 (k : Int) ∧ k + g = d.n1 ∧ Hid (∀ j, j < k → (numsL c.r0 c.n0).contains (d.r1 j) = true) ∧ Hid (IntAt wr wr.heap.size na c.n0 c.r0.N) ∧ Hid (IntAt wr wr.heap.size b1 d.n1 d.r1) ∧ Hid (Below w.heap.size w wr))
      case atStart => exact ⟨0, rfl, by omega, fun j hj => by omega, HN2, HU2, HB2⟩
      case round =>
        obtain ⟨k, rfl, hk, HC, HN, HU, HW⟩ := hrel
        clear HN2 HU2 HB2
        by_cases hlt : k < d.n1
        · obtain ⟨b, off, rfl, hb, c0⟩ := HU.out.at hlt
          have hki : (k : Int) < (d.n1 : Int) := by omega
          have cC := lib_ContainsI na c.n0 nc c.r0.N (d.r1 k) wr hfn HN.out
          rw [cutB_numsL] at cC
          obtain ⟨t, ht⟩ : ∃ t, (numsL c.r0 c.n0).contains (d.r1 k) = t := ⟨_, rfl⟩
          rw [ht] at cC
          have HT := hide ht
          clear ht
          go_wp2_with fail
          refine cC.mono ?_
          rintro e w3 ⟨rfl, hb3⟩
          have HN3 := (HN.out.next hb3).hid
          have HU3 := (HU.out.next hb3).hid
          have HB3 := hide (HW.out.trans (hb3.mono HW.out.size))
          clear HN HU HW hb3 cC c0
          cases t with
          | false =>
            have hr : ((cutsL d).all fun x => (numsL c.r0 c.n0).contains x) = false := by
              rw [List.all_eq_false]
              exact ⟨d.r1 k, List.mem_map.2 ⟨k, List.mem_range.2 hlt, rfl⟩, by rw [HT.out]; simp⟩
            obtain rfl : al = false := by rw [← HAL.out]; exact hr
            clear hr
            go_wp2
            go_ret
            exact ⟨rfl, HB3.out⟩
          | true =>
            have HC2 : Hid (∀ j, j < k + 1 → (numsL c.r0 c.n0).contains (d.r1 j) = true) := fun j hj => by
              rcases Nat.lt_or_eq_of_le (Nat.le_of_lt_succ hj) with hj | rfl
              · exact HC.out j hj
              · exact HT.out
            clear HC HT
            go_wp2
            go_roundg (gk - 1)
            case measure => omega
            case rel => exact ⟨k + 1, by go_num, by omega, HC2, HN3, HU3, HB3⟩
        · obtain rfl : k = d.n1 := by omega
          have hr : ((cutsL d).all fun x => (numsL c.r0 c.n0).contains x) = true := by
            rw [List.all_eq_true]
            intro x hx
            obtain ⟨j, hj, rfl⟩ := List.mem_map.1 hx
            exact HC.out j (List.mem_range.1 hj)
          obtain rfl : al = true := by rw [← HAL.out]; exact hr
          have hki : ¬ ((d.n1 : Int) < (d.n1 : Int)) := by omega
          clear hr
          go_wp2
          go_ret
          exact ⟨rfl, HW.out⟩
  · have h1' : (c.n0 : Int) < (d.n1 : Int) := by omega
    have hv : cutsB c d = false := by unfold cutsB; rw [decide_eq_false h1]; rfl
    rw [hv]
    clear hU hS hSrc
    go_enter Try.func35, Try.ntmps35
    go_wp2
    go_ret
    exact ⟨rfl, Below.refl _ _⟩

/-- 'append(v, nil...)', whatever the nil slice's room. -/
theorem run_append_none_any {P : Program} {w : World} (base : Nat) (t ty e : TypeId) (i : TypeInfo) (size : Nat) (ht : P.underlying t = some (.slice e)) (hi : P.info? e = some i)
    (v : Value) (n : Nat) (xs : List Value) (hown : w.ownsRow base e size v n xs) (c : Nat) :
    (Builtin.append_ #[t, t] ty #[v, .slice none 0 c]).run P w = .ok v w := by
  rcases hown.2 with ⟨rfl, rfl⟩ | ⟨g, cap, cur, rfl, _, _, hnc, _⟩
  · simp [Builtin.append_, run_underlying ht, sizeOf, typeInfo, hi, Builtin.lenOf, Builtin.firstCells]
  · simp [Builtin.append_, run_underlying ht, sizeOf, typeInfo, hi, Builtin.lenOf, Builtin.firstCells, hnc, storeCells]

theorem metaAt_news {w : World} {B b off n : Nat} {O : Metas} (h : ∀ i, i < n → w.cell? ⟨b, off + i * 5, none⟩ = some (.int .i64 (O.N i)) ∧ w.cell? ⟨b, off + i * 5 + 1, none⟩ = some (.int .i64 (O.L i)) ∧ w.cell? ⟨b, off + i * 5 + 2, none⟩ = some (.string (O.F i)) ∧ w.cell? ⟨b, off + i * 5 + 3, none⟩ = some (.string (O.Z i)) ∧ w.cell? ⟨b, off + i * 5 + 4, none⟩ = some (.int .i64 (O.C i))) (_hB : B = B) :
    ∀ j u, (cellsMeta (metasL O n))[j]? = some u → w.cell? ((⟨b, off, none⟩ : Addr).add j) = some u := fun j u hu => by
  have hj : j < n * 5 := by have := (List.getElem?_eq_some_iff.1 hu).1; rwa [cellsMeta_len, metasL_len] at this
  have hi : j / 5 < n := by omega
  obtain ⟨c0, c1, c2, c3, c4⟩ := h (j / 5) hi
  have hg : (metasL O n)[j / 5]? = some (metaAt1 O (j / 5)) := by simp [metasL, hi]
  obtain ⟨d0, d1, d2, d3, d4⟩ := cellsMeta_get _ _ _ hg
  rw [Addr.add_lit]
  show w.cell? ⟨b, off + j, none⟩ = some u
  have hm : j = j / 5 * 5 + j % 5 := by omega
  have hlt : j % 5 < 5 := Nat.mod_lt _ (by decide)
  have hcase : j % 5 = 0 ∨ j % 5 = 1 ∨ j % 5 = 2 ∨ j % 5 = 3 ∨ j % 5 = 4 := by omega
  rcases hcase with e | e | e | e | e
  · rw [show j = j / 5 * 5 by omega, d0] at hu
    rw [show off + j = off + j / 5 * 5 by omega, c0]; exact hu
  · rw [show j = j / 5 * 5 + 1 by omega, d1] at hu
    rw [show off + j = off + j / 5 * 5 + 1 by omega, c1]; exact hu
  · rw [show j = j / 5 * 5 + 2 by omega, d2] at hu
    rw [show off + j = off + j / 5 * 5 + 2 by omega, c2]; exact hu
  · rw [show j = j / 5 * 5 + 3 by omega, d3] at hu
    rw [show off + j = off + j / 5 * 5 + 3 by omega, c3]; exact hu
  · rw [show j = j / 5 * 5 + 4 by omega, d4] at hu
    rw [show off + j = off + j / 5 * 5 + 4 by omega, c4]; exact hu

/-- 'append(v, u...)', u a row of files that lies anywhere (or nil). -/
theorem wpList_append_metaAt {w : World} {ops : Array Oper} {rest : List Oper} {o : Oper} {a : Act} {Q : Exit → Act → World → Prop} (hgd : o.guard = none) (s x : Operand) (t : TypeId)
    (ho : o.op = .call { callee := .builtin .append, args := #[s, x], argTypes := #[t, t] }) (ht : Try.prog.underlying t = some (.slice 59))
    (B : Nat) (v : Value) (es : List Meta1) (hs : a.eval s = v) (hown : OwnMeta w B v es) (ba : Option Addr) (n c : Nat) (O : Metas) (hx : a.eval x = .slice ba n c) (hsrc : MetaAt w w.heap.size ba n O) (hB : B ≤ w.heap.size) (hlen : es.length + n ≤ 1000000)
    (h : ∀ v' w', OwnMeta w' B v' (es ++ metasL O n) → Below B w w' → wpList Try.prog ops Q rest (a.put o.dst v') w') : wpList Try.prog ops Q (o :: rest) a w := by
  obtain ⟨i0, hi', hz0, hs0, hb0⟩ := info_parts meta_info
  by_cases hn : n = 0
  · subst hn
    have e0 : metasL O 0 = [] := rfl
    rw [e0, List.append_nil] at h
    cases ba with
    | none =>
      refine wpList_plain hgd fun _ hK => ?_
      have hr := run_append_none_any (P := Try.prog) (w := w) B t o.type 59 i0 _ ht hi' v es.length (cellsMeta es) hown c
      unfold Oper.wp execOp
      simp only [ho, resolve, invoke, builtin, Sem.run_bind, Sem.run_pure, Result.andThen_ok, List.map_toArray, List.map_cons, List.map_nil, hs, hx, hr]
      exact hK _ _ (h v w hown (Below.refl _ _))
    | some ad =>
      exact wpList_append_meta hgd s x t ho ht B v es [] hs hown ad 0 c hx rfl (fun j u hu => by simp [cellsMeta] at hu) hB hlen (by rw [List.append_nil]; exact h)
  · rcases hsrc with hz | ⟨b, off, rfl, hb, hc⟩
    · exact absurd hz hn
    · exact wpList_append_meta hgd s x t ho ht B v es (metasL O n) hs hown ⟨b, off, none⟩ n c hx (metasL_len O n) (metaAt_news hc (rfl : 0 = 0)) hB hlen h

/-- An edit as an argument whose cuts can be sorted. -/
def EditSrc (w : World) (e : Value) (d : EditC) : Prop := ∃ b0 q0 b1 q1, e = .agg #[.slice b0 d.n0 q0, .slice b1 d.n1 q1, .int .i64 d.x2, .int .i64 d.x3, .int .i64 d.x4] ∧ MetaAt w w.heap.size b0 d.n0 d.r0 ∧ IntAt w w.heap.size b1 d.n1 d.r1 ∧ IntSrc w (.slice b1 d.n1 q1) (cutsL d)
theorem EditSrc.next {w w' : World} {e : Value} {d : EditC} (h : EditSrc w e d) (hb : Below w.heap.size w w') : EditSrc w' e d := by
  obtain ⟨b0, q0, b1, q1, he, h0, h1, h2⟩ := h
  exact ⟨b0, q0, b1, q1, he, h0.next hb, h1.next hb, h2.next hb⟩

set_option linter.unusedSimpArgs false in
set_option maxHeartbeats 4000000 in
theorem impl_edited (a0 : Option Addr) (p0 : Nat) (c : VersionC) (b0 : Option Addr) (q0 : Nat) (b1 : Option Addr) (q1 : Nat) (d : EditC) (w : World) (hg : d.n0 ≤ 1000) (hg1 : d.n1 ≤ 1048576) (hc0 : c.n0 ≤ 1000)
    (hS : MetaAt w w.heap.size a0 c.n0 c.r0) (hA : MetaAt w w.heap.size b0 d.n0 d.r0) (hU : IntAt w w.heap.size b1 d.n1 d.r1) :
    Calls Try.prog 36 #[.slice a0 c.n0 p0, .agg #[.slice b0 d.n0 q0, .slice b1 d.n1 q1, .int .i64 d.x2, .int .i64 d.x3, .int .i64 d.x4]] w fun e w' => (∃ v M, e = .returned v ∧ (M : List Meta1).Perm (leftL c.r0 d.r1 d.n1 c.n0 ++ metasL d.r0 d.n0) ∧ M.Pairwise (fun a b => ¬ fOrdM b a < 0) ∧ OwnMeta w' w.heap.size v M) ∧ Below w.heap.size w w' := by
  have hX0 := (BoxIs.new w #[.slice b0 d.n0 q0, .slice b1 d.n1 q1, .int .i64 d.x2, .int .i64 d.x3, .int .i64 d.x4] 37 rfl).hid
  have hb0 := below_one w (.cells #[.slice b0 d.n0 q0, .slice b1 d.n1 q1, .int .i64 d.x2, .int .i64 d.x3, .int .i64 d.x4] 37)
  have HS0 := (hS.next hb0).hid
  have HA0 := (hA.next hb0).hid
  have HU0 := (hU.next hb0).hid
  have HB0 := hide hb0
  have HO0 : Hid (OwnMeta (w.alloc (.cells #[.slice b0 d.n0 q0, .slice b1 d.n1 q1, .int .i64 d.x2, .int .i64 d.x3, .int .i64 d.x4] 37)) (w.alloc (.cells #[.slice b0 d.n0 q0, .slice b1 d.n1 q1, .int .i64 d.x2, .int .i64 d.x3, .int .i64 d.x4] 37)).heap.size (.slice none 0 0) (leftL c.r0 d.r1 d.n1 0)) := OwnMeta.nil _ _
  have hlt := BoxIs.lt hX0.out
  clear hS hA hU hb0
  go_enter Try.func36, Try.ntmps36
  go_wp2_with fail
  generalize w.alloc (.cells #[.slice b0 d.n0 q0, .slice b1 d.n1 q1, .int .i64 d.x2, .int .i64 d.x3, .int .i64 d.x4] 37) = W at hX0 HS0 HA0 HU0 HB0 HO0 hlt ⊢
  go_loopg [5, 10] c.n0 (fun g lv iv wr => ∃ k : Nat, iv = .int .i64 (k : Int) ∧ k + g = c.n0 ∧ Hid (OwnMeta wr W.heap.size lv (leftL c.r0 d.r1 d.n1 k)) ∧ Hid (Below W.heap.size W wr))
  case atStart => exact ⟨0, rfl, by omega, HO0, Below.refl _ _⟩
  case round =>
    obtain ⟨k, rfl, hk, HO, HW⟩ := hrel
    clear HO0
    have hX := hX0.out.next HW.out
    by_cases hlt2 : k < c.n0
    · obtain ⟨b, off, rfl, hb, c0, c1, c2, c3, c4⟩ := (HS0.out.below HW.out).at hlt2
      have hki : (k : Int) < (c.n0 : Int) := by omega
      have x1 := (hX.next (below_one wr (.cells #[.int .i64 (c.r0.N k), .int .i64 (c.r0.L k), .string (c.r0.F k), .string (c.r0.Z k), .int .i64 (c.r0.C k)] 59))).cell 1
      have hN := (BoxIs.new wr #[.int .i64 (c.r0.N k), .int .i64 (c.r0.L k), .string (c.r0.F k), .string (c.r0.Z k), .int .i64 (c.r0.C k)] 59 rfl).hid
      have hbm := below_one wr (.cells #[.int .i64 (c.r0.N k), .int .i64 (c.r0.L k), .string (c.r0.F k), .string (c.r0.Z k), .int .i64 (c.r0.C k)] 59)
      have HO1 := (HO.out.next hbm).hid
      have HW1 := hide (HW.out.trans (hbm.mono HW.out.size))
      have cC := lib_ContainsI b1 d.n1 q1 d.r1 (c.r0.N k) (wr.alloc (.cells #[.int .i64 (c.r0.N k), .int .i64 (c.r0.L k), .string (c.r0.F k), .string (c.r0.Z k), .int .i64 (c.r0.C k)] 59)) hg1 (HU0.out.below HW1.out |>.mono HW1.out.size)
      simp only [List.getElem?_toArray, List.getElem?_cons_succ, List.getElem?_cons_zero] at x1
      obtain ⟨t, ht⟩ : ∃ t, cutB d.r1 (c.r0.N k) d.n1 = t := ⟨_, rfl⟩
      rw [ht] at cC
      have HT := hide ht
      clear ht hX hbm HO HW
      go_wp2_with fail
      refine cC.mono ?_
      rintro e w3 ⟨rfl, hb3⟩
      have HO3 := (HO1.out.next hb3).hid
      have HW3 := hide (HW1.out.trans (hb3.mono HW1.out.size))
      have hN3 := (hN.out.next hb3).hid
      clear HO1 HW1 hN hb3 cC x1 c0 c1 c2 c3 c4
      cases t with
      | true =>
        have HLL : Hid (leftL c.r0 d.r1 d.n1 (k + 1) = leftL c.r0 d.r1 d.n1 k) := by show _ = _; rw [leftL, if_pos HT.out]
        have HO4 : Hid (OwnMeta w3 W.heap.size u5 (leftL c.r0 d.r1 d.n1 (k + 1))) := by show OwnMeta _ _ _ _; rw [HLL.out]; exact HO3.out
        clear HT HO3 HLL hN3
        go_wp2
        go_roundg (gk - 1)
        case measure => omega
        case rel => exact ⟨k + 1, by go_num, by omega, HO4, HW3⟩
      | false =>
        have HLL : Hid (leftL c.r0 d.r1 d.n1 (k + 1) = leftL c.r0 d.r1 d.n1 k ++ [metaAt1 c.r0 k]) := by show _ = _; rw [leftL, if_neg (by rw [HT.out]; simp)]
        have hll := leftL_len c.r0 d.r1 d.n1 k
        have z0 := hN3.out.cell 0
        have z1 := hN3.out.cell 1
        have z2 := hN3.out.cell 2
        have z3 := hN3.out.cell 3
        have z4 := hN3.out.cell 4
        simp only [List.getElem?_toArray, List.getElem?_cons_succ, List.getElem?_cons_zero] at z0 z1 z2 z3 z4
        have hbn := below_one w3 (.cells #[.int .i64 (c.r0.N k), .int .i64 (c.r0.L k), .string (c.r0.F k), .string (c.r0.Z k), .int .i64 (c.r0.C k)] 59)
        have HO5 := (HO3.out.next hbn).hid
        have HW5 := hide (HW3.out.trans (hbn.mono HW3.out.size))
        have hM5 := (BoxIs.new w3 #[.int .i64 (c.r0.N k), .int .i64 (c.r0.L k), .string (c.r0.F k), .string (c.r0.Z k), .int .i64 (c.r0.C k)] 59 rfl).hid
        clear HT HO3 HW3 hN3 hbn
        go_wp2_with (first
          | (at_builtin; refine wpList_append_meta rfl _ _ 30 rfl Try.underlying30 W.heap.size _ (leftL c.r0 d.r1 d.n1 k) [metaAt1 c.r0 k] (by rfl) HO5.out ⟨w3.heap.size, 0, none⟩ 1 1 (by rfl) rfl (meta_news (e := metaAt1 c.r0 k) hM5.out) HW5.out.size (by omega) ?_))
        intro v6 w6 ho6 hb6
        have HO6 : Hid (OwnMeta w6 W.heap.size v6 (leftL c.r0 d.r1 d.n1 (k + 1))) := by show OwnMeta _ _ _ _; rw [HLL.out]; exact ho6
        have HW6 := hide (HW5.out.trans hb6)
        clear ho6 hb6 HO5 HW5 hM5 HLL z0 z1 z2 z3 z4
        go_wp2
        go_roundg (gk - 1)
        case measure => omega
        case rel => exact ⟨k + 1, by go_num, by omega, HO6, HW6⟩
    · obtain rfl : k = c.n0 := by omega
      have hki : ¬ ((c.n0 : Int) < (c.n0 : Int)) := by omega
      have x0 := hX.cell 0
      simp only [List.getElem?_toArray, List.getElem?_cons_succ, List.getElem?_cons_zero] at x0
      have HA1 := ((HA0.out.below HW.out).mono HW.out.size).hid
      have hll := leftL_len c.r0 d.r1 d.n1 c.n0
      clear hX
      go_wp2_with (first
        | (at_builtin; refine wpList_append_metaAt rfl _ _ 30 rfl Try.underlying30 W.heap.size _ (leftL c.r0 d.r1 d.n1 c.n0) (by rfl) HO.out b0 d.n0 q0 d.r0 (by rfl) HA1.out HW.out.size (by omega) ?_))
      intro v6 w6 ho6 hb6
      have HO6 := ho6.hid
      have HL6 := hide (HB0.out.trans ((HW.out.trans hb6).mono HB0.out.size))
      clear ho6 hb6 HO HW HA1 x0
      go_wp2_with fail
      refine (impl_sortedM v6 (leftL c.r0 d.r1 d.n1 c.n0 ++ metasL d.r0 d.n0) W.heap.size w6 HO6.out (by rw [List.length_append, metasL_len]; omega)).mono ?_
      rintro e w7 ⟨⟨v7, M, rfl, hp, hso, ho7⟩, hb7⟩
      have HP := hide hp
      have HSO := hide hso
      have HO7 := (ho7.base HL6.out.size).hid
      have HL7 := hide (HL6.out.trans (hb7.mono HL6.out.size))
      clear hp hso ho7 hb7 HO6 HL6
      go_wp2
      go_ret
      exact ⟨⟨_, rfl, M, HP.out, HSO.out, HO7.out⟩, HL7.out⟩

end Go.Proofs.Ytplbhgcibfajaaa
