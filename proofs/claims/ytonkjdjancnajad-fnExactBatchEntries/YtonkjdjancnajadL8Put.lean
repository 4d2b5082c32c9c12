/- The model's l8Put: an entry put into a row of entries, where its key belongs. -/
import Derived.Test.YtonkjdjancnajadPutO
import Derived.Test.YtonkjdjancnajadSortW
import Derived.Test.YtonkjdjancnajadReg
import Derived.Test.YtonkjdjancnajadBox
namespace Go.Proofs.Ytonkjdjancnajad
set_option maxRecDepth 100000
open Go.RowKit Go.Deep Go.Sort

theorem ents_one (O : Ops) (q : Int) (l : List Nat) (k : Nat) : l.map (opEn O q) ++ [⟨O.U k, q + (k : Int), O.K k, O.X k⟩] = (l ++ [k]).map (opEn O q) := by rw [List.map_append]; rfl

theorem cfB_val (O : Ops) (q : Int) {x k : Nat} (h : x ≠ k) : cfB O q x k = if ltB O q x k then -1 else 1 := by
  have hl : ltB O q x k = decide (cfB O q x k < 0) := rfl
  have hv : cfB O q x k = -1 ∨ cfB O q x k = 1 := by
    unfold cfB keyLess orI
    rcases cmpS_cases (O.U x) (O.U k) with ⟨a, _, _⟩ | ⟨a, _, _⟩ | ⟨a, _, _⟩
    · simp [a]
    · rw [a]
      rcases cmpI_cases (q + (k : Int)) (q + (x : Int)) with ⟨b, _, l⟩ | ⟨b, _, l⟩ | ⟨b, _, l⟩
      · simp [b]
      · exact absurd (by omega) h
      · simp [b]
    · simp [a]
  rcases hv with e | e <;> rw [hl, e] <;> simp

/-- Row number i of a row of one's own. -/
theorem OwnE.ent {w : World} {B g cap : Nat} {O : Ops} {q : Int} {m : List Nat} (h : OwnE w B g cap (m.map (opEn O q))) {i x : Nat} (hi : m[i]? = some x) :
    w.cell? ⟨g, i * 4, none⟩ = some (.string (O.U x)) ∧ w.cell? ⟨g, i * 4 + 1, none⟩ = some (.int .i64 (q + (x : Int))) ∧ w.cell? ⟨g, i * 4 + 2, none⟩ = some (.int .i64 (O.K x)) ∧ w.cell? ⟨g, i * 4 + 3, none⟩ = some (.string (O.X x)) := by
  obtain ⟨a, b, c, d⟩ := cellsE_get (m.map (opEn O q)) i (opEn O q x) (by rw [List.getElem?_map, hi]; rfl)
  exact ⟨h.cell a, h.cell b, h.cell c, h.cell d⟩

/-- How far the world at hand is from the first. -/
def Far (w : World) (g : Nat) (x : World) : Prop := Below w.heap.size w x ∧ w.heap.size + 1 ≤ x.heap.size ∧ g < x.heap.size
theorem Far.step {w x y : World} {g : Nat} (h : Far w g x) (hb : Below x.heap.size x y) : Far w g y :=
  ⟨h.1.trans (hb.mono h.1.size), Nat.le_trans h.2.1 hb.size, Nat.lt_of_lt_of_le h.2.2 hb.size⟩
theorem Far.stepB {w x y : World} {g : Nat} (h : Far w g x) (hb : Below (w.heap.size + 1) x y) : Far w g y :=
  ⟨h.1.trans (hb.mono (Nat.le_succ _)), Nat.le_trans h.2.1 hb.size, Nat.lt_of_lt_of_le h.2.2 hb.size⟩

set_option maxHeartbeats 8000000 in
theorem spec_l8Put (O : Ops) (q : Int) (m : List Nat) (k n g cap B : Nat) (w : World) (hn : m.length = n) (hz : n ≤ 100) (hok : ∀ x ∈ m, keyOkB (O.U x) (q + (x : Int)) (O.K x) = true ∧ x ≠ k) (hk : keyOkB (O.U k) (q + (k : Int)) (O.K k) = true) (hO : OwnE w B g cap (m.map (opEn O q))) :
    Calls Try.prog 26 #[.slice (some ⟨g, 0, none⟩) n cap, .agg #[.string (O.U k), .int .i64 (q + (k : Int)), .int .i64 (O.K k), .string (O.X k)]] w fun e w' => (∃ g' cap', e = .returned (.slice (some ⟨g', 0, none⟩) (n + 1) cap') ∧ OwnE w' w.heap.size g' cap' ((ins O q k m).map (opEn O q))) ∧ Below w.heap.size w w' := by
  have HGW : Hid (g < w.heap.size) := hO.lt.2
  have hcap : n ≤ cap := by have := hO.cap.1; rw [List.length_map] at this; omega
  have HX0 := hide ((BoxIs.new w #[.string (O.U k), .int .i64 (q + (k : Int)), .int .i64 (O.K k), .string (O.X k)] 52 rfl).next (below_one _ (.cells #[] 52)))
  have HR0 := hide ((hO.below (below_one w (.cells #[.string (O.U k), .int .i64 (q + (k : Int)), .int .i64 (O.K k), .string (O.X k)] 52)) HGW.out).below (below_one _ (.cells #[] 52)) (Nat.lt_of_lt_of_le HGW.out (below_one w (.cells #[.string (O.U k), .int .i64 (q + (k : Int)), .int .i64 (O.K k), .string (O.X k)] 52)).size))
  have hsz0 : (w.alloc (.cells #[.string (O.U k), .int .i64 (q + (k : Int)), .int .i64 (O.K k), .string (O.X k)] 52)).heap.size = w.heap.size + 1 := by simp
  have HO0 := hide (hsz0 ▸ OwnE.lit (w.alloc (.cells #[.string (O.U k), .int .i64 (q + (k : Int)), .int .i64 (O.K k), .string (O.X k)] 52)) (w.heap.size + 1) (by simp) : OwnE ((w.alloc (.cells #[.string (O.U k), .int .i64 (q + (k : Int)), .int .i64 (O.K k), .string (O.X k)] 52)).alloc (.cells #[] 52)) (w.heap.size + 1) (w.heap.size + 1) 0 (([] : List Nat).map (opEn O q)))
  have HW0 : Hid (Far w g ((w.alloc (.cells #[.string (O.U k), .int .i64 (q + (k : Int)), .int .i64 (O.K k), .string (O.X k)] 52)).alloc (.cells #[] 52))) := Far.step ⟨below_one w _, by simp, Nat.lt_of_lt_of_le HGW.out (below_one w _).size⟩ (below_one _ _)
  clear hO
  go_enter Try.func26, Try.ntmps26
  go_wp2
  go_loopw [5, 6, 7] (fun v p j wr => ∃ (i gx cx : Nat) (acc : List Nat) (b : Bool), j = .int .i64 i ∧ v = .slice (some ⟨gx, 0, none⟩) acc.length cx ∧ p = .bool b ∧ i ≤ n ∧ acc.length ≤ i + (if b then 1 else 0) ∧ Hid ((m.take i).foldl (stepB O q k) ([], false) = (acc, b)) ∧ Hid (OwnE wr (w.heap.size + 1) gx cx (acc.map (opEn O q))) ∧ Hid (BoxIs wr w.heap.size #[.string (O.U k), .int .i64 (q + (k : Int)), .int .i64 (O.K k), .string (O.X k)] 52) ∧ Hid (OwnE wr B g cap (m.map (opEn O q))) ∧ Hid (Far w g wr)) (fun _ _ j _ => n - (intOf j).toNat)
  case atStart => exact ⟨0, _, _, [], false, rfl, rfl, rfl, by omega, by simp, rfl, HO0, HX0, HR0, HW0⟩
  case round =>
    obtain ⟨i, gx, cx, acc, b, rfl, rfl, rfl, hin, hal, HS, HO, HX, HR, HW⟩ := hrel
    clear HX0 HR0 HO0 HW0
    by_cases hlt : i < n
    · obtain ⟨x, hi⟩ : ∃ x, m[i]? = some x := ⟨_, List.getElem?_eq_getElem (by omega)⟩
      obtain ⟨hxo, hxk⟩ := hok x (List.mem_of_getElem? hi)
      obtain ⟨c0, c1, c2, _⟩ := HR.out.ent hi
      have b0 := HX.out.cell 0
      have b1 := HX.out.cell 1
      have b2 := HX.out.cell 2
      simp only [List.getElem?_toArray, List.getElem?_cons_succ, List.getElem?_cons_zero] at b0 b1 b2
      have hii : (i : Int) < (n : Int) := by omega
      have hcv : keyCmpI (O.U x) (q + (x : Int)) (O.K x) (O.U k) (q + (k : Int)) (O.K k) = if ltB O q x k then -1 else 1 := by rw [← cfB_val O q hxk, keyCmp_ok hxo hk]; rfl
      have hst : (m.take (i + 1)).foldl (stepB O q k) ([], false) = stepB O q k (acc, b) x := by rw [List.take_add_one, hi, List.foldl_append, HS.out]; rfl
      have hlc : i < m.length := by omega
      cases hl : ltB O q x k with
      | true =>
        have ce := fun wx => (show keyCmpI (O.U x) (q + (x : Int)) (O.K x) (O.U k) (q + (k : Int)) (O.K k) = -1 by rw [hcv, hl]; rfl) ▸ spec_KeyCmp (O.U x) (q + (x : Int)) (O.K x) (O.U k) (q + (k : Int)) (O.K k) wx
        have HST : Hid ((m.take (i + 1)).foldl (stepB O q k) ([], false) = (acc ++ [x], b)) := by show _ = _; rw [hst]; simp [stepB, hl]
        clear hcv hst hl hxo HS
        cases b with
        | true =>
          simp only [if_true] at hal
          go_wp2_with fail
          refine wp_region_noPanic ?_
          refine wp_region_held_drew (S := fun x => Below wr.heap.size wr x) (by kernel_rfl) (Below.refl _ _).drew (fun hH => ?_)
          have hb0 : Below wr.heap.size wr wr.drew := hH
          clear hH
          have c0_0 := keepc hb0 c0
          have c1_0 := keepc hb0 c1
          have c2_0 := keepc hb0 c2
          have b0_0 := keepc hb0 b0
          have b1_0 := keepc hb0 b1
          have b2_0 := keepc hb0 b2
          generalize wr.drew = wq0 at hb0 c0_0 c1_0 c2_0 b0_0 b1_0 b2_0 ⊢
          refine wpAnyH_restart hb0 ?_
          refine wpAnyH_take (i := 0) (v := .slice (some ⟨g, 0, none⟩) n cap) nat0 (by kernel_rfl) (by kernel_rfl) (by kernel_rfl) (fun _ _ _ h => False.elim h) (Or.inl ⟨by rfl, ?_⟩) (Below.refl _ _) ?_
          · intro wx hSw
            go_simp
          simp only [Act.put, List.setIfInBounds_toArray, List.set_cons_zero, List.set_cons_succ]
          refine wpAnyH_take (i := 1) (v := .int .i64 i) nat1 (by kernel_rfl) (by kernel_rfl) (by kernel_rfl) (fun _ _ _ h => False.elim h) (Or.inl ⟨by rfl, ?_⟩) (Below.refl _ _) ?_
          · intro wx hSw
            go_simp
          simp only [Act.put, List.setIfInBounds_toArray, List.set_cons_zero, List.set_cons_succ]
          refine wpAnyH_take (i := 2) (v := .pointer (some ⟨g, i * 4, none⟩)) nat2 (by kernel_rfl) (by kernel_rfl) (by kernel_rfl) (fun _ _ _ h => False.elim h) (Or.inl ⟨by rfl, ?_⟩) (Below.refl _ _) ?_
          · intro wx hSw
            go_simp
          simp only [Act.put, List.setIfInBounds_toArray, List.set_cons_zero, List.set_cons_succ]
          refine wpAnyH_take (i := 3) (v := .pointer (some ⟨g, i * 4, none⟩)) nat3 (by kernel_rfl) (by kernel_rfl) (by kernel_rfl) (fun _ _ _ h => False.elim h) (Or.inl ⟨by rfl, ?_⟩) (Below.refl _ _) ?_
          · intro wx hSw
            go_simp
          simp only [Act.put, List.setIfInBounds_toArray, List.set_cons_zero, List.set_cons_succ]
          refine wpAnyH_take (i := 4) (v := .agg #[.string (O.U x), .int .i64 (q + (x : Int)), .int .i64 (O.K x)]) nat4 (by kernel_rfl) (by kernel_rfl) (by kernel_rfl) (fun _ _ _ h => False.elim h) (Or.inl ⟨by rfl, ?_⟩) (Below.refl _ _) ?_
          · intro wx hSw
            have hx : Below wq0.heap.size wq0 wx := hSw
            have e0 := keepc hx c0_0
            have e1 := keepc hx c1_0
            have e2 := keepc hx c2_0
            go_simp
          simp only [Act.put, List.setIfInBounds_toArray, List.set_cons_zero, List.set_cons_succ]
          refine wpAnyH_take (i := 5) (v := .pointer (some ⟨w.heap.size, 0, none⟩)) nat5 (by kernel_rfl) (by kernel_rfl) (by kernel_rfl) (fun _ _ _ h => False.elim h) (Or.inl ⟨by rfl, ?_⟩) (Below.refl _ _) ?_
          · intro wx hSw
            go_simp
          simp only [Act.put, List.setIfInBounds_toArray, List.set_cons_zero, List.set_cons_succ]
          refine wpAnyH_take (i := 6) (v := .agg #[.string (O.U k), .int .i64 (q + (k : Int)), .int .i64 (O.K k)]) nat6 (by kernel_rfl) (by kernel_rfl) (by kernel_rfl) (fun _ _ _ h => False.elim h) (Or.inl ⟨by rfl, ?_⟩) (Below.refl _ _) ?_
          · intro wx hSw
            have hx : Below wq0.heap.size wq0 wx := hSw
            have e0 := keepc hx b0_0
            have e1 := keepc hx b1_0
            have e2 := keepc hx b2_0
            go_simp
          simp only [Act.put, List.setIfInBounds_toArray, List.set_cons_zero, List.set_cons_succ]
          refine wpAnyH_ready (rs := [7]) (by kernel_rfl) (by simp) ?_
          refine AllReadyH.cons nat7 (fun K hK => ?_) AllReadyH.nil
          go_simp
          go_at_call 57
          refine (ce _).mono ?_
          rintro e wq1 ⟨rfl, hb1⟩
          refine hK.out _ _ hb1 (fun _ => ?_)
          clear hK K
          have c0_0_1 := keepc hb1 c0_0
          have c1_0_1 := keepc hb1 c1_0
          have c2_0_1 := keepc hb1 c2_0
          have b0_0_1 := keepc hb1 b0_0
          have b1_0_1 := keepc hb1 b1_0
          have b2_0_1 := keepc hb1 b2_0
          refine wpAnyH_restart hb1 ?_
          refine wpAnyH_take (i := 8) (v := .int .i64 (-1)) nat8 (by kernel_rfl) (by kernel_rfl) (by kernel_rfl) (fun _ _ _ h => False.elim h) (Or.inl ⟨by rfl, ?_⟩) (Below.refl _ _) ?_
          · intro wx hSw
            go_simp
          simp only [Act.put, List.setIfInBounds_toArray, List.set_cons_zero, List.set_cons_succ]
          refine wpAnyH_done (by kernel_rfl) ?_ _
          refine NoPanic.normal ?_
          have HBL : Below wr.heap.size wr wq1 := (hb0).trans (hb1.mono (hb0).size)
          have hxE := HX.out.next HBL
          have hrE := HR.out.below HBL (Nat.lt_of_lt_of_le HW.out.2.2 (Nat.le_refl _))
          have HO1 := hide (HO.out.below HBL HO.out.lt.2)
          have HW1 := hide (HW.out.step HBL)
          have HX1 := hide hxE
          have HR1 := hide hrE
          clear hxE hrE HBL HX HR HO HW ce c0_0_1 c1_0_1 c2_0_1 b0_0_1 b1_0_1 b2_0_1
          obtain ⟨d0, d1, d2, d3⟩ := HR1.out.ent hi
          have hz_ := HW1.out.2.1
          have ha_ := below_one wq1 (.cells #[.string (O.U x), .int .i64 (q + (x : Int)), .int .i64 (O.K x), .string (O.X x)] 52)
          have HOa := hide (HO1.out.below ha_ HO1.out.lt.2)
          have hsrc := srcOne wq1 (O.U x) (q + (x : Int)) (O.K x) (O.X x)
          go_wp2_with (at_builtin; refine wpList_append_es rfl _ _ 26 rfl Try.underlying26 (w.heap.size + 1) _ _ (acc.map (opEn O q)) [⟨O.U x, q + (x : Int), O.K x, O.X x⟩] (by rw [List.length_map]; rfl) HOa.out ⟨wq1.heap.size, 0, none⟩ 1 1 (by rfl) rfl hsrc (Nat.le_trans hz_ ha_.size) ?c3 ?_)
          case c3 => rw [List.length_map]; simp; omega
          intro gs caps ws hOs hbs
          rw [ents_one] at hOs
          try simp only [List.length_map]
          have hbs' := (ha_.mono hz_).trans hbs
          have HOs := hide hOs
          clear ha_ hsrc HOa hOs hbs hz_ HO1
          have HX3 := hide (HX1.out.below hbs' (Nat.lt_succ_self _))
          have HR3 := hide (HR1.out.block (hbs'.block g (Nat.lt_succ_of_lt HGW.out)))
          have HW3 := hide (HW1.out.stepB hbs')
          clear hbs' HX1 HR1 HW1 d0 d1 d2 d3
          go_wp2
          exact ⟨⟨i + 1, gs, caps, acc ++ [x], _, by go_num, by simp, rfl, by omega, by simp at *; omega, HST, HOs, HX3, HR3, HW3⟩, by simp [intOf]; omega⟩
        | false =>
          have hal2 : acc.length ≤ i := by simpa using hal
          go_wp2_with fail
          refine wp_region_noPanic ?_
          refine wp_region_held_drew (S := fun x => Below wr.heap.size wr x) (by kernel_rfl) (Below.refl _ _).drew (fun hH => ?_)
          have hb0 : Below wr.heap.size wr wr.drew := hH
          clear hH
          have c0_0 := keepc hb0 c0
          have c1_0 := keepc hb0 c1
          have c2_0 := keepc hb0 c2
          have b0_0 := keepc hb0 b0
          have b1_0 := keepc hb0 b1
          have b2_0 := keepc hb0 b2
          generalize wr.drew = wq0 at hb0 c0_0 c1_0 c2_0 b0_0 b1_0 b2_0 ⊢
          refine wpAnyH_restart hb0 ?_
          refine wpAnyH_take (i := 0) (v := .slice (some ⟨g, 0, none⟩) n cap) nat0 (by kernel_rfl) (by kernel_rfl) (by kernel_rfl) (fun _ _ _ h => False.elim h) (Or.inl ⟨by rfl, ?_⟩) (Below.refl _ _) ?_
          · intro wx hSw
            go_simp
          simp only [Act.put, List.setIfInBounds_toArray, List.set_cons_zero, List.set_cons_succ]
          refine wpAnyH_take (i := 1) (v := .int .i64 i) nat1 (by kernel_rfl) (by kernel_rfl) (by kernel_rfl) (fun _ _ _ h => False.elim h) (Or.inl ⟨by rfl, ?_⟩) (Below.refl _ _) ?_
          · intro wx hSw
            go_simp
          simp only [Act.put, List.setIfInBounds_toArray, List.set_cons_zero, List.set_cons_succ]
          refine wpAnyH_take (i := 2) (v := .pointer (some ⟨g, i * 4, none⟩)) nat2 (by kernel_rfl) (by kernel_rfl) (by kernel_rfl) (fun _ _ _ h => False.elim h) (Or.inl ⟨by rfl, ?_⟩) (Below.refl _ _) ?_
          · intro wx hSw
            go_simp
          simp only [Act.put, List.setIfInBounds_toArray, List.set_cons_zero, List.set_cons_succ]
          refine wpAnyH_take (i := 3) (v := .pointer (some ⟨g, i * 4, none⟩)) nat3 (by kernel_rfl) (by kernel_rfl) (by kernel_rfl) (fun _ _ _ h => False.elim h) (Or.inl ⟨by rfl, ?_⟩) (Below.refl _ _) ?_
          · intro wx hSw
            go_simp
          simp only [Act.put, List.setIfInBounds_toArray, List.set_cons_zero, List.set_cons_succ]
          refine wpAnyH_take (i := 4) (v := .agg #[.string (O.U x), .int .i64 (q + (x : Int)), .int .i64 (O.K x)]) nat4 (by kernel_rfl) (by kernel_rfl) (by kernel_rfl) (fun _ _ _ h => False.elim h) (Or.inl ⟨by rfl, ?_⟩) (Below.refl _ _) ?_
          · intro wx hSw
            have hx : Below wq0.heap.size wq0 wx := hSw
            have e0 := keepc hx c0_0
            have e1 := keepc hx c1_0
            have e2 := keepc hx c2_0
            go_simp
          simp only [Act.put, List.setIfInBounds_toArray, List.set_cons_zero, List.set_cons_succ]
          refine wpAnyH_take (i := 5) (v := .pointer (some ⟨w.heap.size, 0, none⟩)) nat5 (by kernel_rfl) (by kernel_rfl) (by kernel_rfl) (fun _ _ _ h => False.elim h) (Or.inl ⟨by rfl, ?_⟩) (Below.refl _ _) ?_
          · intro wx hSw
            go_simp
          simp only [Act.put, List.setIfInBounds_toArray, List.set_cons_zero, List.set_cons_succ]
          refine wpAnyH_take (i := 6) (v := .agg #[.string (O.U k), .int .i64 (q + (k : Int)), .int .i64 (O.K k)]) nat6 (by kernel_rfl) (by kernel_rfl) (by kernel_rfl) (fun _ _ _ h => False.elim h) (Or.inl ⟨by rfl, ?_⟩) (Below.refl _ _) ?_
          · intro wx hSw
            have hx : Below wq0.heap.size wq0 wx := hSw
            have e0 := keepc hx b0_0
            have e1 := keepc hx b1_0
            have e2 := keepc hx b2_0
            go_simp
          simp only [Act.put, List.setIfInBounds_toArray, List.set_cons_zero, List.set_cons_succ]
          refine wpAnyH_ready (rs := [7]) (by kernel_rfl) (by simp) ?_
          refine AllReadyH.cons nat7 (fun K hK => ?_) AllReadyH.nil
          go_simp
          go_at_call 57
          refine (ce _).mono ?_
          rintro e wq1 ⟨rfl, hb1⟩
          refine hK.out _ _ hb1 (fun _ => ?_)
          clear hK K
          have c0_0_1 := keepc hb1 c0_0
          have c1_0_1 := keepc hb1 c1_0
          have c2_0_1 := keepc hb1 c2_0
          have b0_0_1 := keepc hb1 b0_0
          have b1_0_1 := keepc hb1 b1_0
          have b2_0_1 := keepc hb1 b2_0
          refine wpAnyH_restart hb1 ?_
          refine wpAnyH_take (i := 8) (v := .int .i64 (-1)) nat8 (by kernel_rfl) (by kernel_rfl) (by kernel_rfl) (fun _ _ _ h => False.elim h) (Or.inl ⟨by rfl, ?_⟩) (Below.refl _ _) ?_
          · intro wx hSw
            go_simp
          simp only [Act.put, List.setIfInBounds_toArray, List.set_cons_zero, List.set_cons_succ]
          refine wpAnyH_done (by kernel_rfl) ?_ _
          refine NoPanic.normal ?_
          have HBL : Below wr.heap.size wr wq1 := (hb0).trans (hb1.mono (hb0).size)
          have hxE := HX.out.next HBL
          have hrE := HR.out.below HBL (Nat.lt_of_lt_of_le HW.out.2.2 (Nat.le_refl _))
          have HO1 := hide (HO.out.below HBL HO.out.lt.2)
          have HW1 := hide (HW.out.step HBL)
          have HX1 := hide hxE
          have HR1 := hide hrE
          clear hxE hrE HBL HX HR HO HW ce c0_0_1 c1_0_1 c2_0_1 b0_0_1 b1_0_1 b2_0_1
          obtain ⟨d0, d1, d2, d3⟩ := HR1.out.ent hi
          have hz_ := HW1.out.2.1
          have ha_ := below_one wq1 (.cells #[.string (O.U x), .int .i64 (q + (x : Int)), .int .i64 (O.K x), .string (O.X x)] 52)
          have HOa := hide (HO1.out.below ha_ HO1.out.lt.2)
          have hsrc := srcOne wq1 (O.U x) (q + (x : Int)) (O.K x) (O.X x)
          go_wp2_with (at_builtin; refine wpList_append_es rfl _ _ 26 rfl Try.underlying26 (w.heap.size + 1) _ _ (acc.map (opEn O q)) [⟨O.U x, q + (x : Int), O.K x, O.X x⟩] (by rw [List.length_map]; rfl) HOa.out ⟨wq1.heap.size, 0, none⟩ 1 1 (by rfl) rfl hsrc (Nat.le_trans hz_ ha_.size) ?c3 ?_)
          case c3 => rw [List.length_map]; simp; omega
          intro gs caps ws hOs hbs
          rw [ents_one] at hOs
          try simp only [List.length_map]
          have hbs' := (ha_.mono hz_).trans hbs
          have HOs := hide hOs
          clear ha_ hsrc HOa hOs hbs hz_ HO1
          have HX3 := hide (HX1.out.below hbs' (Nat.lt_succ_self _))
          have HR3 := hide (HR1.out.block (hbs'.block g (Nat.lt_succ_of_lt HGW.out)))
          have HW3 := hide (HW1.out.stepB hbs')
          clear hbs' HX1 HR1 HW1 d0 d1 d2 d3
          go_wp2
          exact ⟨⟨i + 1, gs, caps, acc ++ [x], _, by go_num, by simp, rfl, by omega, by simp at *; omega, HST, HOs, HX3, HR3, HW3⟩, by simp [intOf]; omega⟩
      | false =>
        have ce := fun wx => (show keyCmpI (O.U x) (q + (x : Int)) (O.K x) (O.U k) (q + (k : Int)) (O.K k) = 1 by rw [hcv, hl]; rfl) ▸ spec_KeyCmp (O.U x) (q + (x : Int)) (O.K x) (O.U k) (q + (k : Int)) (O.K k) wx
        cases b with
        | true =>
          have HST : Hid ((m.take (i + 1)).foldl (stepB O q k) ([], false) = (acc ++ [x], true)) := by show _ = _; rw [hst]; simp [stepB, hl]
          clear hcv hst hl hxo HS
          simp only [if_true] at hal
          go_wp2_with fail
          refine wp_region_noPanic ?_
          refine wp_region_held_drew (S := fun x => Below wr.heap.size wr x) (by kernel_rfl) (Below.refl _ _).drew (fun hH => ?_)
          have hb0 : Below wr.heap.size wr wr.drew := hH
          clear hH
          have c0_0 := keepc hb0 c0
          have c1_0 := keepc hb0 c1
          have c2_0 := keepc hb0 c2
          have b0_0 := keepc hb0 b0
          have b1_0 := keepc hb0 b1
          have b2_0 := keepc hb0 b2
          generalize wr.drew = wq0 at hb0 c0_0 c1_0 c2_0 b0_0 b1_0 b2_0 ⊢
          refine wpAnyH_restart hb0 ?_
          refine wpAnyH_take (i := 0) (v := .slice (some ⟨g, 0, none⟩) n cap) nat0 (by kernel_rfl) (by kernel_rfl) (by kernel_rfl) (fun _ _ _ h => False.elim h) (Or.inl ⟨by rfl, ?_⟩) (Below.refl _ _) ?_
          · intro wx hSw
            go_simp
          simp only [Act.put, List.setIfInBounds_toArray, List.set_cons_zero, List.set_cons_succ]
          refine wpAnyH_take (i := 1) (v := .int .i64 i) nat1 (by kernel_rfl) (by kernel_rfl) (by kernel_rfl) (fun _ _ _ h => False.elim h) (Or.inl ⟨by rfl, ?_⟩) (Below.refl _ _) ?_
          · intro wx hSw
            go_simp
          simp only [Act.put, List.setIfInBounds_toArray, List.set_cons_zero, List.set_cons_succ]
          refine wpAnyH_take (i := 2) (v := .pointer (some ⟨g, i * 4, none⟩)) nat2 (by kernel_rfl) (by kernel_rfl) (by kernel_rfl) (fun _ _ _ h => False.elim h) (Or.inl ⟨by rfl, ?_⟩) (Below.refl _ _) ?_
          · intro wx hSw
            go_simp
          simp only [Act.put, List.setIfInBounds_toArray, List.set_cons_zero, List.set_cons_succ]
          refine wpAnyH_take (i := 3) (v := .pointer (some ⟨g, i * 4, none⟩)) nat3 (by kernel_rfl) (by kernel_rfl) (by kernel_rfl) (fun _ _ _ h => False.elim h) (Or.inl ⟨by rfl, ?_⟩) (Below.refl _ _) ?_
          · intro wx hSw
            go_simp
          simp only [Act.put, List.setIfInBounds_toArray, List.set_cons_zero, List.set_cons_succ]
          refine wpAnyH_take (i := 4) (v := .agg #[.string (O.U x), .int .i64 (q + (x : Int)), .int .i64 (O.K x)]) nat4 (by kernel_rfl) (by kernel_rfl) (by kernel_rfl) (fun _ _ _ h => False.elim h) (Or.inl ⟨by rfl, ?_⟩) (Below.refl _ _) ?_
          · intro wx hSw
            have hx : Below wq0.heap.size wq0 wx := hSw
            have e0 := keepc hx c0_0
            have e1 := keepc hx c1_0
            have e2 := keepc hx c2_0
            go_simp
          simp only [Act.put, List.setIfInBounds_toArray, List.set_cons_zero, List.set_cons_succ]
          refine wpAnyH_take (i := 5) (v := .pointer (some ⟨w.heap.size, 0, none⟩)) nat5 (by kernel_rfl) (by kernel_rfl) (by kernel_rfl) (fun _ _ _ h => False.elim h) (Or.inl ⟨by rfl, ?_⟩) (Below.refl _ _) ?_
          · intro wx hSw
            go_simp
          simp only [Act.put, List.setIfInBounds_toArray, List.set_cons_zero, List.set_cons_succ]
          refine wpAnyH_take (i := 6) (v := .agg #[.string (O.U k), .int .i64 (q + (k : Int)), .int .i64 (O.K k)]) nat6 (by kernel_rfl) (by kernel_rfl) (by kernel_rfl) (fun _ _ _ h => False.elim h) (Or.inl ⟨by rfl, ?_⟩) (Below.refl _ _) ?_
          · intro wx hSw
            have hx : Below wq0.heap.size wq0 wx := hSw
            have e0 := keepc hx b0_0
            have e1 := keepc hx b1_0
            have e2 := keepc hx b2_0
            go_simp
          simp only [Act.put, List.setIfInBounds_toArray, List.set_cons_zero, List.set_cons_succ]
          refine wpAnyH_ready (rs := [7]) (by kernel_rfl) (by simp) ?_
          refine AllReadyH.cons nat7 (fun K hK => ?_) AllReadyH.nil
          go_simp
          go_at_call 57
          refine (ce _).mono ?_
          rintro e wq1 ⟨rfl, hb1⟩
          refine hK.out _ _ hb1 (fun _ => ?_)
          clear hK K
          have c0_0_1 := keepc hb1 c0_0
          have c1_0_1 := keepc hb1 c1_0
          have c2_0_1 := keepc hb1 c2_0
          have b0_0_1 := keepc hb1 b0_0
          have b1_0_1 := keepc hb1 b1_0
          have b2_0_1 := keepc hb1 b2_0
          refine wpAnyH_restart hb1 ?_
          refine wpAnyH_take (i := 8) (v := .int .i64 (1)) nat8 (by kernel_rfl) (by kernel_rfl) (by kernel_rfl) (fun _ _ _ h => False.elim h) (Or.inl ⟨by rfl, ?_⟩) (Below.refl _ _) ?_
          · intro wx hSw
            go_simp
          simp only [Act.put, List.setIfInBounds_toArray, List.set_cons_zero, List.set_cons_succ]
          refine wpAnyH_done (by kernel_rfl) ?_ _
          refine NoPanic.normal ?_
          have HBL : Below wr.heap.size wr wq1 := (hb0).trans (hb1.mono (hb0).size)
          have hxE := HX.out.next HBL
          have hrE := HR.out.below HBL (Nat.lt_of_lt_of_le HW.out.2.2 (Nat.le_refl _))
          have HO1 := hide (HO.out.below HBL HO.out.lt.2)
          have HW1 := hide (HW.out.step HBL)
          have HX1 := hide hxE
          have HR1 := hide hrE
          clear hxE hrE HBL HX HR HO HW ce c0_0_1 c1_0_1 c2_0_1 b0_0_1 b1_0_1 b2_0_1
          obtain ⟨d0, d1, d2, d3⟩ := HR1.out.ent hi
          have hz_ := HW1.out.2.1
          have ha_ := below_one wq1 (.cells #[.string (O.U x), .int .i64 (q + (x : Int)), .int .i64 (O.K x), .string (O.X x)] 52)
          have HOa := hide (HO1.out.below ha_ HO1.out.lt.2)
          have hsrc := srcOne wq1 (O.U x) (q + (x : Int)) (O.K x) (O.X x)
          go_wp2_with (at_builtin; refine wpList_append_es rfl _ _ 26 rfl Try.underlying26 (w.heap.size + 1) _ _ (acc.map (opEn O q)) [⟨O.U x, q + (x : Int), O.K x, O.X x⟩] (by rw [List.length_map]; rfl) HOa.out ⟨wq1.heap.size, 0, none⟩ 1 1 (by rfl) rfl hsrc (Nat.le_trans hz_ ha_.size) ?c3 ?_)
          case c3 => rw [List.length_map]; simp; omega
          intro gs caps ws hOs hbs
          rw [ents_one] at hOs
          try simp only [List.length_map]
          have hbs' := (ha_.mono hz_).trans hbs
          have HOs := hide hOs
          clear ha_ hsrc HOa hOs hbs hz_ HO1
          have HX3 := hide (HX1.out.below hbs' (Nat.lt_succ_self _))
          have HR3 := hide (HR1.out.block (hbs'.block g (Nat.lt_succ_of_lt HGW.out)))
          have HW3 := hide (HW1.out.stepB hbs')
          clear hbs' HX1 HR1 HW1 d0 d1 d2 d3
          go_wp2
          exact ⟨⟨i + 1, gs, caps, acc ++ [x], _, by go_num, by simp, rfl, by omega, by simp at *; omega, HST, HOs, HX3, HR3, HW3⟩, by simp [intOf]; omega⟩
        | false =>
          have HST : Hid ((m.take (i + 1)).foldl (stepB O q k) ([], false) = (acc ++ [k] ++ [x], true)) := by show _ = _; rw [hst]; simp [stepB, hl]
          clear hcv hst hl hxo HS
          have hal2 : acc.length ≤ i := by simpa using hal
          go_wp2_with fail
          refine wp_region_noPanic ?_
          refine wp_region_held_drew (S := fun x => Below wr.heap.size wr x) (by kernel_rfl) (Below.refl _ _).drew (fun hH => ?_)
          have hb0 : Below wr.heap.size wr wr.drew := hH
          clear hH
          have c0_0 := keepc hb0 c0
          have c1_0 := keepc hb0 c1
          have c2_0 := keepc hb0 c2
          have b0_0 := keepc hb0 b0
          have b1_0 := keepc hb0 b1
          have b2_0 := keepc hb0 b2
          generalize wr.drew = wq0 at hb0 c0_0 c1_0 c2_0 b0_0 b1_0 b2_0 ⊢
          refine wpAnyH_restart hb0 ?_
          refine wpAnyH_take (i := 0) (v := .slice (some ⟨g, 0, none⟩) n cap) nat0 (by kernel_rfl) (by kernel_rfl) (by kernel_rfl) (fun _ _ _ h => False.elim h) (Or.inl ⟨by rfl, ?_⟩) (Below.refl _ _) ?_
          · intro wx hSw
            go_simp
          simp only [Act.put, List.setIfInBounds_toArray, List.set_cons_zero, List.set_cons_succ]
          refine wpAnyH_take (i := 1) (v := .int .i64 i) nat1 (by kernel_rfl) (by kernel_rfl) (by kernel_rfl) (fun _ _ _ h => False.elim h) (Or.inl ⟨by rfl, ?_⟩) (Below.refl _ _) ?_
          · intro wx hSw
            go_simp
          simp only [Act.put, List.setIfInBounds_toArray, List.set_cons_zero, List.set_cons_succ]
          refine wpAnyH_take (i := 2) (v := .pointer (some ⟨g, i * 4, none⟩)) nat2 (by kernel_rfl) (by kernel_rfl) (by kernel_rfl) (fun _ _ _ h => False.elim h) (Or.inl ⟨by rfl, ?_⟩) (Below.refl _ _) ?_
          · intro wx hSw
            go_simp
          simp only [Act.put, List.setIfInBounds_toArray, List.set_cons_zero, List.set_cons_succ]
          refine wpAnyH_take (i := 3) (v := .pointer (some ⟨g, i * 4, none⟩)) nat3 (by kernel_rfl) (by kernel_rfl) (by kernel_rfl) (fun _ _ _ h => False.elim h) (Or.inl ⟨by rfl, ?_⟩) (Below.refl _ _) ?_
          · intro wx hSw
            go_simp
          simp only [Act.put, List.setIfInBounds_toArray, List.set_cons_zero, List.set_cons_succ]
          refine wpAnyH_take (i := 4) (v := .agg #[.string (O.U x), .int .i64 (q + (x : Int)), .int .i64 (O.K x)]) nat4 (by kernel_rfl) (by kernel_rfl) (by kernel_rfl) (fun _ _ _ h => False.elim h) (Or.inl ⟨by rfl, ?_⟩) (Below.refl _ _) ?_
          · intro wx hSw
            have hx : Below wq0.heap.size wq0 wx := hSw
            have e0 := keepc hx c0_0
            have e1 := keepc hx c1_0
            have e2 := keepc hx c2_0
            go_simp
          simp only [Act.put, List.setIfInBounds_toArray, List.set_cons_zero, List.set_cons_succ]
          refine wpAnyH_take (i := 5) (v := .pointer (some ⟨w.heap.size, 0, none⟩)) nat5 (by kernel_rfl) (by kernel_rfl) (by kernel_rfl) (fun _ _ _ h => False.elim h) (Or.inl ⟨by rfl, ?_⟩) (Below.refl _ _) ?_
          · intro wx hSw
            go_simp
          simp only [Act.put, List.setIfInBounds_toArray, List.set_cons_zero, List.set_cons_succ]
          refine wpAnyH_take (i := 6) (v := .agg #[.string (O.U k), .int .i64 (q + (k : Int)), .int .i64 (O.K k)]) nat6 (by kernel_rfl) (by kernel_rfl) (by kernel_rfl) (fun _ _ _ h => False.elim h) (Or.inl ⟨by rfl, ?_⟩) (Below.refl _ _) ?_
          · intro wx hSw
            have hx : Below wq0.heap.size wq0 wx := hSw
            have e0 := keepc hx b0_0
            have e1 := keepc hx b1_0
            have e2 := keepc hx b2_0
            go_simp
          simp only [Act.put, List.setIfInBounds_toArray, List.set_cons_zero, List.set_cons_succ]
          refine wpAnyH_ready (rs := [7]) (by kernel_rfl) (by simp) ?_
          refine AllReadyH.cons nat7 (fun K hK => ?_) AllReadyH.nil
          go_simp
          go_at_call 57
          refine (ce _).mono ?_
          rintro e wq1 ⟨rfl, hb1⟩
          refine hK.out _ _ hb1 (fun _ => ?_)
          clear hK K
          have c0_0_1 := keepc hb1 c0_0
          have c1_0_1 := keepc hb1 c1_0
          have c2_0_1 := keepc hb1 c2_0
          have b0_0_1 := keepc hb1 b0_0
          have b1_0_1 := keepc hb1 b1_0
          have b2_0_1 := keepc hb1 b2_0
          refine wpAnyH_restart hb1 ?_
          refine wpAnyH_take (i := 8) (v := .int .i64 (1)) nat8 (by kernel_rfl) (by kernel_rfl) (by kernel_rfl) (fun _ _ _ h => False.elim h) (Or.inl ⟨by rfl, ?_⟩) (Below.refl _ _) ?_
          · intro wx hSw
            go_simp
          simp only [Act.put, List.setIfInBounds_toArray, List.set_cons_zero, List.set_cons_succ]
          refine wpAnyH_done (by kernel_rfl) ?_ _
          refine NoPanic.normal ?_
          have HBL : Below wr.heap.size wr wq1 := (hb0).trans (hb1.mono (hb0).size)
          have hxE := HX.out.next HBL
          have hrE := HR.out.below HBL (Nat.lt_of_lt_of_le HW.out.2.2 (Nat.le_refl _))
          have HO1 := hide (HO.out.below HBL HO.out.lt.2)
          have HW1 := hide (HW.out.step HBL)
          have HX1 := hide hxE
          have HR1 := hide hrE
          clear hxE hrE HBL HX HR HO HW ce c0_0_1 c1_0_1 c2_0_1 b0_0_1 b1_0_1 b2_0_1
          have e0 := HX1.out.cell 0
          have e1 := HX1.out.cell 1
          have e2 := HX1.out.cell 2
          have e3 := HX1.out.cell 3
          simp only [List.getElem?_toArray, List.getElem?_cons_succ, List.getElem?_cons_zero] at e0 e1 e2 e3
          have hz_ := HW1.out.2.1
          have ha_ := below_one wq1 (.cells #[.string (O.U k), .int .i64 (q + (k : Int)), .int .i64 (O.K k), .string (O.X k)] 52)
          have HOa := hide (HO1.out.below ha_ HO1.out.lt.2)
          have hsrc := srcOne wq1 (O.U k) (q + (k : Int)) (O.K k) (O.X k)
          go_wp2_with (at_builtin; refine wpList_append_es rfl _ _ 26 rfl Try.underlying26 (w.heap.size + 1) _ _ (acc.map (opEn O q)) [⟨O.U k, q + (k : Int), O.K k, O.X k⟩] (by rw [List.length_map]; rfl) HOa.out ⟨wq1.heap.size, 0, none⟩ 1 1 (by rfl) rfl hsrc (Nat.le_trans hz_ ha_.size) ?c3 ?_)
          case c3 => rw [List.length_map]; simp; omega
          intro gp capp wp hOp hbp
          rw [ents_one] at hOp
          try simp only [List.length_map]
          have hbp' := (ha_.mono hz_).trans hbp
          have HOp := hide hOp
          clear ha_ hsrc HOa hOp hbp hz_ HO1
          have HX2 := hide (HX1.out.below hbp' (Nat.lt_succ_self _))
          have HR2 := hide (HR1.out.block (hbp'.block g (Nat.lt_succ_of_lt HGW.out)))
          have HW2 := hide (HW1.out.stepB hbp')
          clear hbp' e0 e1 e2 e3 HX1 HR1 HW1
          obtain ⟨d0, d1, d2, d3⟩ := HR2.out.ent hi
          have hz_ := HW2.out.2.1
          have ha_ := below_one wp (.cells #[.string (O.U x), .int .i64 (q + (x : Int)), .int .i64 (O.K x), .string (O.X x)] 52)
          have HOa := hide (HOp.out.below ha_ HOp.out.lt.2)
          have hsrc := srcOne wp (O.U x) (q + (x : Int)) (O.K x) (O.X x)
          go_wp2_with (at_builtin; refine wpList_append_es rfl _ _ 26 rfl Try.underlying26 (w.heap.size + 1) _ _ ((acc ++ [k]).map (opEn O q)) [⟨O.U x, q + (x : Int), O.K x, O.X x⟩] (by rw [List.length_map, List.length_append]; rfl) HOa.out ⟨wp.heap.size, 0, none⟩ 1 1 (by rfl) rfl hsrc (Nat.le_trans hz_ ha_.size) ?c3 ?_)
          case c3 => rw [List.length_map, List.length_append]; simp; omega
          intro gs caps ws hOs hbs
          replace hOs : OwnE ws (w.heap.size + 1) gs caps (((acc ++ [k]) ++ [x]).map (opEn O q)) := by simpa [opEn] using hOs
          try simp only [List.length_map]
          have hbs' := (ha_.mono hz_).trans hbs
          have HOs := hide hOs
          clear ha_ hsrc HOa hOs hbs hz_ HOp
          have HX3 := hide (HX2.out.below hbs' (Nat.lt_succ_self _))
          have HR3 := hide (HR2.out.block (hbs'.block g (Nat.lt_succ_of_lt HGW.out)))
          have HW3 := hide (HW2.out.stepB hbs')
          clear hbs' HX2 HR2 HW2 d0 d1 d2 d3
          go_wp2
          exact ⟨⟨i + 1, gs, caps, acc ++ [k] ++ [x], true, by go_num, by simp, rfl, by omega, by simp at *; omega, HST, HOs, HX3, HR3, HW3⟩, by simp [intOf]; omega⟩
    · obtain rfl : i = n := by omega
      have hfold := foldB_false O q k m []
      rw [show m = m.take i by rw [List.take_of_length_le (by omega)], HS.out, List.nil_append] at hfold
      rw [← show m = m.take i by rw [List.take_of_length_le (by omega)]] at hfold
      have hil := ins_len O q k m
      cases b with
      | true =>
        have hfold' : acc = ins O q k m := hfold
        have HF := hide hfold'
        clear hfold hfold'
        go_wp2
        go_ret
        have hq : acc.length = i + 1 := by rw [HF.out, hil, hn]
        exact ⟨⟨gx, cx, by rw [← hq]; rfl, by rw [← HF.out]; exact HO.out.mono (Nat.le_succ _)⟩, HW.out.1⟩
      | false =>
        have hfold' : acc ++ [k] = ins O q k m := hfold
        have HF := hide hfold'
        clear hfold hfold'
        have hal2 : acc.length ≤ i := by simpa using hal
        have e0 := HX.out.cell 0
        have e1 := HX.out.cell 1
        have e2 := HX.out.cell 2
        have e3 := HX.out.cell 3
        simp only [List.getElem?_toArray, List.getElem?_cons_succ, List.getElem?_cons_zero] at e0 e1 e2 e3
        have hz_ := HW.out.2.1
        have ha_ := below_one wr (.cells #[.string (O.U k), .int .i64 (q + (k : Int)), .int .i64 (O.K k), .string (O.X k)] 52)
        have HOa := hide (HO.out.below ha_ HO.out.lt.2)
        have hsrc := srcOne wr (O.U k) (q + (k : Int)) (O.K k) (O.X k)
        go_wp2_with (at_builtin; refine wpList_append_es rfl _ _ 26 rfl Try.underlying26 (w.heap.size + 1) _ _ (acc.map (opEn O q)) [⟨O.U k, q + (k : Int), O.K k, O.X k⟩] (by rw [List.length_map]; rfl) HOa.out ⟨wr.heap.size, 0, none⟩ 1 1 (by rfl) rfl hsrc (Nat.le_trans hz_ ha_.size) ?c3 ?_)
        case c3 => rw [List.length_map]; simp; omega
        intro gs caps ws hOs hbs
        rw [ents_one] at hOs
        try simp only [List.length_map]
        have hbs' := (ha_.mono hz_).trans hbs
        have HOs := hide hOs
        clear ha_ hsrc HOa hOs hbs hz_ HO
        clear e0 e1 e2 e3
        go_wp2
        go_ret
        have hq : acc.length + 1 = i + 1 := by
          have := congrArg List.length HF.out
          rw [hil, List.length_append] at this
          simp at this
          omega
        exact ⟨⟨gs, caps, by rw [← hq]; rfl, by rw [← HF.out]; exact HOs.out.mono (Nat.le_succ _)⟩, (HW.out.stepB hbs').1⟩

end Go.Proofs.Ytonkjdjancnajad
