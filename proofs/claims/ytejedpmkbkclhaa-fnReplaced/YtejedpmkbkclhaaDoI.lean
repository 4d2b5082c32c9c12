/- The folder's method do, for each kind of change. (By gen_do.py.) -/
import Derived.Test.YtejedpmkbkclhaaFoldI
namespace Go.Proofs.Ytejedpmkbkclhaa
set_option maxRecDepth 100000
open Go.RowKit Go.Deep Go.Maps

theorem file_app (n d : ByteArray) (w : World) : Calls Try.prog 142 #[.agg #[.string n, .string d]] w fun e w' => e = .returned (.string n) ∧ Below w.heap.size w w' := by
  go_enter Try.func142, Try.ntmps142
  go_wp2
  go_ret
  exact ⟨rfl, below_one _ _⟩
theorem file_ren (n t : ByteArray) (w : World) : Calls Try.prog 143 #[.agg #[.string n, .string t]] w fun e w' => e = .returned (.string n) ∧ Below w.heap.size w w' := by
  go_enter Try.func143, Try.ntmps143
  go_wp2
  go_ret
  exact ⟨rfl, below_one _ _⟩
theorem file_rem (n : ByteArray) (w : World) : Calls Try.prog 144 #[.agg #[.string n]] w fun e w' => e = .returned (.string n) ∧ Below w.heap.size w w' := by
  go_enter Try.func144, Try.ntmps144
  go_wp2
  go_ret
  exact ⟨rfl, below_one _ _⟩

/-- The files behind a renaming. -/
def renF (L : List File1) (n t : ByteArray) : List File1 := match lkF L n with | none => L | some d => putF (cutF L n) t d
theorem renF_none {L : List File1} {n : ByteArray} (h : lkF L n = none) (t : ByteArray) : renF L n t = L := by unfold renF; rw [h]
theorem renF_some {L : List File1} {n d : ByteArray} (h : lkF L n = some d) (t : ByteArray) : renF L n t = putF (cutF L n) t d := by unfold renF; rw [h]

theorem look2_own {w : World} {b n : Nat} {V : ByteArray → Value} {L : List File1} (h : w.ownsMap Try.prog 9 heldV b n (dataF L V)) {x : ByteArray} (hx : x.size ≤ maxLen) : (Instr.lookup 100 (.map (some b)) (.string x) true).run Try.prog w = .ok (.tuple #[.agg #[valF L V x], .bool (lkF L x).isSome]) w := by
  obtain ⟨v, ps, hr, hv⟩ := h.look_ok (string_keyed Try.underlying9) Try.underlying100 (zero_content w) (zd := .held (.agg #[.slice none 0 0])) (zp := []) rfl (keyL_of Try.underlying9 hx)
  rw [dataF_at] at hv
  simp only [heldV, Option.some.injEq, Prod.mk.injEq, DataW.held.injEq] at hv
  rw [hr, hv.1, dataF_has]
/-- What a name finds is one's own. -/
theorem RowsM.val {w : World} {B : Nat} {V : ByteArray → Value} {L : List File1} (h : RowsM w B V L) (n : ByteArray) : OwnB w B 5 (valF L V n) ((lkF L n).getD ⟨#[]⟩) := by
  unfold valF
  cases e : lkF L n with
  | none => exact OwnB.nil _ _ _
  | some d => exact h.own ⟨n, d⟩ (lkF_some e)
theorem RowsM.valApart {w : World} {B : Nat} {V : ByteArray → Value} {L : List File1} (h : RowsM w B V L) (n : ByteArray) : ∀ x, x ∈ cutF L n → (valF L V n).ownBlock = none ∨ (valF L V n).ownBlock ≠ (V x.n).ownBlock := by
  intro x hx
  obtain ⟨h1, h2⟩ := mem_cutF.1 hx
  unfold valF
  cases e : lkF L n with
  | none => exact .inl rfl
  | some d => exact h.apart ⟨n, d⟩ x (lkF_some e) h1 (fun e2 => h2 e2.symm)
/-- The other rows stay where one grows. -/
theorem RowsM.grow {w w' : World} {B : Nat} {V : ByteArray → Value} {L : List File1} {v : Value} (h : RowsM w B V L) (ha : ∀ x, x ∈ L → v.ownBlock = none ∨ v.ownBlock ≠ (V x.n).ownBlock) (hg : w.grownBy w' v.ownBlock) : RowsM w' B V L :=
  ⟨fun x hx => (h.own x hx).block fun g hlt _ hv => hg.block g hlt (fun e => by
    rcases ha x hx with h1 | h1
    · rw [h1] at e; cases e
    · exact h1 (by rw [← e, hv])), h.apart⟩
theorem RowsM.fresh {w : World} {B : Nat} {V : ByteArray → Value} {L : List File1} {v v' : Value} {N : Nat} (h : RowsM w B V L) (hN : w.heap.size ≤ N) (ha : ∀ x, x ∈ L → v.ownBlock = none ∨ v.ownBlock ≠ (V x.n).ownBlock) (hl : v'.ownBlock = v.ownBlock ∨ ∃ g, v'.ownBlock = some g ∧ N ≤ g) : ∀ x, x ∈ L → v'.ownBlock = none ∨ v'.ownBlock ≠ (V x.n).ownBlock := by
  intro x hx
  rcases hl with h1 | ⟨g, h1, h2⟩
  · rw [h1]; exact ha x hx
  · refine .inr (fun e => ?_)
    rw [h1] at e
    have := ((h.own x hx).lt g e.symm).2
    omega
/-- AT A STEP OF A REGION: an append whose run is known. -/
theorem step_append_run {P : Program} {w : World} {ops : Array Oper} {o : Oper} {a : Act} {K : Act → World → Prop} {Q : Exit → Act → World → Prop} {E : Prop} (hgd : o.guard = none) (sl x : Operand) (t u : TypeId)
    (ho : o.op = .call { callee := .builtin .append, args := #[sl, x], argTypes := #[t, u] }) (v y : Value) (hs : a.eval sl = v) (hx : a.eval x = y) {v' : Value} {w' : World}
    (hr : (Builtin.append_ #[t, u] o.type #[v, y]).run P w = .ok v' w') (h : K (a.put o.dst v') w') :
    if Region.wanted o (yielded ops a.tmps) = true then Oper.wp P o a w K Q else E := by
  have hw : Region.wanted o (yielded ops a.tmps) = true := by simp [Region.wanted, hgd]
  rw [if_pos hw]
  unfold Oper.wp execOp
  simp only [ho, resolve, invoke, builtin, Sem.run_bind, Sem.run_pure, Result.andThen_ok, List.map_toArray, List.map_cons, List.map_nil, hs, hx, hr]
  exact h
/-- A box of another type stays where bytes grow. -/
theorem OwnB.growBox {w w' : World} {B F : Nat} {e t : TypeId} {v : Value} {s : ByteArray} {cs : Array Value} (h : OwnB w B e v s) (hb : BoxIs w F cs t) (ht : e ≠ t) (hg : w.grownBy w' v.ownBlock) : BoxIs w' F cs t := (hg.block F hb.lt (fun e2 => h.far hb ht e2.symm)).trans hb
theorem u8_infoF : (Try.prog.info? 5).map (fun i => (i.zero, i.size, i.bytes)) = some (some (.int .u8 0), 1, 1) := by kernel_rfl
set_option linter.unusedVariables false in
set_option linter.unusedSimpArgs false in
set_option maxHeartbeats 8000000 in
theorem impl_do_app (B f b : Nat) (V : ByteArray → Value) (L : List File1) (n : ByteArray) (d : ByteArray) (w : World) (hn : n.size ≤ 10000000) (hd : d.size ≤ 10000000) (hz : sizeF L ≤ 90000000) (hl : L.length ≤ 1000000) (hF : FoldM w f b V L) (hR : RowsM w B V L) (hB : B ≤ w.heap.size) (hBf : B ≤ f) (hBb : B ≤ b) :
    Calls Try.prog 53 #[.pointer (some ⟨f, 0, none⟩), .iface 122 (.agg #[.string n, .string d])] w fun e w' => e = .returned (.bool true) ∧ (∃ V', FoldM w' f b V' (putF L n ((lkF L n).getD ⟨#[]⟩ ++ d)) ∧ RowsM w' B V' (putF L n ((lkF L n).getD ⟨#[]⟩ ++ d))) ∧ Below B w w' := by
  have hnm : n.size ≤ maxLen := by unfold maxLen; omega
  obtain ⟨va, vc, hva⟩ := hF.valShape n
  have hsc := sizeF_cut hF.ris n
  have hfl := hF.bx.lt
  have hbl := hF.b_lt
  have HF := hF.hid
  have HR := hR.hid
  obtain ⟨old, hold⟩ : ∃ old, (lkF L n).getD ⟨#[]⟩ = old := ⟨_, rfl⟩
  rw [hold] at hva hsc
  have HOLD := hide hold
  have hmt : ∀ w, (method 281 122 (.agg #[.string n, .string d]) "loop.example/g00214/impl.file").run Try.prog w = .ok (142, .agg #[.string n, .string d]) w := fun _ => by kernel_rfl
  have htapp : ∀ w, (Instr.typeAssert (.iface 122 (.agg #[.string n, .string d])) 79 122 true).run Try.prog w = .ok (.tuple #[.agg #[.string n, .string d], .bool true]) w := fun _ => by kernel_rfl
  clear hF hR hold
  go_enter Try.func53, Try.ntmps53
  go_upto_region 1 with fail
  go_cut [5, 6] (fun tp tq wx => ∃ G : Nat, tp = .pointer (some ⟨G, 0, none⟩) ∧ tq = .bool (lkF L n).isSome ∧ w.heap.size ≤ G ∧ Hid (Below w.heap.size w wx) ∧ Hid (BoxIs wx G #[.slice va old.size vc] 98))
  case first =>
    have hBx := HF.out.bx
    have hMp := HF.out.mp
    have LO : Below w.heap.size w w := Below.refl _ _
    refine wp_region_noPanic ?_
    have hb0 : Below w.heap.size w w.drew := (Below.refl _ _).drew
    have hBx_0 := hBx.next hb0
    have hMp_0 := ownsMap_below hMp hb0
    have LO_0 := LO.trans (hb0.mono LO.size)
    refine wp_region_held_drew (S := fun x => BoxIs x f #[.map (some b), .int .i64 ((sizeF L : Nat) : Int)] 102 ∧ x.ownsMap Try.prog 9 heldV b L.length (dataF L V)) (by kernel_rfl) ⟨hBx_0, hMp_0⟩ (fun hSz => ?_)
    clear hSz LO hBx hMp
    generalize w.drew = wq0 at hb0 hBx_0 hMp_0 LO_0 ⊢
    clear hb0
    refine wpAnyH_take (i := 0) (v := .pointer (some ⟨f, 0, none⟩)) nat0 (by kernel_rfl) (by kernel_rfl) (by kernel_rfl) (fun _ _ _ h => False.elim h) (Or.inl ⟨by rfl, ?_⟩) ⟨hBx_0, hMp_0⟩ ?_
    · intro wx hSw
      go_simp
    simp only [Act.put, List.setIfInBounds_toArray, List.set_cons_zero, List.set_cons_succ]
    refine wpAnyH_take (i := 1) (v := .pointer (some ⟨f, 0, none⟩)) nat1 (by kernel_rfl) (by kernel_rfl) (by kernel_rfl) (fun _ _ _ h => False.elim h) (Or.inl ⟨by rfl, ?_⟩) ⟨hBx_0, hMp_0⟩ ?_
    · intro wx hSw
      go_simp
    simp only [Act.put, List.setIfInBounds_toArray, List.set_cons_zero, List.set_cons_succ]
    refine wpAnyH_take (i := 2) (v := .pointer (some ⟨f, 0, none⟩)) nat2 (by kernel_rfl) (by kernel_rfl) (by kernel_rfl) (fun _ _ _ h => False.elim h) (Or.inl ⟨by rfl, ?_⟩) ⟨hBx_0, hMp_0⟩ ?_
    · intro wx hSw
      go_simp
    simp only [Act.put, List.setIfInBounds_toArray, List.set_cons_zero, List.set_cons_succ]
    refine wpAnyH_take (i := 3) (v := .map (some b)) nat3 (by kernel_rfl) (by kernel_rfl) (by kernel_rfl) (fun _ _ _ h => False.elim h) (Or.inl ⟨by rfl, ?_⟩) ⟨hBx_0, hMp_0⟩ ?_
    · intro wx hSw
      have y0 := hSw.1.cell 0
      simp only [List.getElem?_toArray, List.getElem?_cons_succ, List.getElem?_cons_zero] at y0
      go_simp
    simp only [Act.put, List.setIfInBounds_toArray, List.set_cons_zero, List.set_cons_succ]
    refine wpAnyH_take (i := 4) (v := .iface 122 (.agg #[.string n, .string d])) nat4 (by kernel_rfl) (by kernel_rfl) (by kernel_rfl) (fun _ _ _ h => False.elim h) (Or.inl ⟨by rfl, ?_⟩) ⟨hBx_0, hMp_0⟩ ?_
    · intro wx hSw
      go_simp
    simp only [Act.put, List.setIfInBounds_toArray, List.set_cons_zero, List.set_cons_succ]
    refine wpAnyH_ready (rs := [5, 10]) (by kernel_rfl) (by simp) ?_
    refine AllReadyH.cons nat5 (fun K hK => ?_) (AllReadyH.cons nat10 (fun K hK => ?_) AllReadyH.nil)
    · go_simp
      go_at_call 142
      refine (file_app n d wq0).mono ?_
      rintro e wq1 ⟨rfl, hb1⟩
      have hBx_1 := hBx_0.next hb1
      have hMp_1 := ownsMap_below hMp_0 hb1
      have LO_1 := LO_0.trans (hb1.mono LO_0.size)
      refine hK.out _ _ ⟨hBx_1, hMp_1⟩ (fun hSz => ?_)
      clear hK K hSz LO_0 hBx_0 hMp_0
      clear hb1
      refine wpAnyH_take (i := 6) (v := .tuple #[.agg #[.slice va old.size vc], .bool ((lkF L n).isSome)]) nat6 (by kernel_rfl) (by kernel_rfl) (by kernel_rfl) (fun _ _ _ h => False.elim h) (Or.inl ⟨by rfl, ?_⟩) ⟨hBx_1, hMp_1⟩ ?_
      · intro wx hSw
        have hy := look2_own hSw.2 hnm
        rw [hva] at hy
        go_simp
      simp only [Act.put, List.setIfInBounds_toArray, List.set_cons_zero, List.set_cons_succ]
      refine wpAnyH_take (i := 7) (v := .tuple #[.agg #[.slice va old.size vc], .bool ((lkF L n).isSome)]) nat7 (by kernel_rfl) (by kernel_rfl) (by kernel_rfl) (fun _ _ _ h => False.elim h) (Or.inl ⟨by rfl, ?_⟩) ⟨hBx_1, hMp_1⟩ ?_
      · intro wx hSw
        go_simp
      simp only [Act.put, List.setIfInBounds_toArray, List.set_cons_zero, List.set_cons_succ]
      refine wpAnyH_take (i := 8) (v := .agg #[.slice va old.size vc]) nat8 (by kernel_rfl) (by kernel_rfl) (by kernel_rfl) (fun _ _ _ h => False.elim h) (Or.inl ⟨by rfl, ?_⟩) ⟨hBx_1, hMp_1⟩ ?_
      · intro wx hSw
        go_simp
      simp only [Act.put, List.setIfInBounds_toArray, List.set_cons_zero, List.set_cons_succ]
      refine wpAnyH_take (i := 9) (v := .bool ((lkF L n).isSome)) nat9 (by kernel_rfl) (by kernel_rfl) (by kernel_rfl) (fun _ _ _ h => False.elim h) (Or.inl ⟨by rfl, ?_⟩) ⟨hBx_1, hMp_1⟩ ?_
      · intro wx hSw
        go_simp
      simp only [Act.put, List.setIfInBounds_toArray, List.set_cons_zero, List.set_cons_succ]
      refine wpAnyH_ready (rs := [10]) (by kernel_rfl) (by simp) ?_
      refine AllReadyH.cons nat10 (fun K hK => ?_) AllReadyH.nil
      go_simp
      have hlt2 : w.heap.size ≤ wq1.heap.size := LO_1.size
      have hb2 := below_one wq1 (.cells #[.slice none 0 0] 98)
      have hBx_2 := hBx_1.next hb2
      have hMp_2 := ownsMap_below hMp_1 hb2
      have LO_2 := LO_1.trans (hb2.mono LO_1.size)
      have NB5_2 := BoxIs.new wq1 #[.slice none 0 0] 98 rfl
      refine hK.out _ _ ⟨hBx_2, hMp_2⟩ (fun hSz => ?_)
      clear hK K hSz LO_1 hBx_1 hMp_1
      obtain ⟨G2, hG2⟩ : ∃ G, G = wq1.heap.size := ⟨_, rfl⟩
      rw [← hG2] at NB5_2 ⊢
      generalize wq1.alloc (.cells #[.slice none 0 0] 98) = wq2 at hb2 hBx_2 hMp_2 LO_2 NB5_2 ⊢
      rw [← hG2] at hlt2
      clear hG2 hb2
      refine wpAnyH_ready (rs := [11]) (by kernel_rfl) (by simp) ?_
      refine AllReadyH.cons nat11 (fun K hK => ?_) AllReadyH.nil
      have y0 := NB5_2.cell 0
      simp only [List.getElem?_toArray, List.getElem?_cons_succ, List.getElem?_cons_zero] at y0
      have yf := NB5_2.free
      go_simp
      clear yf y0
      have hBx_3s0 := hBx_2.set_other (p := ⟨G2, 0, none⟩) (by show G2 ≠ _; omega) (.slice va old.size vc)
      have hMp_3s0 := (ownsMap_set (o := 0) hMp_2 NB5_2 (.slice va old.size vc))
      have LO_3s0 := LO_2.setCell (p := ⟨G2, 0, none⟩) hlt2 (.slice va old.size vc)
      have NB5_3s0 := NB5_2.set 0 (.slice va old.size vc)
      have hBx_3 := hBx_3s0
      have hMp_3 := hMp_3s0
      have LO_3 := LO_3s0
      have NB5_3 : BoxIs (wq2.setCell ⟨G2, 0, none⟩ (.slice va old.size vc)) G2 #[.slice va old.size vc] 98 := NB5_3s0
      refine hK.out _ _ ⟨hBx_3, hMp_3⟩ (fun hSz => ?_)
      clear hK K hSz LO_2 NB5_2 hBx_2 hMp_2 hBx_3s0 hMp_3s0 LO_3s0 NB5_3s0
      generalize wq2.setCell ⟨G2, 0, none⟩ (.slice va old.size vc) = wq3 at hBx_3 hMp_3 LO_3 NB5_3 ⊢
      refine wpAnyH_take (i := 12) (v := .bool ((lkF L n).isSome)) nat12 (by kernel_rfl) (by kernel_rfl) (by kernel_rfl) (fun _ _ _ h => False.elim h) (Or.inl ⟨by rfl, ?_⟩) ⟨hBx_3, hMp_3⟩ ?_
      · intro wx hSw
        go_simp
      simp only [Act.put, List.setIfInBounds_toArray, List.set_cons_zero, List.set_cons_succ]
      refine wpAnyH_done (by kernel_rfl) ?_ _
      refine NoPanic.normal ?_
      go_wp2_with fail
      go_meet
      exact ⟨G2, rfl, rfl, hlt2, hide LO_3, hide NB5_3⟩
    · go_simp
      have hlt4 : w.heap.size ≤ wq0.heap.size := LO_0.size
      have hb4 := below_one wq0 (.cells #[.slice none 0 0] 98)
      have hBx_4 := hBx_0.next hb4
      have hMp_4 := ownsMap_below hMp_0 hb4
      have LO_4 := LO_0.trans (hb4.mono LO_0.size)
      have NB5_4 := BoxIs.new wq0 #[.slice none 0 0] 98 rfl
      refine hK.out _ _ ⟨hBx_4, hMp_4⟩ (fun hSz => ?_)
      clear hK K hSz LO_0 hBx_0 hMp_0
      obtain ⟨G4, hG4⟩ : ∃ G, G = wq0.heap.size := ⟨_, rfl⟩
      rw [← hG4] at NB5_4 ⊢
      generalize wq0.alloc (.cells #[.slice none 0 0] 98) = wq4 at hb4 hBx_4 hMp_4 LO_4 NB5_4 ⊢
      rw [← hG4] at hlt4
      clear hG4 hb4
      refine wpAnyH_ready (rs := [5]) (by kernel_rfl) (by simp) ?_
      refine AllReadyH.cons nat5 (fun K hK => ?_) AllReadyH.nil
      go_simp
      go_at_call 142
      refine (file_app n d wq4).mono ?_
      rintro e wq5 ⟨rfl, hb5⟩
      have hBx_5 := hBx_4.next hb5
      have hMp_5 := ownsMap_below hMp_4 hb5
      have LO_5 := LO_4.trans (hb5.mono LO_4.size)
      have NB5_5 := NB5_4.next hb5
      refine hK.out _ _ ⟨hBx_5, hMp_5⟩ (fun hSz => ?_)
      clear hK K hSz LO_4 NB5_4 hBx_4 hMp_4
      clear hb5
      refine wpAnyH_take (i := 6) (v := .tuple #[.agg #[.slice va old.size vc], .bool ((lkF L n).isSome)]) nat6 (by kernel_rfl) (by kernel_rfl) (by kernel_rfl) (fun _ _ _ h => False.elim h) (Or.inl ⟨by rfl, ?_⟩) ⟨hBx_5, hMp_5⟩ ?_
      · intro wx hSw
        have hy := look2_own hSw.2 hnm
        rw [hva] at hy
        go_simp
      simp only [Act.put, List.setIfInBounds_toArray, List.set_cons_zero, List.set_cons_succ]
      refine wpAnyH_take (i := 7) (v := .tuple #[.agg #[.slice va old.size vc], .bool ((lkF L n).isSome)]) nat7 (by kernel_rfl) (by kernel_rfl) (by kernel_rfl) (fun _ _ _ h => False.elim h) (Or.inl ⟨by rfl, ?_⟩) ⟨hBx_5, hMp_5⟩ ?_
      · intro wx hSw
        go_simp
      simp only [Act.put, List.setIfInBounds_toArray, List.set_cons_zero, List.set_cons_succ]
      refine wpAnyH_take (i := 8) (v := .agg #[.slice va old.size vc]) nat8 (by kernel_rfl) (by kernel_rfl) (by kernel_rfl) (fun _ _ _ h => False.elim h) (Or.inl ⟨by rfl, ?_⟩) ⟨hBx_5, hMp_5⟩ ?_
      · intro wx hSw
        go_simp
      simp only [Act.put, List.setIfInBounds_toArray, List.set_cons_zero, List.set_cons_succ]
      refine wpAnyH_take (i := 9) (v := .bool ((lkF L n).isSome)) nat9 (by kernel_rfl) (by kernel_rfl) (by kernel_rfl) (fun _ _ _ h => False.elim h) (Or.inl ⟨by rfl, ?_⟩) ⟨hBx_5, hMp_5⟩ ?_
      · intro wx hSw
        go_simp
      simp only [Act.put, List.setIfInBounds_toArray, List.set_cons_zero, List.set_cons_succ]
      refine wpAnyH_ready (rs := [11]) (by kernel_rfl) (by simp) ?_
      refine AllReadyH.cons nat11 (fun K hK => ?_) AllReadyH.nil
      have y0 := NB5_5.cell 0
      simp only [List.getElem?_toArray, List.getElem?_cons_succ, List.getElem?_cons_zero] at y0
      have yf := NB5_5.free
      go_simp
      clear yf y0
      have hBx_6s0 := hBx_5.set_other (p := ⟨G4, 0, none⟩) (by show G4 ≠ _; omega) (.slice va old.size vc)
      have hMp_6s0 := (ownsMap_set (o := 0) hMp_5 NB5_5 (.slice va old.size vc))
      have LO_6s0 := LO_5.setCell (p := ⟨G4, 0, none⟩) hlt4 (.slice va old.size vc)
      have NB5_6s0 := NB5_5.set 0 (.slice va old.size vc)
      have hBx_6 := hBx_6s0
      have hMp_6 := hMp_6s0
      have LO_6 := LO_6s0
      have NB5_6 : BoxIs (wq5.setCell ⟨G4, 0, none⟩ (.slice va old.size vc)) G4 #[.slice va old.size vc] 98 := NB5_6s0
      refine hK.out _ _ ⟨hBx_6, hMp_6⟩ (fun hSz => ?_)
      clear hK K hSz LO_5 NB5_5 hBx_5 hMp_5 hBx_6s0 hMp_6s0 LO_6s0 NB5_6s0
      generalize wq5.setCell ⟨G4, 0, none⟩ (.slice va old.size vc) = wq6 at hBx_6 hMp_6 LO_6 NB5_6 ⊢
      refine wpAnyH_take (i := 12) (v := .bool ((lkF L n).isSome)) nat12 (by kernel_rfl) (by kernel_rfl) (by kernel_rfl) (fun _ _ _ h => False.elim h) (Or.inl ⟨by rfl, ?_⟩) ⟨hBx_6, hMp_6⟩ ?_
      · intro wx hSw
        go_simp
      simp only [Act.put, List.setIfInBounds_toArray, List.set_cons_zero, List.set_cons_succ]
      refine wpAnyH_done (by kernel_rfl) ?_ _
      refine NoPanic.normal ?_
      go_wp2_with fail
      go_meet
      exact ⟨G4, rfl, rfl, hlt4, hide LO_6, hide NB5_6⟩
  case rest =>
  obtain ⟨G, rfl, rfl, hGl, HL1, HBG⟩ := hcut
  obtain ⟨w1, rfl⟩ : ∃ x, x = wc := ⟨_, rfl⟩
  have HF1 := (HF.out.next HL1.out).hid
  have HR1 := (HR.out.next HL1.out).hid
  have hGlt := HBG.out.lt
  clear HF HR hmt
  have hbA := below_one w1 (.cells #[.string n, .string d] 122)
  have HA := (BoxIs.new w1 #[.string n, .string d] 122 rfl).hid
  have HF2 := (HF1.out.next hbA).hid
  have HR2 := (HR1.out.next hbA).hid
  have HG2 := (HBG.out.next hbA).hid
  have HL2 := hide (HL1.out.trans (hbA.mono HL1.out.size))
  have hl2 := HL1.out.size
  clear HF1 HR1 HBG HL1 hbA
  go_wp2_with fail
  generalize hA : w1.alloc (.cells #[.string n, .string d] 122) = w2 at HA HF2 HR2 HG2 HL2 ⊢
  clear hA
  obtain ⟨A, hA⟩ : ∃ A, w1.heap.size = A := ⟨_, rfl⟩
  rw [hA] at HA hGlt ⊢
  have hAl : w.heap.size ≤ A := by omega
  clear hA hl2
  have hF := HF2.out
  have hR := HR2.out
  have hG := HG2.out
  have hA := HA.out
  have hOB : OwnB w2 B 5 (.slice va old.size vc) old := by have := HR2.out.val n; rwa [hva, HOLD.out] at this
  have hap : ∀ x, x ∈ cutF L n → (Value.slice va old.size vc).ownBlock = none ∨ (Value.slice va old.size vc).ownBlock ≠ (V x.n).ownBlock := by have := HR2.out.valApart n; rwa [hva] at this
  have LB : Below B w w2 := HL2.out.mono hB
  have hos : old.size ≤ 90000000 := by omega
  obtain ⟨nd, hnd⟩ : ∃ nd, old ++ d = nd := ⟨_, rfl⟩
  have hndz : nd.size ≤ 100000000 := by rw [← hnd, ByteArray.size_append]; omega
  have HND := hide hnd
  have hn2 : n.size ≤ 100000000 := by omega
  have hzz : sizeF L ≤ 1000000000 := by omega
  clear hnd
  obtain ⟨u0, hu0, hz0, hz1, hz2⟩ := info_parts u8_infoF
  clear HF2 HR2 HG2 HA HL2
  refine wp_region_noPanic ?_
  have hb0 : Below w2.heap.size w2 w2.drew := (Below.refl _ _).drew
  have hF_0 := hF.next hb0
  have hR_0 := hR.next hb0
  have hOB_0 := hOB.next hb0
  have hG_0 := hG.next hb0
  have hA_0 := hA.next hb0
  have LB_0 := LB.trans (hb0.mono (Nat.le_trans hB LB.size))
  refine wp_region_held_drew (S := fun x => BoxIs x G #[.slice va old.size vc] 98 ∧ BoxIs x A #[.string n, .string d] 122) (by kernel_rfl) ⟨hG_0, hA_0⟩ (fun hSz => ?_)
  clear hSz LB hA hF hG hOB hR
  generalize w2.drew = wq0 at hb0 hF_0 hR_0 hOB_0 hG_0 hA_0 LB_0 ⊢
  clear hb0
  refine wpAnyH_take (i := 0) (v := .pointer (some ⟨f, 0, none⟩)) nat0 (by kernel_rfl) (by kernel_rfl) (by kernel_rfl) (fun _ _ _ h => False.elim h) (Or.inl ⟨by rfl, ?_⟩) ⟨hG_0, hA_0⟩ ?_
  · intro wx hSw
    go_simp
  simp only [Act.put, List.setIfInBounds_toArray, List.set_cons_zero, List.set_cons_succ]
  refine wpAnyH_take (i := 1) (v := .pointer (some ⟨A, 0, none⟩)) nat1 (by kernel_rfl) (by kernel_rfl) (by kernel_rfl) (fun _ _ _ h => False.elim h) (Or.inl ⟨by rfl, ?_⟩) ⟨hG_0, hA_0⟩ ?_
  · intro wx hSw
    go_simp
  simp only [Act.put, List.setIfInBounds_toArray, List.set_cons_zero, List.set_cons_succ]
  refine wpAnyH_take (i := 2) (v := .string n) nat2 (by kernel_rfl) (by kernel_rfl) (by kernel_rfl) (fun _ _ _ h => False.elim h) (Or.inl ⟨by rfl, ?_⟩) ⟨hG_0, hA_0⟩ ?_
  · intro wx hSw
    have y0 := hSw.2.cell 0
    simp only [List.getElem?_toArray, List.getElem?_cons_succ, List.getElem?_cons_zero] at y0
    go_simp
  simp only [Act.put, List.setIfInBounds_toArray, List.set_cons_zero, List.set_cons_succ]
  refine wpAnyH_take (i := 3) (v := .pointer (some ⟨G, 0, none⟩)) nat3 (by kernel_rfl) (by kernel_rfl) (by kernel_rfl) (fun _ _ _ h => False.elim h) (Or.inl ⟨by rfl, ?_⟩) ⟨hG_0, hA_0⟩ ?_
  · intro wx hSw
    go_simp
  simp only [Act.put, List.setIfInBounds_toArray, List.set_cons_zero, List.set_cons_succ]
  refine wpAnyH_take (i := 4) (v := .slice va old.size vc) nat4 (by kernel_rfl) (by kernel_rfl) (by kernel_rfl) (fun _ _ _ h => False.elim h) (Or.inl ⟨by rfl, ?_⟩) ⟨hG_0, hA_0⟩ ?_
  · intro wx hSw
    have y0 := hSw.1.cell 0
    simp only [List.getElem?_toArray, List.getElem?_cons_succ, List.getElem?_cons_zero] at y0
    go_simp
  simp only [Act.put, List.setIfInBounds_toArray, List.set_cons_zero, List.set_cons_succ]
  refine wpAnyH_take (i := 5) (v := .pointer (some ⟨A, 1, none⟩)) nat5 (by kernel_rfl) (by kernel_rfl) (by kernel_rfl) (fun _ _ _ h => False.elim h) (Or.inl ⟨by rfl, ?_⟩) ⟨hG_0, hA_0⟩ ?_
  · intro wx hSw
    go_simp
  simp only [Act.put, List.setIfInBounds_toArray, List.set_cons_zero, List.set_cons_succ]
  refine wpAnyH_take (i := 6) (v := .string d) nat6 (by kernel_rfl) (by kernel_rfl) (by kernel_rfl) (fun _ _ _ h => False.elim h) (Or.inl ⟨by rfl, ?_⟩) ⟨hG_0, hA_0⟩ ?_
  · intro wx hSw
    have y0 := hSw.2.cell 1
    simp only [List.getElem?_toArray, List.getElem?_cons_succ, List.getElem?_cons_zero] at y0
    go_simp
  simp only [Act.put, List.setIfInBounds_toArray, List.set_cons_zero, List.set_cons_succ]
  refine wpAnyH_ready (rs := [7]) (by kernel_rfl) (by simp) ?_
  refine AllReadyH.cons nat7 (fun K hK => ?_) AllReadyH.nil
  obtain ⟨vn1, wq1, hr1, ho1, hg1, hy1⟩ := run_append_bytes (P := Try.prog) wq0 B 57 9 57 5 u0 Try.underlying57 Try.underlying9 hu0 hz0 hz1 hz2 (.slice va old.size vc) old d hOB_0 (by omega) (Nat.le_trans hB LB_0.size)
  rw [HND.out] at ho1
  obtain ⟨xa1, xc1, rfl⟩ := ho1.shape
  refine step_append_run (P := Try.prog) rfl (.tmp 28) (.tmp 30) 57 9 rfl _ _ (by rfl) (by rfl) hr1 ?_
  have hF_1 := hF_0.grown hOB_0 (by decide) hg1
  have hR_1 := (hR_0.cut n).grow hap hg1
  have hX_1 := (hR_0.cut n).fresh (Nat.le_refl _) hap hy1
  have hG_1 := hOB_0.growBox hG_0 (by decide) hg1
  have hA_1 := hOB_0.growBox hA_0 (by decide) hg1
  have hN_1 := ho1
  have LB_1 := LB_0.grown hg1 (Nat.le_trans hB LB_0.size) (fun k hk => (hOB_0.lt k hk).1)
  refine hK.out _ _ ⟨hG_1, hA_1⟩ (fun hSz => ?_)
  clear hK K hSz LB_0 hA_0 hF_0 hG_0 hOB_0 hR_0
  clear hr1 ho1 hg1 hy1
  refine wpAnyH_take (i := 8) (v := .agg #[.slice xa1 nd.size xc1]) nat8 (by kernel_rfl) (by kernel_rfl) (by kernel_rfl) (fun _ _ _ h => False.elim h) (Or.inl ⟨by rfl, ?_⟩) ⟨hG_1, hA_1⟩ ?_
  · intro wx hSw
    go_simp
  simp only [Act.put, List.setIfInBounds_toArray, List.set_cons_zero, List.set_cons_succ]
  refine wpAnyH_ready (rs := [9]) (by kernel_rfl) (by simp) ?_
  refine AllReadyH.cons nat9 (fun K hK => ?_) AllReadyH.nil
  go_simp
  go_at_call 87
  refine (impl_put f b V L n nd xa1 xc1 wq1 hn2 hzz hl hndz hF_1).mono ?_
  rintro e wq2 ⟨rfl, hr2, hb2⟩
  have hG_2 := hb2.box hG_1 (by omega) (by omega)
  have hA_2 := hb2.box hA_1 (by omega) (by omega)
  have LB_2 := LB_1.trans (hb2.below (Nat.le_trans hB LB_1.size) hBf hBb)
  have hF3_2 := hr2
  have hR3_2 := (hR_1.turn hF_1 hb2).put (hN_1.turn hF_1 (by decide) hb2) hX_1
  refine hK.out _ _ ⟨hG_2, hA_2⟩ (fun hSz => ?_)
  clear hK K hSz LB_1 hA_1 hF_1 hG_1 hN_1 hR_1 hX_1 hb2 hr2
  refine wpAnyH_done (by kernel_rfl) ?_ _
  refine NoPanic.normal ?_
  have H1 := hF3_2.hid
  have H2 := hR3_2.hid
  have H3 := hide LB_2
  clear hF3_2 hR3_2 LB_2 hG_2 hA_2
  go_wp2
  go_ret
  exact ⟨rfl, ⟨_, by rw [HOLD.out, HND.out]; exact H1.out, by rw [HOLD.out, HND.out]; exact H2.out⟩, H3.out⟩
set_option linter.unusedVariables false in
set_option linter.unusedSimpArgs false in
set_option maxHeartbeats 8000000 in
theorem impl_do_ren (B f b : Nat) (V : ByteArray → Value) (L : List File1) (n : ByteArray) (t : ByteArray) (w : World) (hn : n.size ≤ 10000000) (ht : t.size ≤ 10000000) (hz : sizeF L ≤ 90000000) (hl : L.length ≤ 1000000) (hF : FoldM w f b V L) (hR : RowsM w B V L) (hB : B ≤ w.heap.size) (hBf : B ≤ f) (hBb : B ≤ b) :
    Calls Try.prog 53 #[.pointer (some ⟨f, 0, none⟩), .iface 124 (.agg #[.string n, .string t])] w fun e w' => e = .returned (.bool (lkF L n).isSome) ∧ (∃ V', FoldM w' f b V' (renF L n t) ∧ RowsM w' B V' (renF L n t)) ∧ Below B w w' := by
  have hnm : n.size ≤ maxLen := by unfold maxLen; omega
  obtain ⟨va, vc, hva⟩ := hF.valShape n
  have hsc := sizeF_cut hF.ris n
  have hfl := hF.bx.lt
  have hbl := hF.b_lt
  have HF := hF.hid
  have HR := hR.hid
  obtain ⟨old, hold⟩ : ∃ old, (lkF L n).getD ⟨#[]⟩ = old := ⟨_, rfl⟩
  rw [hold] at hva hsc
  have HOLD := hide hold
  have hmt : ∀ w, (method 281 124 (.agg #[.string n, .string t]) "loop.example/g00214/impl.file").run Try.prog w = .ok (143, .agg #[.string n, .string t]) w := fun _ => by kernel_rfl
  have htapp : ∀ w, (Instr.typeAssert (.iface 124 (.agg #[.string n, .string t])) 79 122 true).run Try.prog w = .ok (.tuple #[.agg #[.string ⟨#[]⟩, .string ⟨#[]⟩], .bool false]) w := fun _ => by kernel_rfl
  have htren : ∀ w, (Instr.typeAssert (.iface 124 (.agg #[.string n, .string t])) 79 124 true).run Try.prog w = .ok (.tuple #[.agg #[.string n, .string t], .bool true]) w := fun _ => by kernel_rfl
  clear hF hR hold
  go_enter Try.func53, Try.ntmps53
  go_upto_region 1 with fail
  go_cut [5, 6] (fun tp tq wx => ∃ G : Nat, tp = .pointer (some ⟨G, 0, none⟩) ∧ tq = .bool (lkF L n).isSome ∧ w.heap.size ≤ G ∧ Hid (Below w.heap.size w wx) ∧ Hid (BoxIs wx G #[.slice va old.size vc] 98))
  case first =>
    have hBx := HF.out.bx
    have hMp := HF.out.mp
    have LO : Below w.heap.size w w := Below.refl _ _
    refine wp_region_noPanic ?_
    have hb0 : Below w.heap.size w w.drew := (Below.refl _ _).drew
    have hBx_0 := hBx.next hb0
    have hMp_0 := ownsMap_below hMp hb0
    have LO_0 := LO.trans (hb0.mono LO.size)
    refine wp_region_held_drew (S := fun x => BoxIs x f #[.map (some b), .int .i64 ((sizeF L : Nat) : Int)] 102 ∧ x.ownsMap Try.prog 9 heldV b L.length (dataF L V)) (by kernel_rfl) ⟨hBx_0, hMp_0⟩ (fun hSz => ?_)
    clear hSz LO hBx hMp
    generalize w.drew = wq0 at hb0 hBx_0 hMp_0 LO_0 ⊢
    clear hb0
    refine wpAnyH_take (i := 0) (v := .pointer (some ⟨f, 0, none⟩)) nat0 (by kernel_rfl) (by kernel_rfl) (by kernel_rfl) (fun _ _ _ h => False.elim h) (Or.inl ⟨by rfl, ?_⟩) ⟨hBx_0, hMp_0⟩ ?_
    · intro wx hSw
      go_simp
    simp only [Act.put, List.setIfInBounds_toArray, List.set_cons_zero, List.set_cons_succ]
    refine wpAnyH_take (i := 1) (v := .pointer (some ⟨f, 0, none⟩)) nat1 (by kernel_rfl) (by kernel_rfl) (by kernel_rfl) (fun _ _ _ h => False.elim h) (Or.inl ⟨by rfl, ?_⟩) ⟨hBx_0, hMp_0⟩ ?_
    · intro wx hSw
      go_simp
    simp only [Act.put, List.setIfInBounds_toArray, List.set_cons_zero, List.set_cons_succ]
    refine wpAnyH_take (i := 2) (v := .pointer (some ⟨f, 0, none⟩)) nat2 (by kernel_rfl) (by kernel_rfl) (by kernel_rfl) (fun _ _ _ h => False.elim h) (Or.inl ⟨by rfl, ?_⟩) ⟨hBx_0, hMp_0⟩ ?_
    · intro wx hSw
      go_simp
    simp only [Act.put, List.setIfInBounds_toArray, List.set_cons_zero, List.set_cons_succ]
    refine wpAnyH_take (i := 3) (v := .map (some b)) nat3 (by kernel_rfl) (by kernel_rfl) (by kernel_rfl) (fun _ _ _ h => False.elim h) (Or.inl ⟨by rfl, ?_⟩) ⟨hBx_0, hMp_0⟩ ?_
    · intro wx hSw
      have y0 := hSw.1.cell 0
      simp only [List.getElem?_toArray, List.getElem?_cons_succ, List.getElem?_cons_zero] at y0
      go_simp
    simp only [Act.put, List.setIfInBounds_toArray, List.set_cons_zero, List.set_cons_succ]
    refine wpAnyH_take (i := 4) (v := .iface 124 (.agg #[.string n, .string t])) nat4 (by kernel_rfl) (by kernel_rfl) (by kernel_rfl) (fun _ _ _ h => False.elim h) (Or.inl ⟨by rfl, ?_⟩) ⟨hBx_0, hMp_0⟩ ?_
    · intro wx hSw
      go_simp
    simp only [Act.put, List.setIfInBounds_toArray, List.set_cons_zero, List.set_cons_succ]
    refine wpAnyH_ready (rs := [5, 10]) (by kernel_rfl) (by simp) ?_
    refine AllReadyH.cons nat5 (fun K hK => ?_) (AllReadyH.cons nat10 (fun K hK => ?_) AllReadyH.nil)
    · go_simp
      go_at_call 143
      refine (file_ren n t wq0).mono ?_
      rintro e wq1 ⟨rfl, hb1⟩
      have hBx_1 := hBx_0.next hb1
      have hMp_1 := ownsMap_below hMp_0 hb1
      have LO_1 := LO_0.trans (hb1.mono LO_0.size)
      refine hK.out _ _ ⟨hBx_1, hMp_1⟩ (fun hSz => ?_)
      clear hK K hSz LO_0 hBx_0 hMp_0
      clear hb1
      refine wpAnyH_take (i := 6) (v := .tuple #[.agg #[.slice va old.size vc], .bool ((lkF L n).isSome)]) nat6 (by kernel_rfl) (by kernel_rfl) (by kernel_rfl) (fun _ _ _ h => False.elim h) (Or.inl ⟨by rfl, ?_⟩) ⟨hBx_1, hMp_1⟩ ?_
      · intro wx hSw
        have hy := look2_own hSw.2 hnm
        rw [hva] at hy
        go_simp
      simp only [Act.put, List.setIfInBounds_toArray, List.set_cons_zero, List.set_cons_succ]
      refine wpAnyH_take (i := 7) (v := .tuple #[.agg #[.slice va old.size vc], .bool ((lkF L n).isSome)]) nat7 (by kernel_rfl) (by kernel_rfl) (by kernel_rfl) (fun _ _ _ h => False.elim h) (Or.inl ⟨by rfl, ?_⟩) ⟨hBx_1, hMp_1⟩ ?_
      · intro wx hSw
        go_simp
      simp only [Act.put, List.setIfInBounds_toArray, List.set_cons_zero, List.set_cons_succ]
      refine wpAnyH_take (i := 8) (v := .agg #[.slice va old.size vc]) nat8 (by kernel_rfl) (by kernel_rfl) (by kernel_rfl) (fun _ _ _ h => False.elim h) (Or.inl ⟨by rfl, ?_⟩) ⟨hBx_1, hMp_1⟩ ?_
      · intro wx hSw
        go_simp
      simp only [Act.put, List.setIfInBounds_toArray, List.set_cons_zero, List.set_cons_succ]
      refine wpAnyH_take (i := 9) (v := .bool ((lkF L n).isSome)) nat9 (by kernel_rfl) (by kernel_rfl) (by kernel_rfl) (fun _ _ _ h => False.elim h) (Or.inl ⟨by rfl, ?_⟩) ⟨hBx_1, hMp_1⟩ ?_
      · intro wx hSw
        go_simp
      simp only [Act.put, List.setIfInBounds_toArray, List.set_cons_zero, List.set_cons_succ]
      refine wpAnyH_ready (rs := [10]) (by kernel_rfl) (by simp) ?_
      refine AllReadyH.cons nat10 (fun K hK => ?_) AllReadyH.nil
      go_simp
      have hlt2 : w.heap.size ≤ wq1.heap.size := LO_1.size
      have hb2 := below_one wq1 (.cells #[.slice none 0 0] 98)
      have hBx_2 := hBx_1.next hb2
      have hMp_2 := ownsMap_below hMp_1 hb2
      have LO_2 := LO_1.trans (hb2.mono LO_1.size)
      have NB5_2 := BoxIs.new wq1 #[.slice none 0 0] 98 rfl
      refine hK.out _ _ ⟨hBx_2, hMp_2⟩ (fun hSz => ?_)
      clear hK K hSz LO_1 hBx_1 hMp_1
      obtain ⟨G2, hG2⟩ : ∃ G, G = wq1.heap.size := ⟨_, rfl⟩
      rw [← hG2] at NB5_2 ⊢
      generalize wq1.alloc (.cells #[.slice none 0 0] 98) = wq2 at hb2 hBx_2 hMp_2 LO_2 NB5_2 ⊢
      rw [← hG2] at hlt2
      clear hG2 hb2
      refine wpAnyH_ready (rs := [11]) (by kernel_rfl) (by simp) ?_
      refine AllReadyH.cons nat11 (fun K hK => ?_) AllReadyH.nil
      have y0 := NB5_2.cell 0
      simp only [List.getElem?_toArray, List.getElem?_cons_succ, List.getElem?_cons_zero] at y0
      have yf := NB5_2.free
      go_simp
      clear yf y0
      have hBx_3s0 := hBx_2.set_other (p := ⟨G2, 0, none⟩) (by show G2 ≠ _; omega) (.slice va old.size vc)
      have hMp_3s0 := (ownsMap_set (o := 0) hMp_2 NB5_2 (.slice va old.size vc))
      have LO_3s0 := LO_2.setCell (p := ⟨G2, 0, none⟩) hlt2 (.slice va old.size vc)
      have NB5_3s0 := NB5_2.set 0 (.slice va old.size vc)
      have hBx_3 := hBx_3s0
      have hMp_3 := hMp_3s0
      have LO_3 := LO_3s0
      have NB5_3 : BoxIs (wq2.setCell ⟨G2, 0, none⟩ (.slice va old.size vc)) G2 #[.slice va old.size vc] 98 := NB5_3s0
      refine hK.out _ _ ⟨hBx_3, hMp_3⟩ (fun hSz => ?_)
      clear hK K hSz LO_2 NB5_2 hBx_2 hMp_2 hBx_3s0 hMp_3s0 LO_3s0 NB5_3s0
      generalize wq2.setCell ⟨G2, 0, none⟩ (.slice va old.size vc) = wq3 at hBx_3 hMp_3 LO_3 NB5_3 ⊢
      refine wpAnyH_take (i := 12) (v := .bool ((lkF L n).isSome)) nat12 (by kernel_rfl) (by kernel_rfl) (by kernel_rfl) (fun _ _ _ h => False.elim h) (Or.inl ⟨by rfl, ?_⟩) ⟨hBx_3, hMp_3⟩ ?_
      · intro wx hSw
        go_simp
      simp only [Act.put, List.setIfInBounds_toArray, List.set_cons_zero, List.set_cons_succ]
      refine wpAnyH_done (by kernel_rfl) ?_ _
      refine NoPanic.normal ?_
      go_wp2_with fail
      go_meet
      exact ⟨G2, rfl, rfl, hlt2, hide LO_3, hide NB5_3⟩
    · go_simp
      have hlt4 : w.heap.size ≤ wq0.heap.size := LO_0.size
      have hb4 := below_one wq0 (.cells #[.slice none 0 0] 98)
      have hBx_4 := hBx_0.next hb4
      have hMp_4 := ownsMap_below hMp_0 hb4
      have LO_4 := LO_0.trans (hb4.mono LO_0.size)
      have NB5_4 := BoxIs.new wq0 #[.slice none 0 0] 98 rfl
      refine hK.out _ _ ⟨hBx_4, hMp_4⟩ (fun hSz => ?_)
      clear hK K hSz LO_0 hBx_0 hMp_0
      obtain ⟨G4, hG4⟩ : ∃ G, G = wq0.heap.size := ⟨_, rfl⟩
      rw [← hG4] at NB5_4 ⊢
      generalize wq0.alloc (.cells #[.slice none 0 0] 98) = wq4 at hb4 hBx_4 hMp_4 LO_4 NB5_4 ⊢
      rw [← hG4] at hlt4
      clear hG4 hb4
      refine wpAnyH_ready (rs := [5]) (by kernel_rfl) (by simp) ?_
      refine AllReadyH.cons nat5 (fun K hK => ?_) AllReadyH.nil
      go_simp
      go_at_call 143
      refine (file_ren n t wq4).mono ?_
      rintro e wq5 ⟨rfl, hb5⟩
      have hBx_5 := hBx_4.next hb5
      have hMp_5 := ownsMap_below hMp_4 hb5
      have LO_5 := LO_4.trans (hb5.mono LO_4.size)
      have NB5_5 := NB5_4.next hb5
      refine hK.out _ _ ⟨hBx_5, hMp_5⟩ (fun hSz => ?_)
      clear hK K hSz LO_4 NB5_4 hBx_4 hMp_4
      clear hb5
      refine wpAnyH_take (i := 6) (v := .tuple #[.agg #[.slice va old.size vc], .bool ((lkF L n).isSome)]) nat6 (by kernel_rfl) (by kernel_rfl) (by kernel_rfl) (fun _ _ _ h => False.elim h) (Or.inl ⟨by rfl, ?_⟩) ⟨hBx_5, hMp_5⟩ ?_
      · intro wx hSw
        have hy := look2_own hSw.2 hnm
        rw [hva] at hy
        go_simp
      simp only [Act.put, List.setIfInBounds_toArray, List.set_cons_zero, List.set_cons_succ]
      refine wpAnyH_take (i := 7) (v := .tuple #[.agg #[.slice va old.size vc], .bool ((lkF L n).isSome)]) nat7 (by kernel_rfl) (by kernel_rfl) (by kernel_rfl) (fun _ _ _ h => False.elim h) (Or.inl ⟨by rfl, ?_⟩) ⟨hBx_5, hMp_5⟩ ?_
      · intro wx hSw
        go_simp
      simp only [Act.put, List.setIfInBounds_toArray, List.set_cons_zero, List.set_cons_succ]
      refine wpAnyH_take (i := 8) (v := .agg #[.slice va old.size vc]) nat8 (by kernel_rfl) (by kernel_rfl) (by kernel_rfl) (fun _ _ _ h => False.elim h) (Or.inl ⟨by rfl, ?_⟩) ⟨hBx_5, hMp_5⟩ ?_
      · intro wx hSw
        go_simp
      simp only [Act.put, List.setIfInBounds_toArray, List.set_cons_zero, List.set_cons_succ]
      refine wpAnyH_take (i := 9) (v := .bool ((lkF L n).isSome)) nat9 (by kernel_rfl) (by kernel_rfl) (by kernel_rfl) (fun _ _ _ h => False.elim h) (Or.inl ⟨by rfl, ?_⟩) ⟨hBx_5, hMp_5⟩ ?_
      · intro wx hSw
        go_simp
      simp only [Act.put, List.setIfInBounds_toArray, List.set_cons_zero, List.set_cons_succ]
      refine wpAnyH_ready (rs := [11]) (by kernel_rfl) (by simp) ?_
      refine AllReadyH.cons nat11 (fun K hK => ?_) AllReadyH.nil
      have y0 := NB5_5.cell 0
      simp only [List.getElem?_toArray, List.getElem?_cons_succ, List.getElem?_cons_zero] at y0
      have yf := NB5_5.free
      go_simp
      clear yf y0
      have hBx_6s0 := hBx_5.set_other (p := ⟨G4, 0, none⟩) (by show G4 ≠ _; omega) (.slice va old.size vc)
      have hMp_6s0 := (ownsMap_set (o := 0) hMp_5 NB5_5 (.slice va old.size vc))
      have LO_6s0 := LO_5.setCell (p := ⟨G4, 0, none⟩) hlt4 (.slice va old.size vc)
      have NB5_6s0 := NB5_5.set 0 (.slice va old.size vc)
      have hBx_6 := hBx_6s0
      have hMp_6 := hMp_6s0
      have LO_6 := LO_6s0
      have NB5_6 : BoxIs (wq5.setCell ⟨G4, 0, none⟩ (.slice va old.size vc)) G4 #[.slice va old.size vc] 98 := NB5_6s0
      refine hK.out _ _ ⟨hBx_6, hMp_6⟩ (fun hSz => ?_)
      clear hK K hSz LO_5 NB5_5 hBx_5 hMp_5 hBx_6s0 hMp_6s0 LO_6s0 NB5_6s0
      generalize wq5.setCell ⟨G4, 0, none⟩ (.slice va old.size vc) = wq6 at hBx_6 hMp_6 LO_6 NB5_6 ⊢
      refine wpAnyH_take (i := 12) (v := .bool ((lkF L n).isSome)) nat12 (by kernel_rfl) (by kernel_rfl) (by kernel_rfl) (fun _ _ _ h => False.elim h) (Or.inl ⟨by rfl, ?_⟩) ⟨hBx_6, hMp_6⟩ ?_
      · intro wx hSw
        go_simp
      simp only [Act.put, List.setIfInBounds_toArray, List.set_cons_zero, List.set_cons_succ]
      refine wpAnyH_done (by kernel_rfl) ?_ _
      refine NoPanic.normal ?_
      go_wp2_with fail
      go_meet
      exact ⟨G4, rfl, rfl, hlt4, hide LO_6, hide NB5_6⟩
  case rest =>
  obtain ⟨G, rfl, rfl, hGl, HL1, HBG⟩ := hcut
  obtain ⟨w1, rfl⟩ : ∃ x, x = wc := ⟨_, rfl⟩
  have HF1 := (HF.out.next HL1.out).hid
  have HR1 := (HR.out.next HL1.out).hid
  have hGlt := HBG.out.lt
  clear HF HR hmt
  have hbA := below_one w1 (.cells #[.string n, .string t] 124)
  have HA := (BoxIs.new w1 #[.string n, .string t] 124 rfl).hid
  have HF2 := (HF1.out.next hbA).hid
  have HR2 := (HR1.out.next hbA).hid
  have HG2 := (HBG.out.next hbA).hid
  have HL2 := hide (HL1.out.trans (hbA.mono HL1.out.size))
  have hl2 := HL1.out.size
  clear HF1 HR1 HBG HL1 hbA
  generalize hsb : (lkF L n).isSome = sb
  have HSB := hide hsb
  cases sb with
  | false =>
    have hlk : lkF L n = none := by cases e : lkF L n with
      | none => rfl
      | some d => rw [e] at hsb; cases hsb
    have LB := hide (HL2.out.mono hB)
    clear HA HG2 HL2 hsb
    have HLK := hide (renF_none hlk t)
    clear hlk
    go_wp2
    go_ret
    exact ⟨by rw [HSB.out]; rfl, ⟨V, by rw [HLK.out]; exact HF2.out, by rw [HLK.out]; exact HR2.out⟩, LB.out⟩
  | true =>
    obtain ⟨d, hlk⟩ : ∃ d, lkF L n = some d := Option.isSome_iff_exists.1 hsb
    have hdo : d = old := by have := HOLD.out; rw [hlk] at this; exact this
    subst hdo
    have HLK := hide (renF_some hlk t)
    clear hsb hlk
    have a0 := HA.out.cell 0
    have a1 := HA.out.cell 1
    simp only [List.getElem?_toArray, List.getElem?_cons_succ, List.getElem?_cons_zero] at a0 a1
    go_wp2_with fail
    clear a0 a1
    generalize hA : w1.alloc (.cells #[.string n, .string t] 124) = w2 at HA HF2 HR2 HG2 HL2 ⊢
    clear hA
    obtain ⟨A, hA⟩ : ∃ A, w1.heap.size = A := ⟨_, rfl⟩
    rw [hA] at HA hGlt ⊢
    have hAl : w.heap.size ≤ A := by omega
    clear hA hl2
    refine (impl_drop f b V L n w2 (by omega) (by omega) HF2.out).mono ?_
    rintro e w3 ⟨rfl, hF, hT⟩
    have hG := hT.box HG2.out (by omega) (by omega)
    have hA := hT.box HA.out (by omega) (by omega)
    have hR := HR2.out.turn HF2.out hT
    have LB : Below B w w3 := (HL2.out.mono hB).trans (hT.below (Nat.le_trans hB HL2.out.size) hBf hBb)
    have hOB : OwnB w3 B 5 (.slice va d.size vc) d := by have := hR.val n; rwa [hva, HOLD.out] at this
    have hap : ∀ x, x ∈ cutF L n → (Value.slice va d.size vc).ownBlock = none ∨ (Value.slice va d.size vc).ownBlock ≠ (V x.n).ownBlock := by have := hR.valApart n; rwa [hva] at this
    have hcl := cutF_length L n
    have hc1 : sizeF (cutF L n) ≤ 1000000000 := by omega
    have hc2 : (cutF L n).length ≤ 1000000 := by omega
    have hc3 : t.size ≤ 100000000 := by omega
    have hc4 : d.size ≤ 100000000 := by omega
    have a1 := hA.cell 1
    have g0 := hG.cell 0
    simp only [List.getElem?_toArray, List.getElem?_cons_succ, List.getElem?_cons_zero] at a1 g0
    have HF := hF.hid
    have HR := hR.hid
    have HOB := hOB.hid
    have HAP := hide hap
    have HLB := hide LB
    clear HF2 HR2 HG2 HA HL2 hT hF hR hOB hap LB hG hA
    go_wp2_with fail
    refine (impl_put f b V (cutF L n) t d va vc w3 hc3 hc1 hc2 hc4 HF.out).mono ?_
    rintro e w4 ⟨rfl, hF3, hT3⟩
    have H1 := hF3.hid
    have H2 := ((((HR.out.cut n).cut t).turn HF.out hT3).put (HOB.out.turn HF.out (by decide) hT3) (fun x hx => HAP.out x (mem_cutF.1 hx).1)).hid
    have H3 := hide (HLB.out.trans (hT3.below (Nat.le_trans hB HLB.out.size) hBf hBb))
    clear HF HR HOB HAP HLB hF3 hT3 a1 g0
    go_wp2
    go_ret
    exact ⟨by rw [HSB.out]; rfl, ⟨_, by rw [HLK.out]; exact H1.out, by rw [HLK.out]; exact H2.out⟩, H3.out⟩
set_option linter.unusedVariables false in
set_option linter.unusedSimpArgs false in
set_option maxHeartbeats 8000000 in
theorem impl_do_rem (B f b : Nat) (V : ByteArray → Value) (L : List File1) (n : ByteArray) (w : World) (hn : n.size ≤ 10000000) (hz : sizeF L ≤ 90000000) (hl : L.length ≤ 1000000) (hF : FoldM w f b V L) (hR : RowsM w B V L) (hB : B ≤ w.heap.size) (hBf : B ≤ f) (hBb : B ≤ b) :
    Calls Try.prog 53 #[.pointer (some ⟨f, 0, none⟩), .iface 126 (.agg #[.string n])] w fun e w' => e = .returned (.bool (lkF L n).isSome) ∧ (∃ V', FoldM w' f b V' (cutF L n) ∧ RowsM w' B V' (cutF L n)) ∧ Below B w w' := by
  have hnm : n.size ≤ maxLen := by unfold maxLen; omega
  obtain ⟨va, vc, hva⟩ := hF.valShape n
  have hsc := sizeF_cut hF.ris n
  have hfl := hF.bx.lt
  have hbl := hF.b_lt
  have HF := hF.hid
  have HR := hR.hid
  obtain ⟨old, hold⟩ : ∃ old, (lkF L n).getD ⟨#[]⟩ = old := ⟨_, rfl⟩
  rw [hold] at hva hsc
  have HOLD := hide hold
  have hmt : ∀ w, (method 281 126 (.agg #[.string n]) "loop.example/g00214/impl.file").run Try.prog w = .ok (144, .agg #[.string n]) w := fun _ => by kernel_rfl
  have htapp : ∀ w, (Instr.typeAssert (.iface 126 (.agg #[.string n])) 79 122 true).run Try.prog w = .ok (.tuple #[.agg #[.string ⟨#[]⟩, .string ⟨#[]⟩], .bool false]) w := fun _ => by kernel_rfl
  have htren : ∀ w, (Instr.typeAssert (.iface 126 (.agg #[.string n])) 79 124 true).run Try.prog w = .ok (.tuple #[.agg #[.string ⟨#[]⟩, .string ⟨#[]⟩], .bool false]) w := fun _ => by kernel_rfl
  have htrem : ∀ w, (Instr.typeAssert (.iface 126 (.agg #[.string n])) 79 126 true).run Try.prog w = .ok (.tuple #[.agg #[.string n], .bool true]) w := fun _ => by kernel_rfl
  clear hF hR hold
  go_enter Try.func53, Try.ntmps53
  go_upto_region 1 with fail
  go_cut [5, 6] (fun tp tq wx => ∃ G : Nat, tp = .pointer (some ⟨G, 0, none⟩) ∧ tq = .bool (lkF L n).isSome ∧ w.heap.size ≤ G ∧ Hid (Below w.heap.size w wx) ∧ Hid (BoxIs wx G #[.slice va old.size vc] 98))
  case first =>
    have hBx := HF.out.bx
    have hMp := HF.out.mp
    have LO : Below w.heap.size w w := Below.refl _ _
    refine wp_region_noPanic ?_
    have hb0 : Below w.heap.size w w.drew := (Below.refl _ _).drew
    have hBx_0 := hBx.next hb0
    have hMp_0 := ownsMap_below hMp hb0
    have LO_0 := LO.trans (hb0.mono LO.size)
    refine wp_region_held_drew (S := fun x => BoxIs x f #[.map (some b), .int .i64 ((sizeF L : Nat) : Int)] 102 ∧ x.ownsMap Try.prog 9 heldV b L.length (dataF L V)) (by kernel_rfl) ⟨hBx_0, hMp_0⟩ (fun hSz => ?_)
    clear hSz LO hBx hMp
    generalize w.drew = wq0 at hb0 hBx_0 hMp_0 LO_0 ⊢
    clear hb0
    refine wpAnyH_take (i := 0) (v := .pointer (some ⟨f, 0, none⟩)) nat0 (by kernel_rfl) (by kernel_rfl) (by kernel_rfl) (fun _ _ _ h => False.elim h) (Or.inl ⟨by rfl, ?_⟩) ⟨hBx_0, hMp_0⟩ ?_
    · intro wx hSw
      go_simp
    simp only [Act.put, List.setIfInBounds_toArray, List.set_cons_zero, List.set_cons_succ]
    refine wpAnyH_take (i := 1) (v := .pointer (some ⟨f, 0, none⟩)) nat1 (by kernel_rfl) (by kernel_rfl) (by kernel_rfl) (fun _ _ _ h => False.elim h) (Or.inl ⟨by rfl, ?_⟩) ⟨hBx_0, hMp_0⟩ ?_
    · intro wx hSw
      go_simp
    simp only [Act.put, List.setIfInBounds_toArray, List.set_cons_zero, List.set_cons_succ]
    refine wpAnyH_take (i := 2) (v := .pointer (some ⟨f, 0, none⟩)) nat2 (by kernel_rfl) (by kernel_rfl) (by kernel_rfl) (fun _ _ _ h => False.elim h) (Or.inl ⟨by rfl, ?_⟩) ⟨hBx_0, hMp_0⟩ ?_
    · intro wx hSw
      go_simp
    simp only [Act.put, List.setIfInBounds_toArray, List.set_cons_zero, List.set_cons_succ]
    refine wpAnyH_take (i := 3) (v := .map (some b)) nat3 (by kernel_rfl) (by kernel_rfl) (by kernel_rfl) (fun _ _ _ h => False.elim h) (Or.inl ⟨by rfl, ?_⟩) ⟨hBx_0, hMp_0⟩ ?_
    · intro wx hSw
      have y0 := hSw.1.cell 0
      simp only [List.getElem?_toArray, List.getElem?_cons_succ, List.getElem?_cons_zero] at y0
      go_simp
    simp only [Act.put, List.setIfInBounds_toArray, List.set_cons_zero, List.set_cons_succ]
    refine wpAnyH_take (i := 4) (v := .iface 126 (.agg #[.string n])) nat4 (by kernel_rfl) (by kernel_rfl) (by kernel_rfl) (fun _ _ _ h => False.elim h) (Or.inl ⟨by rfl, ?_⟩) ⟨hBx_0, hMp_0⟩ ?_
    · intro wx hSw
      go_simp
    simp only [Act.put, List.setIfInBounds_toArray, List.set_cons_zero, List.set_cons_succ]
    refine wpAnyH_ready (rs := [5, 10]) (by kernel_rfl) (by simp) ?_
    refine AllReadyH.cons nat5 (fun K hK => ?_) (AllReadyH.cons nat10 (fun K hK => ?_) AllReadyH.nil)
    · go_simp
      go_at_call 144
      refine (file_rem n wq0).mono ?_
      rintro e wq1 ⟨rfl, hb1⟩
      have hBx_1 := hBx_0.next hb1
      have hMp_1 := ownsMap_below hMp_0 hb1
      have LO_1 := LO_0.trans (hb1.mono LO_0.size)
      refine hK.out _ _ ⟨hBx_1, hMp_1⟩ (fun hSz => ?_)
      clear hK K hSz LO_0 hBx_0 hMp_0
      clear hb1
      refine wpAnyH_take (i := 6) (v := .tuple #[.agg #[.slice va old.size vc], .bool ((lkF L n).isSome)]) nat6 (by kernel_rfl) (by kernel_rfl) (by kernel_rfl) (fun _ _ _ h => False.elim h) (Or.inl ⟨by rfl, ?_⟩) ⟨hBx_1, hMp_1⟩ ?_
      · intro wx hSw
        have hy := look2_own hSw.2 hnm
        rw [hva] at hy
        go_simp
      simp only [Act.put, List.setIfInBounds_toArray, List.set_cons_zero, List.set_cons_succ]
      refine wpAnyH_take (i := 7) (v := .tuple #[.agg #[.slice va old.size vc], .bool ((lkF L n).isSome)]) nat7 (by kernel_rfl) (by kernel_rfl) (by kernel_rfl) (fun _ _ _ h => False.elim h) (Or.inl ⟨by rfl, ?_⟩) ⟨hBx_1, hMp_1⟩ ?_
      · intro wx hSw
        go_simp
      simp only [Act.put, List.setIfInBounds_toArray, List.set_cons_zero, List.set_cons_succ]
      refine wpAnyH_take (i := 8) (v := .agg #[.slice va old.size vc]) nat8 (by kernel_rfl) (by kernel_rfl) (by kernel_rfl) (fun _ _ _ h => False.elim h) (Or.inl ⟨by rfl, ?_⟩) ⟨hBx_1, hMp_1⟩ ?_
      · intro wx hSw
        go_simp
      simp only [Act.put, List.setIfInBounds_toArray, List.set_cons_zero, List.set_cons_succ]
      refine wpAnyH_take (i := 9) (v := .bool ((lkF L n).isSome)) nat9 (by kernel_rfl) (by kernel_rfl) (by kernel_rfl) (fun _ _ _ h => False.elim h) (Or.inl ⟨by rfl, ?_⟩) ⟨hBx_1, hMp_1⟩ ?_
      · intro wx hSw
        go_simp
      simp only [Act.put, List.setIfInBounds_toArray, List.set_cons_zero, List.set_cons_succ]
      refine wpAnyH_ready (rs := [10]) (by kernel_rfl) (by simp) ?_
      refine AllReadyH.cons nat10 (fun K hK => ?_) AllReadyH.nil
      go_simp
      have hlt2 : w.heap.size ≤ wq1.heap.size := LO_1.size
      have hb2 := below_one wq1 (.cells #[.slice none 0 0] 98)
      have hBx_2 := hBx_1.next hb2
      have hMp_2 := ownsMap_below hMp_1 hb2
      have LO_2 := LO_1.trans (hb2.mono LO_1.size)
      have NB5_2 := BoxIs.new wq1 #[.slice none 0 0] 98 rfl
      refine hK.out _ _ ⟨hBx_2, hMp_2⟩ (fun hSz => ?_)
      clear hK K hSz LO_1 hBx_1 hMp_1
      obtain ⟨G2, hG2⟩ : ∃ G, G = wq1.heap.size := ⟨_, rfl⟩
      rw [← hG2] at NB5_2 ⊢
      generalize wq1.alloc (.cells #[.slice none 0 0] 98) = wq2 at hb2 hBx_2 hMp_2 LO_2 NB5_2 ⊢
      rw [← hG2] at hlt2
      clear hG2 hb2
      refine wpAnyH_ready (rs := [11]) (by kernel_rfl) (by simp) ?_
      refine AllReadyH.cons nat11 (fun K hK => ?_) AllReadyH.nil
      have y0 := NB5_2.cell 0
      simp only [List.getElem?_toArray, List.getElem?_cons_succ, List.getElem?_cons_zero] at y0
      have yf := NB5_2.free
      go_simp
      clear yf y0
      have hBx_3s0 := hBx_2.set_other (p := ⟨G2, 0, none⟩) (by show G2 ≠ _; omega) (.slice va old.size vc)
      have hMp_3s0 := (ownsMap_set (o := 0) hMp_2 NB5_2 (.slice va old.size vc))
      have LO_3s0 := LO_2.setCell (p := ⟨G2, 0, none⟩) hlt2 (.slice va old.size vc)
      have NB5_3s0 := NB5_2.set 0 (.slice va old.size vc)
      have hBx_3 := hBx_3s0
      have hMp_3 := hMp_3s0
      have LO_3 := LO_3s0
      have NB5_3 : BoxIs (wq2.setCell ⟨G2, 0, none⟩ (.slice va old.size vc)) G2 #[.slice va old.size vc] 98 := NB5_3s0
      refine hK.out _ _ ⟨hBx_3, hMp_3⟩ (fun hSz => ?_)
      clear hK K hSz LO_2 NB5_2 hBx_2 hMp_2 hBx_3s0 hMp_3s0 LO_3s0 NB5_3s0
      generalize wq2.setCell ⟨G2, 0, none⟩ (.slice va old.size vc) = wq3 at hBx_3 hMp_3 LO_3 NB5_3 ⊢
      refine wpAnyH_take (i := 12) (v := .bool ((lkF L n).isSome)) nat12 (by kernel_rfl) (by kernel_rfl) (by kernel_rfl) (fun _ _ _ h => False.elim h) (Or.inl ⟨by rfl, ?_⟩) ⟨hBx_3, hMp_3⟩ ?_
      · intro wx hSw
        go_simp
      simp only [Act.put, List.setIfInBounds_toArray, List.set_cons_zero, List.set_cons_succ]
      refine wpAnyH_done (by kernel_rfl) ?_ _
      refine NoPanic.normal ?_
      go_wp2_with fail
      go_meet
      exact ⟨G2, rfl, rfl, hlt2, hide LO_3, hide NB5_3⟩
    · go_simp
      have hlt4 : w.heap.size ≤ wq0.heap.size := LO_0.size
      have hb4 := below_one wq0 (.cells #[.slice none 0 0] 98)
      have hBx_4 := hBx_0.next hb4
      have hMp_4 := ownsMap_below hMp_0 hb4
      have LO_4 := LO_0.trans (hb4.mono LO_0.size)
      have NB5_4 := BoxIs.new wq0 #[.slice none 0 0] 98 rfl
      refine hK.out _ _ ⟨hBx_4, hMp_4⟩ (fun hSz => ?_)
      clear hK K hSz LO_0 hBx_0 hMp_0
      obtain ⟨G4, hG4⟩ : ∃ G, G = wq0.heap.size := ⟨_, rfl⟩
      rw [← hG4] at NB5_4 ⊢
      generalize wq0.alloc (.cells #[.slice none 0 0] 98) = wq4 at hb4 hBx_4 hMp_4 LO_4 NB5_4 ⊢
      rw [← hG4] at hlt4
      clear hG4 hb4
      refine wpAnyH_ready (rs := [5]) (by kernel_rfl) (by simp) ?_
      refine AllReadyH.cons nat5 (fun K hK => ?_) AllReadyH.nil
      go_simp
      go_at_call 144
      refine (file_rem n wq4).mono ?_
      rintro e wq5 ⟨rfl, hb5⟩
      have hBx_5 := hBx_4.next hb5
      have hMp_5 := ownsMap_below hMp_4 hb5
      have LO_5 := LO_4.trans (hb5.mono LO_4.size)
      have NB5_5 := NB5_4.next hb5
      refine hK.out _ _ ⟨hBx_5, hMp_5⟩ (fun hSz => ?_)
      clear hK K hSz LO_4 NB5_4 hBx_4 hMp_4
      clear hb5
      refine wpAnyH_take (i := 6) (v := .tuple #[.agg #[.slice va old.size vc], .bool ((lkF L n).isSome)]) nat6 (by kernel_rfl) (by kernel_rfl) (by kernel_rfl) (fun _ _ _ h => False.elim h) (Or.inl ⟨by rfl, ?_⟩) ⟨hBx_5, hMp_5⟩ ?_
      · intro wx hSw
        have hy := look2_own hSw.2 hnm
        rw [hva] at hy
        go_simp
      simp only [Act.put, List.setIfInBounds_toArray, List.set_cons_zero, List.set_cons_succ]
      refine wpAnyH_take (i := 7) (v := .tuple #[.agg #[.slice va old.size vc], .bool ((lkF L n).isSome)]) nat7 (by kernel_rfl) (by kernel_rfl) (by kernel_rfl) (fun _ _ _ h => False.elim h) (Or.inl ⟨by rfl, ?_⟩) ⟨hBx_5, hMp_5⟩ ?_
      · intro wx hSw
        go_simp
      simp only [Act.put, List.setIfInBounds_toArray, List.set_cons_zero, List.set_cons_succ]
      refine wpAnyH_take (i := 8) (v := .agg #[.slice va old.size vc]) nat8 (by kernel_rfl) (by kernel_rfl) (by kernel_rfl) (fun _ _ _ h => False.elim h) (Or.inl ⟨by rfl, ?_⟩) ⟨hBx_5, hMp_5⟩ ?_
      · intro wx hSw
        go_simp
      simp only [Act.put, List.setIfInBounds_toArray, List.set_cons_zero, List.set_cons_succ]
      refine wpAnyH_take (i := 9) (v := .bool ((lkF L n).isSome)) nat9 (by kernel_rfl) (by kernel_rfl) (by kernel_rfl) (fun _ _ _ h => False.elim h) (Or.inl ⟨by rfl, ?_⟩) ⟨hBx_5, hMp_5⟩ ?_
      · intro wx hSw
        go_simp
      simp only [Act.put, List.setIfInBounds_toArray, List.set_cons_zero, List.set_cons_succ]
      refine wpAnyH_ready (rs := [11]) (by kernel_rfl) (by simp) ?_
      refine AllReadyH.cons nat11 (fun K hK => ?_) AllReadyH.nil
      have y0 := NB5_5.cell 0
      simp only [List.getElem?_toArray, List.getElem?_cons_succ, List.getElem?_cons_zero] at y0
      have yf := NB5_5.free
      go_simp
      clear yf y0
      have hBx_6s0 := hBx_5.set_other (p := ⟨G4, 0, none⟩) (by show G4 ≠ _; omega) (.slice va old.size vc)
      have hMp_6s0 := (ownsMap_set (o := 0) hMp_5 NB5_5 (.slice va old.size vc))
      have LO_6s0 := LO_5.setCell (p := ⟨G4, 0, none⟩) hlt4 (.slice va old.size vc)
      have NB5_6s0 := NB5_5.set 0 (.slice va old.size vc)
      have hBx_6 := hBx_6s0
      have hMp_6 := hMp_6s0
      have LO_6 := LO_6s0
      have NB5_6 : BoxIs (wq5.setCell ⟨G4, 0, none⟩ (.slice va old.size vc)) G4 #[.slice va old.size vc] 98 := NB5_6s0
      refine hK.out _ _ ⟨hBx_6, hMp_6⟩ (fun hSz => ?_)
      clear hK K hSz LO_5 NB5_5 hBx_5 hMp_5 hBx_6s0 hMp_6s0 LO_6s0 NB5_6s0
      generalize wq5.setCell ⟨G4, 0, none⟩ (.slice va old.size vc) = wq6 at hBx_6 hMp_6 LO_6 NB5_6 ⊢
      refine wpAnyH_take (i := 12) (v := .bool ((lkF L n).isSome)) nat12 (by kernel_rfl) (by kernel_rfl) (by kernel_rfl) (fun _ _ _ h => False.elim h) (Or.inl ⟨by rfl, ?_⟩) ⟨hBx_6, hMp_6⟩ ?_
      · intro wx hSw
        go_simp
      simp only [Act.put, List.setIfInBounds_toArray, List.set_cons_zero, List.set_cons_succ]
      refine wpAnyH_done (by kernel_rfl) ?_ _
      refine NoPanic.normal ?_
      go_wp2_with fail
      go_meet
      exact ⟨G4, rfl, rfl, hlt4, hide LO_6, hide NB5_6⟩
  case rest =>
  obtain ⟨G, rfl, rfl, hGl, HL1, HBG⟩ := hcut
  obtain ⟨w1, rfl⟩ : ∃ x, x = wc := ⟨_, rfl⟩
  have HF1 := (HF.out.next HL1.out).hid
  have HR1 := (HR.out.next HL1.out).hid
  have hGlt := HBG.out.lt
  clear HF HR hmt
  have hbA := below_one w1 (.cells #[.string n] 126)
  have HA := (BoxIs.new w1 #[.string n] 126 rfl).hid
  have HF2 := (HF1.out.next hbA).hid
  have HR2 := (HR1.out.next hbA).hid
  have HG2 := (HBG.out.next hbA).hid
  have HL2 := hide (HL1.out.trans (hbA.mono HL1.out.size))
  have hl2 := HL1.out.size
  clear HF1 HR1 HBG HL1 hbA
  have a0 := HA.out.cell 0
  simp only [List.getElem?_toArray, List.getElem?_cons_succ, List.getElem?_cons_zero] at a0
  go_wp2_with fail
  clear a0
  generalize hA : w1.alloc (.cells #[.string n] 126) = w2 at HA HF2 HR2 HG2 HL2 ⊢
  clear hA
  obtain ⟨A, hA⟩ : ∃ A, w1.heap.size = A := ⟨_, rfl⟩
  rw [hA] at HA hGlt ⊢
  have hAl : w.heap.size ≤ A := by omega
  clear hA hl2
  refine (impl_drop f b V L n w2 (by omega) (by omega) HF2.out).mono ?_
  rintro e w3 ⟨rfl, hF, hT⟩
  have H1 := hF.hid
  have H2 := ((HR2.out.turn HF2.out hT).cut n).hid
  have H3 := hide ((HL2.out.mono hB).trans (hT.below (Nat.le_trans hB HL2.out.size) hBf hBb))
  clear HF2 HR2 HG2 HA HL2 hT hF
  go_wp2
  go_ret
  exact ⟨rfl, ⟨V, H1.out, H2.out⟩, H3.out⟩

end Go.Proofs.Ytejedpmkbkclhaa
