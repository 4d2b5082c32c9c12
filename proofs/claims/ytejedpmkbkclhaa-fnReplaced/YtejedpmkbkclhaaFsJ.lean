/- The folder: made of a row of files, held against one, within its bounds. (By gen_fsj.py.) -/
import Derived.Test.YtejedpmkbkclhaaDoI
import Derived.Test.YtejedpmkbkclhaaFsI
namespace Go.Proofs.Ytejedpmkbkclhaa
set_option maxRecDepth 100000
open Go.RowKit Go.Deep Go.Maps

theorem putF_last {O : Files} {k : Nat} (h : RisF (filesL O (k + 1))) : putF (filesL O k) (O.N k) (O.D k) = filesL O (k + 1) ∧ cutF (filesL O k) (O.N k) = filesL O k := by
  have hl : ∀ f, f ∈ filesL O k → nmL f.n (O.N k) = true := fun f hf => by
    rw [filesL_succ] at h
    exact (List.pairwise_append.1 h).2.2 f hf _ (List.mem_singleton.2 rfl)
  constructor
  · unfold putF
    rw [filesL_succ, List.filter_eq_self.2 hl, List.filter_eq_nil_iff.2 fun f hf => by rw [nmL_asymm (hl f hf)]; decide]
    rfl
  · exact List.filter_eq_self.2 fun f hf => by unfold nmN; rw [hl f hf]; rfl
theorem risF_take {O : Files} {n : Nat} (h : RisF (filesL O n)) : ∀ {k : Nat}, k ≤ n → RisF (filesL O k) := by
  intro k hk
  have e : filesL O k = (filesL O n).take k := by
    apply List.ext_getElem
    · simp [filesL]; omega
    · intro i h1 h2; simp [filesL]
  rw [e]; exact h.sublist (List.take_sublist _ _)
theorem sizeF_to {O : Files} {n m : Nat} (h : ∀ i, i < n → (O.D i).size ≤ m) {k : Nat} (hk : k ≤ n) : sizeF (filesL O k) ≤ k * m := by
  rw [← sizeTo_list]; exact sizeTo_le h hk

set_option linter.unusedVariables false in
set_option linter.unusedSimpArgs false in
set_option maxHeartbeats 4000000 in
theorem impl_fits (f b : Nat) (V : ByteArray → Value) (L : List File1) (w : World) (hF : FoldM w f b V L) :
    Calls Try.prog 54 #[.pointer (some ⟨f, 0, none⟩)] w fun e w' => e = .returned (.bool (fitsB L)) ∧ w' = w := by
  have hlen := fun ty => hF.mp.len (t := 100) (e := 98) Try.underlying100 ty
  have c0 := hF.bx.cell 0
  have c1 := hF.bx.cell 1
  simp only [List.getElem?_toArray, List.getElem?_cons_succ, List.getElem?_cons_zero] at c0 c1
  have hsz := dataF_size L V
  rw [hsz] at hlen
  clear hF hsz
  by_cases h1 : L.length ≤ 60
  · have k1 : ((L.length : Nat) : Int) ≤ 60 := by omega
    by_cases h2 : sizeF L ≤ 200000
    · have k2 : ((sizeF L : Nat) : Int) ≤ 200000 := by omega
      have HV : Hid (fitsB L = true) := by show _ = _; unfold fitsB; rw [decide_eq_true h1, decide_eq_true h2]; rfl
      clear h1 h2
      go_enter Try.func54, Try.ntmps54
      go_wp2
      go_ret
      exact ⟨(congrArg (fun q => Ending.returned (Value.bool q)) HV.out).symm, rfl⟩
    · have k2 : ¬ ((sizeF L : Nat) : Int) ≤ 200000 := by omega
      have HV : Hid (fitsB L = false) := by show _ = _; unfold fitsB; rw [decide_eq_true h1, decide_eq_false h2]; rfl
      clear h1 h2
      go_enter Try.func54, Try.ntmps54
      go_wp2
      go_ret
      exact ⟨(congrArg (fun q => Ending.returned (Value.bool q)) HV.out).symm, rfl⟩
  · have k1 : ¬ ((L.length : Nat) : Int) ≤ 60 := by omega
    have HV : Hid (fitsB L = false) := by show _ = _; unfold fitsB; rw [decide_eq_false h1]; rfl
    clear h1
    go_enter Try.func54, Try.ntmps54
    go_wp2
    go_ret
    exact ⟨(congrArg (fun q => Ending.returned (Value.bool q)) HV.out).symm, rfl⟩

set_option linter.unusedVariables false in
set_option linter.unusedSimpArgs false in
set_option maxHeartbeats 4000000 in
theorem impl_folderOf (a : Option Addr) (n cap : Nat) (O : Files) (w : World) (hr : RisF (filesL O n)) (hn : n ≤ 60) (hN : ∀ i, i < n → (O.N i).size ≤ 10000000) (hz : ∀ i, i < n → (O.D i).size ≤ 10000000) (hS : FileAt w w.heap.size a n O) :
    Calls Try.prog 65 #[.slice a n cap] w fun e w' => ∃ f b V, e = .returned (.pointer (some ⟨f, 0, none⟩)) ∧ FoldM w' f b V (filesL O n) ∧ RowsM w' w.heap.size V (filesL O n) ∧ w.heap.size ≤ f ∧ w.heap.size ≤ b ∧ Below w.heap.size w w' := by
  have hmm := @run_makeMap Try.prog
  have HS := hS.hid
  have HZ := hide hz
  have HN := hide hN
  have HRI := hide hr
  have hb0 : Below w.heap.size w ((w.alloc (.map #[] 0)).alloc (.cells #[.map (some w.heap.size), .int .i64 0] 102)) := ((Below.refl _ _).alloc (Nat.le_refl _) _).alloc (by simp) _
  have HF0 : Hid (FoldM ((w.alloc (.map #[] 0)).alloc (.cells #[.map (some w.heap.size), .int .i64 0] 102)) (w.heap.size + 1) w.heap.size (fun _ => .slice none 0 0) (filesL O 0)) := by
    refine ⟨BoxIs.new _ _ _ (by simp), ?_, List.Pairwise.nil, fun x hx => by cases hx⟩
    have h := (World.ownsMap_made (H := Value) w Try.prog 9 heldV).alloc (.cells #[.map (some w.heap.size), .int .i64 0] 102)
    exact h
  have HR0 : Hid (RowsM ((w.alloc (.map #[] 0)).alloc (.cells #[.map (some w.heap.size), .int .i64 0] 102)) w.heap.size (fun _ => .slice none 0 0) (filesL O 0)) := ⟨fun x hx => (by cases hx), fun x y hx => (by cases hx)⟩
  have HB0 := hide hb0
  clear hS hz hN hr hb0
  go_enter Try.func65, Try.ntmps65
  go_wp2_with fail
  clear hmm
  generalize (w.alloc (.map #[] 0)).alloc (.cells #[.map (some w.heap.size), .int .i64 0] 102) = W at HF0 HR0 HB0 ⊢
  obtain ⟨f, hf⟩ : ∃ f, w.heap.size + 1 = f := ⟨_, rfl⟩
  have hfw : w.heap.size ≤ f := by omega
  rw [hf] at HF0 ⊢
  clear hf
  go_loopw [11] (fun i wr => ∃ (k : Nat) (V : ByteArray → Value), i = .int .i64 k ∧ k ≤ n ∧ Hid (FoldM wr f w.heap.size V (filesL O k)) ∧ Hid (RowsM wr w.heap.size V (filesL O k)) ∧ Hid (Below w.heap.size w wr)) (fun i _ => n - (intOf i).toNat)
  case atStart => exact ⟨0, _, rfl, by omega, HF0, HR0, HB0⟩
  case round =>
    obtain ⟨k, V, rfl, hk, HF, HR, HB⟩ := hrel
    clear HF0 HR0 HB0
    by_cases hlt : k < n
    · have hki : (k : Int) < (n : Int) := by omega
      obtain ⟨b, off, rfl, hb, c0, c1⟩ := ((HS.out.below HB.out).mono HB.out.size).at hlt
      have hbF := below_one wr (.cells #[.string (O.N k), .string (O.D k)] 96)
      have hG := BoxIs.new wr #[.string (O.N k), .string (O.D k)] 96 rfl
      have HF1 := (HF.out.next hbF).hid
      have HR1 := (HR.out.next hbF).hid
      have HB1 := hide (HB.out.trans (hbF.mono HB.out.size))
      have g0 := hG.cell 0
      have g1 := hG.cell 1
      simp only [List.getElem?_toArray, List.getElem?_cons_succ, List.getElem?_cons_zero] at g0 g1
      clear hbF hG HF HR HB
      go_upto_region 5 with fail
      generalize wr.alloc (.cells #[.string (O.N k), .string (O.D k)] 96) = wa at HF1 HR1 HB1 g0 g1 ⊢
      obtain ⟨vs, w2, hcv, hO, hb2, gb, hgb, hgl⟩ := run_bytes_own (P := Try.prog) wa 9 57 5 (O.D k) Try.underlying9 Try.underlying57 Try.underlying5 (by have := HZ.out k hlt; omega)
      obtain ⟨xa, xc, rfl⟩ := hO.shape
      have HO := hO.hid
      have HF2 := (HF1.out.next hb2).hid
      have HR2 := (HR1.out.next hb2).hid
      have hwa := HB1.out.size
      have hfr := hide (HR1.out.fresh (v := .slice none 0 0) (v' := .slice xa (O.D k).size xc) (Nat.le_refl _) (fun _ _ => .inl rfl) (.inr ⟨gb, hgb, hgl⟩))
      have HB2 := hide (HB1.out.trans (hb2.mono HB1.out.size))
      clear hO hb2 HF1 HR1 HB1 hgb c0 c1
      go_wp2_with fail
      have hsf := sizeF_to HZ.out hk
      have hsk : k * 10000000 ≤ 60 * 10000000 := Nat.mul_le_mul_right _ (by omega)
      have hln : (filesL O k).length ≤ 1000000 := by rw [filesL_len]; omega
      refine (impl_put f w.heap.size V (filesL O k) (O.N k) (O.D k) xa xc w2 (by have := HN.out k hlt; omega) (by omega) hln (by have := HZ.out k hlt; omega) HF2.out).mono ?_
      rintro e w3 ⟨rfl, hF3, hT3⟩
      obtain ⟨hpl, hcl⟩ := putF_last (risF_take HRI.out (show k + 1 ≤ n by omega))
      rw [hpl] at hF3
      have hR3 := RowsM.put (n := O.N k) (d := O.D k) (v := .slice xa (O.D k).size xc) (by rw [hcl]; exact HR2.out.turn HF2.out hT3) ((HO.out.base hwa).turn HF2.out (by decide) hT3) (by rw [hcl]; exact hfr.out)
      rw [hpl] at hR3
      have HF3 := hF3.hid
      have HR3 := hR3.hid
      have HB3 := hide (HB2.out.trans (hT3.below HB2.out.size hfw (Nat.le_refl _)))
      clear hF3 hR3 hT3 HF2 HR2 HB2 HO hfr hsf hsk hln hpl hcl g0 g1 hcv
      go_wp2
      exact ⟨⟨k + 1, _, by go_num, by omega, HF3, HR3, HB3⟩, by simp [intOf]; omega⟩
    · obtain rfl : k = n := by omega
      go_wp2
      go_ret
      exact ⟨f, w.heap.size, V, rfl, HF.out, HR.out, hfw, Nat.le_refl _, HB.out⟩
/-- All of the first k files are found as they are. -/
def foundF (l : List File1) (O : Files) (k : Nat) : Bool := (filesL O k).all (fun f => match lkF l f.n with | some d => decide (d.toList = f.d.toList) | none => false)
theorem foundF_succ (l : List File1) (O : Files) (k : Nat) : foundF l O (k + 1) = (foundF l O k && (match lkF l (O.N k) with | some d => decide (d.toList = (O.D k).toList) | none => false)) := by
  unfold foundF; rw [filesL_succ, List.all_append]; simp [fileAt1]
theorem foundF_stop {l : List File1} {O : Files} {k : Nat} (h : (match lkF l (O.N k) with | some d => decide (d.toList = (O.D k).toList) | none => false) = false) : ∀ {n : Nat}, k < n → foundF l O n = false
  | 0, hk => by omega
  | n + 1, hk => by
    rw [foundF_succ]
    rcases Nat.lt_or_eq_of_le (Nat.lt_succ_iff.1 hk) with h1 | rfl
    · rw [foundF_stop h h1]; rfl
    · rw [h]; simp
theorem sameB_len {l : List File1} {O : Files} {n : Nat} (h : ¬ l.length = n) : sameB l (filesL O n) = false := by unfold sameB; rw [filesL_len, decide_eq_false h]; rfl
theorem sameB_found {l : List File1} {O : Files} {n : Nat} (h : l.length = n) : sameB l (filesL O n) = foundF l O n := by unfold sameB; rw [filesL_len, decide_eq_true h]; rfl

set_option linter.unusedVariables false in
set_option linter.unusedSimpArgs false in
set_option maxHeartbeats 4000000 in
theorem impl_is (B f b : Nat) (V : ByteArray → Value) (L : List File1) (a : Option Addr) (n cap : Nat) (O : Files) (w : World) (hn : n ≤ 1048576) (hN : ∀ i, i < n → (O.N i).size ≤ 10000000) (hF : FoldM w f b V L) (hR : RowsM w B V L) (hS : FileAt w w.heap.size a n O) :
    Calls Try.prog 83 #[.pointer (some ⟨f, 0, none⟩), .slice a n cap] w fun e w' => e = .returned (.bool (sameB L (filesL O n))) ∧ Below w.heap.size w w' := by
  have hlen := fun ty => hF.mp.len (t := 100) (e := 98) Try.underlying100 ty
  have c0 := hF.bx.cell 0
  simp only [List.getElem?_toArray, List.getElem?_cons_succ, List.getElem?_cons_zero] at c0
  have hsz := dataF_size L V
  rw [hsz] at hlen
  have HF := hF.hid
  have HR := hR.hid
  have HS := hS.hid
  have HN := hide hN
  clear hF hsz hR hS hN
  by_cases hl : L.length = n
  · have HV := hide (sameB_found (O := O) hl)
    have hl2 : ((L.length : Nat) : Int) = (n : Int) := by omega
    rw [hl2] at hlen
    clear hl2 hl
    have HB0 : Hid (Below w.heap.size w w) := Below.refl _ _
    go_enter Try.func83, Try.ntmps83
    go_wp2
    clear c0 hlen
    go_loopw [19] (fun i wr => ∃ k : Nat, i = .int .i64 k ∧ k ≤ n ∧ foundF L O k = true ∧ Hid (Below w.heap.size w wr)) (fun i _ => n - (intOf i).toNat)
    case atStart => exact ⟨0, rfl, by omega, rfl, HB0⟩
    case round =>
      obtain ⟨k, rfl, hk, hfo, HB⟩ := hrel
      have HFO := hide hfo
      clear HB0 hfo
      by_cases hlt : k < n
      · have hki : (k : Int) < (n : Int) := by omega
        obtain ⟨b2, off, rfl, hb, c0, c1⟩ := (HS.out.next HB.out).at hlt
        have hbF := below_one wr (.cells #[.string (O.N k), .string (O.D k)] 96)
        have hG := BoxIs.new wr #[.string (O.N k), .string (O.D k)] 96 rfl
        have HF1 := ((HF.out.next HB.out).next hbF).hid
        have HR1 := ((HR.out.next HB.out).next hbF).hid
        have HB1 := hide (HB.out.trans (hbF.mono HB.out.size))
        obtain ⟨va, vc, hva⟩ := HF.out.valShape (O.N k)
        have hnm : (O.N k).size ≤ maxLen := by have := HN.out k hlt; unfold maxLen; omega
        have HG := hG.hid
        clear hbF hG HB
        go_upto_region 6 with fail
        generalize wr.alloc (.cells #[.string (O.N k), .string (O.D k)] 96) = wa at HF1 HR1 HB1 HG ⊢
        obtain ⟨G, hGe⟩ : ∃ G, wr.heap.size = G := ⟨_, rfl⟩
        rw [hGe] at HG ⊢
        have hwG : w.heap.size ≤ wa.heap.size := HB1.out.size
        clear hGe c0 c1
        generalize hold : (lkF L (O.N k)).getD ⟨#[]⟩ = old at hva
        have HOLD := hide hold
        clear hold
        go_cut [7, 8] (fun tp tq wx => ∃ Q : Nat, tp = .pointer (some ⟨Q, 0, none⟩) ∧ tq = .bool (lkF L (O.N k)).isSome ∧ Hid (Below wa.heap.size wa wx) ∧ Hid (BoxIs wx Q #[.slice va old.size vc] 98))
        case first =>
          have hBx := HF1.out.bx
          have hMp := HF1.out.mp
          have hG := HG.out
          have LO : Below wa.heap.size wa wa := Below.refl _ _
          have hfl := hBx.lt
          have hgl := hG.lt
          refine wp_region_noPanic ?_
          have hb0 : Below wa.heap.size wa wa.drew := (Below.refl _ _).drew
          have hBx_0 := hBx.next hb0
          have hMp_0 := ownsMap_below hMp hb0
          have hG_0 := hG.next hb0
          have LO_0 := LO.trans (hb0.mono LO.size)
          refine wp_region_held_drew (S := fun x => BoxIs x f #[.map (some b), .int .i64 ((sizeF L : Nat) : Int)] 102 ∧ x.ownsMap Try.prog 9 heldV b L.length (dataF L V) ∧ BoxIs x G #[.string (O.N k), .string (O.D k)] 96) (by kernel_rfl) ⟨hBx_0, hMp_0, hG_0⟩ (fun hSz => ?_)
          clear hSz LO hBx hG hMp
          generalize wa.drew = wq0 at hb0 hBx_0 hMp_0 hG_0 LO_0 ⊢
          clear hb0
          refine wpAnyH_take (i := 0) (v := .pointer (some ⟨f, 0, none⟩)) nat0 (by kernel_rfl) (by kernel_rfl) (by kernel_rfl) (fun _ _ _ h => False.elim h) (Or.inl ⟨by rfl, ?_⟩) ⟨hBx_0, hMp_0, hG_0⟩ ?_
          · intro wx hSw
            go_simp
          simp only [Act.put, List.setIfInBounds_toArray, List.set_cons_zero, List.set_cons_succ]
          refine wpAnyH_take (i := 1) (v := .pointer (some ⟨f, 0, none⟩)) nat1 (by kernel_rfl) (by kernel_rfl) (by kernel_rfl) (fun _ _ _ h => False.elim h) (Or.inl ⟨by rfl, ?_⟩) ⟨hBx_0, hMp_0, hG_0⟩ ?_
          · intro wx hSw
            go_simp
          simp only [Act.put, List.setIfInBounds_toArray, List.set_cons_zero, List.set_cons_succ]
          refine wpAnyH_take (i := 2) (v := .pointer (some ⟨f, 0, none⟩)) nat2 (by kernel_rfl) (by kernel_rfl) (by kernel_rfl) (fun _ _ _ h => False.elim h) (Or.inl ⟨by rfl, ?_⟩) ⟨hBx_0, hMp_0, hG_0⟩ ?_
          · intro wx hSw
            go_simp
          simp only [Act.put, List.setIfInBounds_toArray, List.set_cons_zero, List.set_cons_succ]
          refine wpAnyH_take (i := 3) (v := .map (some b)) nat3 (by kernel_rfl) (by kernel_rfl) (by kernel_rfl) (fun _ _ _ h => False.elim h) (Or.inl ⟨by rfl, ?_⟩) ⟨hBx_0, hMp_0, hG_0⟩ ?_
          · intro wx hSw
            have y0 := hSw.1.cell 0
            simp only [List.getElem?_toArray, List.getElem?_cons_succ, List.getElem?_cons_zero] at y0
            go_simp
          simp only [Act.put, List.setIfInBounds_toArray, List.set_cons_zero, List.set_cons_succ]
          refine wpAnyH_take (i := 4) (v := .pointer (some ⟨G, 0, none⟩)) nat4 (by kernel_rfl) (by kernel_rfl) (by kernel_rfl) (fun _ _ _ h => False.elim h) (Or.inl ⟨by rfl, ?_⟩) ⟨hBx_0, hMp_0, hG_0⟩ ?_
          · intro wx hSw
            go_simp
          simp only [Act.put, List.setIfInBounds_toArray, List.set_cons_zero, List.set_cons_succ]
          refine wpAnyH_take (i := 5) (v := .string (O.N k)) nat5 (by kernel_rfl) (by kernel_rfl) (by kernel_rfl) (fun _ _ _ h => False.elim h) (Or.inl ⟨by rfl, ?_⟩) ⟨hBx_0, hMp_0, hG_0⟩ ?_
          · intro wx hSw
            have y0 := hSw.2.2.cell 0
            simp only [List.getElem?_toArray, List.getElem?_cons_succ, List.getElem?_cons_zero] at y0
            go_simp
          simp only [Act.put, List.setIfInBounds_toArray, List.set_cons_zero, List.set_cons_succ]
          refine wpAnyH_take (i := 6) (v := .tuple #[.agg #[.slice va old.size vc], .bool ((lkF L (O.N k)).isSome)]) nat6 (by kernel_rfl) (by kernel_rfl) (by kernel_rfl) (fun _ _ _ h => False.elim h) (Or.inl ⟨by rfl, ?_⟩) ⟨hBx_0, hMp_0, hG_0⟩ ?_
          · intro wx hSw
            have hy := look2_own hSw.2.1 hnm
            rw [hva] at hy
            go_simp
          simp only [Act.put, List.setIfInBounds_toArray, List.set_cons_zero, List.set_cons_succ]
          refine wpAnyH_take (i := 7) (v := .tuple #[.agg #[.slice va old.size vc], .bool ((lkF L (O.N k)).isSome)]) nat7 (by kernel_rfl) (by kernel_rfl) (by kernel_rfl) (fun _ _ _ h => False.elim h) (Or.inl ⟨by rfl, ?_⟩) ⟨hBx_0, hMp_0, hG_0⟩ ?_
          · intro wx hSw
            go_simp
          simp only [Act.put, List.setIfInBounds_toArray, List.set_cons_zero, List.set_cons_succ]
          refine wpAnyH_take (i := 8) (v := .agg #[.slice va old.size vc]) nat8 (by kernel_rfl) (by kernel_rfl) (by kernel_rfl) (fun _ _ _ h => False.elim h) (Or.inl ⟨by rfl, ?_⟩) ⟨hBx_0, hMp_0, hG_0⟩ ?_
          · intro wx hSw
            go_simp
          simp only [Act.put, List.setIfInBounds_toArray, List.set_cons_zero, List.set_cons_succ]
          refine wpAnyH_take (i := 9) (v := .bool ((lkF L (O.N k)).isSome)) nat9 (by kernel_rfl) (by kernel_rfl) (by kernel_rfl) (fun _ _ _ h => False.elim h) (Or.inl ⟨by rfl, ?_⟩) ⟨hBx_0, hMp_0, hG_0⟩ ?_
          · intro wx hSw
            go_simp
          simp only [Act.put, List.setIfInBounds_toArray, List.set_cons_zero, List.set_cons_succ]
          refine wpAnyH_ready (rs := [10]) (by kernel_rfl) (by simp) ?_
          refine AllReadyH.cons nat10 (fun K hK => ?_) AllReadyH.nil
          go_simp
          have hlt1 : wa.heap.size ≤ wq0.heap.size := LO_0.size
          have hb1 := below_one wq0 (.cells #[.slice none 0 0] 98)
          have hBx_1 := hBx_0.next hb1
          have hMp_1 := ownsMap_below hMp_0 hb1
          have hG_1 := hG_0.next hb1
          have LO_1 := LO_0.trans (hb1.mono LO_0.size)
          have NB7_1 := BoxIs.new wq0 #[.slice none 0 0] 98 rfl
          refine hK.out _ _ ⟨hBx_1, hMp_1, hG_1⟩ (fun hSz => ?_)
          clear hK K hSz LO_0 hBx_0 hG_0 hMp_0
          obtain ⟨G1, hG1⟩ : ∃ G, G = wq0.heap.size := ⟨_, rfl⟩
          rw [← hG1] at NB7_1 ⊢
          generalize wq0.alloc (.cells #[.slice none 0 0] 98) = wq1 at hb1 hBx_1 hMp_1 hG_1 LO_1 NB7_1 ⊢
          rw [← hG1] at hlt1
          clear hG1 hb1
          refine wpAnyH_ready (rs := [11]) (by kernel_rfl) (by simp) ?_
          refine AllReadyH.cons nat11 (fun K hK => ?_) AllReadyH.nil
          have y0 := NB7_1.cell 0
          simp only [List.getElem?_toArray, List.getElem?_cons_succ, List.getElem?_cons_zero] at y0
          have yf := NB7_1.free
          go_simp
          clear yf y0
          have hBx_2s0 := hBx_1.set_other (p := ⟨G1, 0, none⟩) (by show G1 ≠ f; omega) (.slice va old.size vc)
          have hMp_2s0 := (ownsMap_set (o := 0) hMp_1 NB7_1 (.slice va old.size vc))
          have hG_2s0 := hG_1.set_other (p := ⟨G1, 0, none⟩) (by show G1 ≠ G; omega) (.slice va old.size vc)
          have LO_2s0 := LO_1.setCell (p := ⟨G1, 0, none⟩) hlt1 (.slice va old.size vc)
          have NB7_2s0 := NB7_1.set 0 (.slice va old.size vc)
          have hBx_2 := hBx_2s0
          have hMp_2 := hMp_2s0
          have hG_2 := hG_2s0
          have LO_2 := LO_2s0
          have NB7_2 : BoxIs (wq1.setCell ⟨G1, 0, none⟩ (.slice va old.size vc)) G1 #[.slice va old.size vc] 98 := NB7_2s0
          refine hK.out _ _ ⟨hBx_2, hMp_2, hG_2⟩ (fun hSz => ?_)
          clear hK K hSz LO_1 NB7_1 hBx_1 hG_1 hMp_1 hBx_2s0 hMp_2s0 hG_2s0 LO_2s0 NB7_2s0
          generalize wq1.setCell ⟨G1, 0, none⟩ (.slice va old.size vc) = wq2 at hBx_2 hMp_2 hG_2 LO_2 NB7_2 ⊢
          refine wpAnyH_take (i := 12) (v := .bool ((lkF L (O.N k)).isSome)) nat12 (by kernel_rfl) (by kernel_rfl) (by kernel_rfl) (fun _ _ _ h => False.elim h) (Or.inl ⟨by rfl, ?_⟩) ⟨hBx_2, hMp_2, hG_2⟩ ?_
          · intro wx hSw
            go_simp
          simp only [Act.put, List.setIfInBounds_toArray, List.set_cons_zero, List.set_cons_succ]
          refine wpAnyH_done (by kernel_rfl) ?_ _
          refine NoPanic.normal ?_
          go_wp2_with fail
          go_meet
          exact ⟨G1, rfl, rfl, hide LO_2, hide NB7_2⟩
        case rest =>
        obtain ⟨Q, rfl, rfl, HW1, HQ⟩ := hcut
        obtain ⟨w1, rfl⟩ : ∃ x, x = wc := ⟨_, rfl⟩
        have HB2 := hide (HB1.out.trans (HW1.out.mono HB1.out.size))
        have hOB : OwnB w1 B 5 (.slice va old.size vc) old := by have := (HR1.out.next HW1.out).val (O.N k); rwa [hva, HOLD.out] at this
        have hcv := run_text_own (P := Try.prog) w1 B 57 9 5 (.slice va old.size vc) old hOB Try.underlying57 Try.underlying5 Try.underlying9
        have q0 := HQ.out.cell 0
        have g1 := (HG.out.next HW1.out).cell 1
        simp only [List.getElem?_toArray, List.getElem?_cons_succ, List.getElem?_cons_zero] at q0 g1
        have hstp := fun (h : (match lkF L (O.N k) with | some d => decide (d.toList = (O.D k).toList) | none => false) = false) => foundF_stop (l := L) (O := O) h hlt
        have hnxt := foundF_succ L O k
        clear hOB HF1 HR1 HG HQ HW1 HB1
        cases hlk : lkF L (O.N k) with
        | none =>
          have HVV := hide (HV.out.trans (hstp (by rw [hlk])))
          clear hlk hstp hnxt
          go_wp2
          go_ret
          exact ⟨(congrArg (fun q => Ending.returned (Value.bool q)) HVV.out).symm, HB2.out⟩
        | some d =>
          have hd : d = old := by have := HOLD.out; rw [hlk] at this; exact this
          subst hd
          rw [hlk] at hnxt hstp
          by_cases heq : d.toList = (O.D k).toList
          · have HNX : Hid (foundF L O (k + 1) = true) := by show _ = _; rw [hnxt, HFO.out]; simp [heq]
            have heq2 : (d.toList == (O.D k).toList) = true := by rw [heq]; simp
            clear hlk hnxt hstp
            go_wp2
            exact ⟨⟨k + 1, by go_num, by omega, HNX.out, HB2⟩, by simp [intOf]; omega⟩
          · have HVV := hide (HV.out.trans (hstp (by simp [heq])))
            have heq2 : (d.toList == (O.D k).toList) = false := by simp [heq]
            clear hlk hnxt hstp
            go_wp2
            go_ret
            exact ⟨(congrArg (fun q => Ending.returned (Value.bool q)) HVV.out).symm, HB2.out⟩
      · obtain rfl : k = n := by omega
        have HVV := hide (HV.out.trans HFO.out)
        go_wp2
        go_ret
        exact ⟨(congrArg (fun q => Ending.returned (Value.bool q)) HVV.out).symm, HB.out⟩
  · have HV := hide (sameB_len (O := O) hl)
    have hl2 : ¬ ((n : Nat) : Int) = ((L.length : Nat) : Int) := by omega
    clear hl
    go_enter Try.func83, Try.ntmps83
    go_wp2
    go_ret
    exact ⟨(congrArg (fun q => Ending.returned (Value.bool q)) HV.out).symm, Below.refl _ _⟩

end Go.Proofs.Ytejedpmkbkclhaa
