/- What the writer of a block makes of an entry. -/
import Derived.Test.YtljmfdcilnbjaacWr
namespace Go.Proofs.Ytljmfdcilnbjaac
set_option maxRecDepth 100000
open Go.RowKit Go.Deep Go.Lib

/-- The writer in block F, its rows from block B on. -/
structure Bw (F B m p : Nat) (ah : ByteArray) (ve vb : Value) (bs : ByteArray) (ms : List Int) (y : World) : Prop where
  bx : BoxIs y F #[.int .i64 m, .int .i64 p, .string ah, ve, vb] 51
  oe : y.ownsRow B 5 1 ve bs.size (strCells bs)
  ob : y.ownsRow B 58 1 vb ms.length (ms.map (Value.int .u32))
  n1 : F < B
  hB : B ≤ y.heap.size

/-- The bytes of an entry, ahead of which a key with the text ah was put. -/
def entT (m p : Nat) (ah : ByteArray) (kt x : ByteArray) : ByteArray :=
  pv (shw (basT m p ah) kt) ++ putText (kt.extract (shw (basT m p ah) kt) kt.size) ++ putText x
def begT (m p : Nat) (bs : ByteArray) (ms : List Int) : List Int := if p % m = 0 then ms ++ [(bs.size : Int)] else ms

theorem putTextSz (s : ByteArray) : (putText s).size ≤ s.size + 10 := by
  have := pv_size s.size
  rw [putText, ByteArray.size_append]; omega

set_option maxHeartbeats 4000000 in
theorem wr_put (w : World) (F B m p : Nat) (ah : ByteArray) (ve vb : Value) (bs : ByteArray) (ms : List Int) (u : ByteArray) (q k : Int) (x : ByteArray) (hm : 1 ≤ m) (hp : p ≤ 1000000) (hkt : (keyText u q k).size ≤ 1000) (hah : ah.size ≤ 1000) (hxs : x.size ≤ 1000) (hbs : bs.size ≤ 1000000) (hms : ms.length ≤ 1000000) (h : Bw F B m p ah ve vb bs ms w) :
    Calls Try.prog 23 #[.pointer (some ⟨F, 0, none⟩), .agg #[.string u, .int .i64 q, .int .i64 k, .string x]] w fun e w' => e = .returned (.tuple #[]) ∧ (∃ ve' vb', Bw F B m (p + 1) (keyText u q k) ve' vb' (bs ++ entT m p ah (keyText u q k) x) (begT m p bs ms) w') ∧ Below F w w' := by
  obtain ⟨i0, hi0, hz0, hz1, hz2⟩ := info_parts u8_info
  obtain ⟨j0, hj0, hy0, hy1, hy2⟩ := info_parts u32_info
  have hGF : w.heap.size ≠ F := Nat.ne_of_gt h.bx.lt
  have ck := fun wx => impl_KeyText u q k wx
  have hb0 := below_one w (.cells #[.string u, .int .i64 q, .int .i64 k, .string x] 53)
  have L0 : Hid (WrS w F B w.heap.size m p ah ve vb ve vb bs ms u q k x (w.alloc (.cells #[.string u, .int .i64 q, .int .i64 k, .string x] 53))) :=
    ⟨h.bx.next hb0, BoxIs.new w _ _ rfl, row_next h.oe hb0, row_next h.ob hb0, hb0.mono (Nat.le_of_lt h.bx.lt), h.n1, Nat.le_trans h.hB hb0.size⟩
  have ca := fun wx (hx : BoxIs wx F #[.int .i64 m, .int .i64 p, .string ah, ve, vb] 51) => csr_anew wx F m p ah ve vb _ hm hx
  clear h hb0
  have HET : Hid (entT m p ah (keyText u q k) x = pv (shw (basT m p ah) (keyText u q k)) ++ putText ((keyText u q k).extract (shw (basT m p ah) (keyText u q k)) (keyText u q k).size) ++ putText x) := rfl
  have hbas : (basT m p ah).size ≤ 1000 := by unfold basT; split <;> first | exact hah | decide
  have hsl := (shw_le (basT m p ah) (keyText u q k)).2
  generalize keyText u q k = kt at *
  have cs := fun wx => impl_SharedWith (basT m p ah) kt (by unfold maxLen; omega) (by unfold maxLen; omega) wx
  generalize shw (basT m p ah) kt = s at *
  have hR : (kt.extract s kt.size).size ≤ 1000 := by rw [ByteArray.size_extract]; omega
  have z1 := pv_size (s : Int)
  have z2 := putTextSz (kt.extract s kt.size)
  have z3 := putTextSz x
  have t1 : ∀ wx : World, (Op.stringOp .add (pv s) (putText (kt.extract s kt.size))).run Try.prog wx = .ok (.string (pv s ++ putText (kt.extract s kt.size))) wx := fun wx => run_string_add_sum wx _ _ (by omega)
  have t2 : ∀ wx : World, (Op.stringOp .add (pv s ++ putText (kt.extract s kt.size)) (putText x)).run Try.prog wx = .ok (.string (pv s ++ putText (kt.extract s kt.size) ++ putText x)) wx := fun wx => run_string_add_sum wx _ _ (by rw [ByteArray.size_append]; omega)
  have z4 : (pv s ++ putText (kt.extract s kt.size) ++ putText x).size ≤ 2100 := by rw [ByteArray.size_append, ByteArray.size_append]; omega
  have hu64 : IntKind.u64.wrap (s : Int) = (s : Int) := by rw [IntKind.wrap_u64]; omega
  have hu32 : IntKind.u32.wrap (bs.size : Int) = (bs.size : Int) := by rw [IntKind.wrap_u32]; omega
  go_enter Try.func23, Try.ntmps23
  go_wp2_with fail
  generalize w.alloc (.cells #[.string u, .int .i64 q, .int .i64 k, .string x] 53) = W at L0 ⊢
  obtain ⟨G, hG⟩ : ∃ G, w.heap.size = G := ⟨_, rfl⟩
  rw [hG] at L0 hGF ⊢
  clear hG
  obtain ⟨ae, ce, rfl⟩ := L0.out.vlen
  by_cases hz : p % m = 0
  · have hms1 : begT m p bs ms = ms ++ [(bs.size : Int)] := by rw [begT, if_pos hz]
    rw [decide_eq_true hz] at ca
    clear hz
    refine (ca W L0.out.bx).mono ?_
    rintro e W1 ⟨rfl, hb1⟩
    have L1 := hide (L0.out.next hb1).drew
    clear hb1 L0 ca
    go_wp2_with fail
    refine wp_region_noPanic ?_
    refine wp_region_held_drew (S := fun y => y.cell? ⟨F, 3, none⟩ = some (.slice ae bs.size ce)) (by kernel_rfl) (L1.out.bx.cell 3) (fun _ => ?_)
    generalize W1.drew = W6 at L1 ⊢
    refine wpAnyH_take (i := 0) (v := .pointer (some ⟨F, 0, none⟩)) nat0 (by kernel_rfl) (by kernel_rfl) (by kernel_rfl) (fun _ _ _ h => False.elim h) (Or.inl ⟨by rfl, ?_⟩) (L1.out.bx.cell 3) ?_
    · intro wx hSw
      go_simp
    simp only [Act.put, List.setIfInBounds_toArray, List.set_cons_zero, List.set_cons_succ]
    refine wpAnyH_take (i := 1) (v := .pointer (some ⟨F, 0, none⟩)) nat1 (by kernel_rfl) (by kernel_rfl) (by kernel_rfl) (fun _ _ _ h => False.elim h) (Or.inl ⟨by rfl, ?_⟩) (L1.out.bx.cell 3) ?_
    · intro wx hSw
      go_simp
    simp only [Act.put, List.setIfInBounds_toArray, List.set_cons_zero, List.set_cons_succ]
    refine wpAnyH_take (i := 2) (v := .pointer (some ⟨F, 0, none⟩)) nat2 (by kernel_rfl) (by kernel_rfl) (by kernel_rfl) (fun _ _ _ h => False.elim h) (Or.inl ⟨by rfl, ?_⟩) (L1.out.bx.cell 3) ?_
    · intro wx hSw
      go_simp
    simp only [Act.put, List.setIfInBounds_toArray, List.set_cons_zero, List.set_cons_succ]
    refine wpAnyH_take (i := 3) (v := .pointer (some ⟨F, 4, none⟩)) nat3 (by kernel_rfl) (by kernel_rfl) (by kernel_rfl) (fun _ _ _ h => False.elim h) (Or.inl ⟨by rfl, ?_⟩) (L1.out.bx.cell 3) ?_
    · intro wx hSw
      go_simp
    simp only [Act.put, List.setIfInBounds_toArray, List.set_cons_zero, List.set_cons_succ]
    refine wpAnyH_take (i := 5) (v := .pointer (some ⟨F, 0, none⟩)) nat5 (by kernel_rfl) (by kernel_rfl) (by kernel_rfl) (fun _ _ _ h => False.elim h) (Or.inl ⟨by rfl, ?_⟩) (L1.out.bx.cell 3) ?_
    · intro wx hSw
      go_simp
    simp only [Act.put, List.setIfInBounds_toArray, List.set_cons_zero, List.set_cons_succ]
    refine wpAnyH_take (i := 6) (v := .pointer (some ⟨F, 0, none⟩)) nat6 (by kernel_rfl) (by kernel_rfl) (by kernel_rfl) (fun _ _ _ h => False.elim h) (Or.inl ⟨by rfl, ?_⟩) (L1.out.bx.cell 3) ?_
    · intro wx hSw
      go_simp
    simp only [Act.put, List.setIfInBounds_toArray, List.set_cons_zero, List.set_cons_succ]
    refine wpAnyH_take (i := 7) (v := .pointer (some ⟨F, 3, none⟩)) nat7 (by kernel_rfl) (by kernel_rfl) (by kernel_rfl) (fun _ _ _ h => False.elim h) (Or.inl ⟨by rfl, ?_⟩) (L1.out.bx.cell 3) ?_
    · intro wx hSw
      go_simp
    simp only [Act.put, List.setIfInBounds_toArray, List.set_cons_zero, List.set_cons_succ]
    refine wpAnyH_take (i := 8) (v := (.slice ae bs.size ce)) nat8 (by kernel_rfl) (by kernel_rfl) (by kernel_rfl) (fun _ _ _ h => False.elim h) (Or.inl ⟨by rfl, ?_⟩) (L1.out.bx.cell 3) ?_
    · intro wx hSw
      have hSx : wx.cell? ⟨F, 3, none⟩ = some (.slice ae bs.size ce) := hSw
      go_simp
    simp only [Act.put, List.setIfInBounds_toArray, List.set_cons_zero, List.set_cons_succ]
    refine wpAnyH_take (i := 9) (v := .int .i64 (bs.size : Int)) nat9 (by kernel_rfl) (by kernel_rfl) (by kernel_rfl) (fun _ _ _ h => False.elim h) (Or.inl ⟨by rfl, ?_⟩) (L1.out.bx.cell 3) ?_
    · intro wx hSw
      go_simp
    simp only [Act.put, List.setIfInBounds_toArray, List.set_cons_zero, List.set_cons_succ]
    refine wpAnyH_take (i := 10) (v := .int .u32 (bs.size : Int)) nat10 (by kernel_rfl) (by kernel_rfl) (by kernel_rfl) (fun _ _ _ h => False.elim h) (Or.inl ⟨by rfl, ?_⟩) (L1.out.bx.cell 3) ?_
    · intro wx hSw
      go_simp
    simp only [Act.put, List.setIfInBounds_toArray, List.set_cons_zero, List.set_cons_succ]
    refine wpAnyH_ready (rs := [4, 11]) (by kernel_rfl) (by simp) ?_
    refine AllReadyH.cons nat4 (fun K hK => ?_) (AllReadyH.cons nat11 (fun K hK => ?_) AllReadyH.nil)
    · have xl : W6.cell? ⟨F, 4, none⟩ = some (vb) := L1.out.bx.cell 4
      go_simp
      refine hK.out _ _ (L1.out.bx.cell 3) (fun _ => ?_)
      clear hK K xl
      refine wpAnyH_ready (rs := [11]) (by kernel_rfl) (by simp) ?_
      refine AllReadyH.cons nat11 (fun K hK => ?_) AllReadyH.nil
      go_simp
      have hsrc1 : ∀ j u, ([.int .u32 (bs.size : Int)] : List Value)[j]? = some u → (W6.alloc (.cells #[.int .u32 (bs.size : Int)] 58)).cell? ((⟨W6.heap.size, 0, none⟩ : Addr).add j) = some u := World.news_of_block (fr := (0, 0)) (heap_alloc_new W6 _)
      have H1 := hide (L1.out.laid (.cells #[.int .u32 (bs.size : Int)] 58))
      refine hK.out _ _ (H1.out.bx.cell 3) (fun _ => ?_)
      clear hK K
      generalize W6.alloc (.cells #[.int .u32 (bs.size : Int)] 58) = wq1 at H1 hsrc1 ⊢
      clear L1
      refine wpAnyH_ready (rs := [12]) (by kernel_rfl) (by simp) ?_
      refine AllReadyH.cons nat12 (fun K hK => ?_) AllReadyH.nil
      refine step_append_lies (P := Try.prog) wq1 rfl (.tmp 14) (.tmp 21) 49 rfl B 58 j0 _ 1 4 Try.underlying49 hj0 hy0 hy1 hy2 rfl (by decide) vb _ _ (by rfl) H1.out.ob ⟨W6.heap.size, 0, none⟩ 1 1 [.int .u32 (bs.size : Int)] (by rfl) rfl hsrc1 (by intro z hz; simp at hz; subst hz; rfl) (by decide) (by unfold maxLen; omega) (by omega) H1.out.hB _ rfl ?_
      intro g2 cap2 wq2 how2 hgr2 _ _
      have H2 := hide (H1.out.appB _ how2 hgr2)
      refine hK.out _ _ (H2.out.bx.cell 3) (fun _ => ?_)
      clear hK K how2 hgr2 H1 hsrc1
      simp only [Act.put, List.setIfInBounds_toArray, List.set_cons_zero, List.set_cons_succ]
      refine wpAnyH_take (i := 13) (v := .pointer (some ⟨F, 0, none⟩)) nat13 (by kernel_rfl) (by kernel_rfl) (by kernel_rfl) (fun _ _ _ h => False.elim h) (Or.inl ⟨by rfl, ?_⟩) (H2.out.bx.cell 3) ?_
      · intro wx hSw
        go_simp
      simp only [Act.put, List.setIfInBounds_toArray, List.set_cons_zero, List.set_cons_succ]
      refine wpAnyH_take (i := 14) (v := .pointer (some ⟨F, 4, none⟩)) nat14 (by kernel_rfl) (by kernel_rfl) (by kernel_rfl) (fun _ _ _ h => False.elim h) (Or.inl ⟨by rfl, ?_⟩) (H2.out.bx.cell 3) ?_
      · intro wx hSw
        go_simp
      simp only [Act.put, List.setIfInBounds_toArray, List.set_cons_zero, List.set_cons_succ]
      refine wpAnyH_ready (rs := [15]) (by kernel_rfl) (by simp) ?_
      refine AllReadyH.cons nat15 (fun K hK => ?_) AllReadyH.nil
      have xs : wq2.cell? ⟨F, 4, none⟩ = some (vb) := H2.out.bx.cell 4
      have xf := H2.out.bx.free
      go_simp
      have H3 := hide (H2.out.putB hGF)
      refine hK.out _ _ (H3.out.bx.cell 3) (fun _ => ?_)
      clear hK K xs xf H2
      generalize wq2.setCell ⟨F, 4, none⟩ (.slice (some ⟨g2, 0, none⟩) (ms.length + 1) cap2) = wq3 at H3 ⊢
      refine wpAnyH_done (by kernel_rfl) ?_ _
      refine NoPanic.normal ?_
      have L2 := H3
      clear H3
      generalize wq3 = W2 at L2 ⊢
      have HMS : Hid _ := hms1
      obtain ⟨y0, y1, y2⟩ : W2.cell? ⟨G, 0, none⟩ = some (.string u) ∧ W2.cell? ⟨G, 1, none⟩ = some (.int .i64 q) ∧ W2.cell? ⟨G, 2, none⟩ = some (.int .i64 k) := ⟨L2.out.eb.cell 0, L2.out.eb.cell 1, L2.out.eb.cell 2⟩
      go_wp2_with fail
      refine (ck _).mono ?_
      rintro e W3 ⟨rfl, hb3⟩
      have L3 := hide (L2.out.next hb3)
      clear hb3 L2 y0 y1 y2
      go_wp2_with fail
      refine (csr_base W3 F m p ah _ _ _ hm L3.out.bx).mono ?_
      rintro e W4 ⟨rfl, hb4⟩
      have L4 := hide (L3.out.next hb4)
      clear hb4 L3
      go_wp2_with fail
      refine (cs _).mono ?_
      rintro e W5 ⟨rfl, hb5⟩
      have L5 := hide (L4.out.next hb5).drew
      clear hb5 L4
      go_wp2_with fail
      refine wp_region_noPanic ?_
      refine wp_region_held_drew (S := fun y => y.cell? ⟨G, 3, none⟩ = some (.string x)) (by kernel_rfl) (L5.out.eb.cell 3) (fun _ => ?_)
      generalize W5.drew = W6 at L5 ⊢
      refine wpAnyH_take (i := 0) (v := .pointer (some ⟨F, 0, none⟩)) nat0 (by kernel_rfl) (by kernel_rfl) (by kernel_rfl) (fun _ _ _ h => False.elim h) (Or.inl ⟨by rfl, ?_⟩) (L5.out.eb.cell 3) ?_
      · intro wx hSw
        go_simp
      simp only [Act.put, List.setIfInBounds_toArray, List.set_cons_zero, List.set_cons_succ]
      refine wpAnyH_take (i := 1) (v := .pointer (some ⟨F, 0, none⟩)) nat1 (by kernel_rfl) (by kernel_rfl) (by kernel_rfl) (fun _ _ _ h => False.elim h) (Or.inl ⟨by rfl, ?_⟩) (L5.out.eb.cell 3) ?_
      · intro wx hSw
        go_simp
      simp only [Act.put, List.setIfInBounds_toArray, List.set_cons_zero, List.set_cons_succ]
      refine wpAnyH_take (i := 2) (v := .pointer (some ⟨F, 0, none⟩)) nat2 (by kernel_rfl) (by kernel_rfl) (by kernel_rfl) (fun _ _ _ h => False.elim h) (Or.inl ⟨by rfl, ?_⟩) (L5.out.eb.cell 3) ?_
      · intro wx hSw
        go_simp
      simp only [Act.put, List.setIfInBounds_toArray, List.set_cons_zero, List.set_cons_succ]
      refine wpAnyH_take (i := 3) (v := .pointer (some ⟨F, 3, none⟩)) nat3 (by kernel_rfl) (by kernel_rfl) (by kernel_rfl) (fun _ _ _ h => False.elim h) (Or.inl ⟨by rfl, ?_⟩) (L5.out.eb.cell 3) ?_
      · intro wx hSw
        go_simp
      simp only [Act.put, List.setIfInBounds_toArray, List.set_cons_zero, List.set_cons_succ]
      refine wpAnyH_take (i := 5) (v := .int .i64 (s : Int)) nat5 (by kernel_rfl) (by kernel_rfl) (by kernel_rfl) (fun _ _ _ h => False.elim h) (Or.inl ⟨by rfl, ?_⟩) (L5.out.eb.cell 3) ?_
      · intro wx hSw
        go_simp
      simp only [Act.put, List.setIfInBounds_toArray, List.set_cons_zero, List.set_cons_succ]
      refine wpAnyH_take (i := 6) (v := .int .u64 (s : Int)) nat6 (by kernel_rfl) (by kernel_rfl) (by kernel_rfl) (fun _ _ _ h => False.elim h) (Or.inl ⟨by rfl, ?_⟩) (L5.out.eb.cell 3) ?_
      · intro wx hSw
        go_simp
      simp only [Act.put, List.setIfInBounds_toArray, List.set_cons_zero, List.set_cons_succ]
      refine wpAnyH_take (i := 8) (v := .string kt) nat8 (by kernel_rfl) (by kernel_rfl) (by kernel_rfl) (fun _ _ _ h => False.elim h) (Or.inl ⟨by rfl, ?_⟩) (L5.out.eb.cell 3) ?_
      · intro wx hSw
        go_simp
      simp only [Act.put, List.setIfInBounds_toArray, List.set_cons_zero, List.set_cons_succ]
      refine wpAnyH_take (i := 9) (v := .int .i64 (s : Int)) nat9 (by kernel_rfl) (by kernel_rfl) (by kernel_rfl) (fun _ _ _ h => False.elim h) (Or.inl ⟨by rfl, ?_⟩) (L5.out.eb.cell 3) ?_
      · intro wx hSw
        go_simp
      simp only [Act.put, List.setIfInBounds_toArray, List.set_cons_zero, List.set_cons_succ]
      refine wpAnyH_take (i := 10) (v := .string (kt.extract s kt.size)) nat10 (by kernel_rfl) (by kernel_rfl) (by kernel_rfl) (fun _ _ _ h => False.elim h) (Or.inl ⟨by rfl, ?_⟩) (L5.out.eb.cell 3) ?_
      · intro wx hSw
        go_simp
      simp only [Act.put, List.setIfInBounds_toArray, List.set_cons_zero, List.set_cons_succ]
      refine wpAnyH_take (i := 13) (v := .pointer (some ⟨G, 3, none⟩)) nat13 (by kernel_rfl) (by kernel_rfl) (by kernel_rfl) (fun _ _ _ h => False.elim h) (Or.inl ⟨by rfl, ?_⟩) (L5.out.eb.cell 3) ?_
      · intro wx hSw
        go_simp
      simp only [Act.put, List.setIfInBounds_toArray, List.set_cons_zero, List.set_cons_succ]
      refine wpAnyH_take (i := 14) (v := .string x) nat14 (by kernel_rfl) (by kernel_rfl) (by kernel_rfl) (fun _ _ _ h => False.elim h) (Or.inl ⟨by rfl, ?_⟩) (L5.out.eb.cell 3) ?_
      · intro wx hSw
        have hSx : wx.cell? ⟨G, 3, none⟩ = some (.string x) := hSw
        go_simp
      simp only [Act.put, List.setIfInBounds_toArray, List.set_cons_zero, List.set_cons_succ]
      refine wpAnyH_ready (rs := [4, 7]) (by kernel_rfl) (by simp) ?_
      refine AllReadyH.cons nat4 (fun K hK => ?_) (AllReadyH.cons nat7 (fun K hK => ?_) AllReadyH.nil)
      · have xl : W6.cell? ⟨F, 3, none⟩ = some ((.slice ae bs.size ce)) := L5.out.bx.cell 3
        go_simp
        refine hK.out _ _ (L5.out.eb.cell 3) (fun _ => ?_)
        clear hK K xl
        refine wpAnyH_ready (rs := [7]) (by kernel_rfl) (by simp) ?_
        refine AllReadyH.cons nat7 (fun K hK => ?_) AllReadyH.nil
        go_simp
        go_at_call 58
        refine (impl_PutVar (s : Int) (by omega) (by omega) _).mono ?_
        rintro e wq1 ⟨rfl, hb1⟩
        have H1 := hide (L5.out.next hb1)
        refine hK.out _ _ (H1.out.eb.cell 3) (fun _ => ?_)
        clear hK K hb1 L5
        refine wpAnyH_ready (rs := [11]) (by kernel_rfl) (by simp) ?_
        refine AllReadyH.cons nat11 (fun K hK => ?_) AllReadyH.nil
        go_simp
        go_at_call 59
        refine (impl_PutText (kt.extract s kt.size) (by omega) _).mono ?_
        rintro e wq2 ⟨rfl, hb2⟩
        have H2 := hide (H1.out.next hb2)
        refine hK.out _ _ (H2.out.eb.cell 3) (fun _ => ?_)
        clear hK K hb2 H1
        refine wpAnyH_take (i := 12) (v := .string (pv s ++ putText (kt.extract s kt.size))) nat12 (by kernel_rfl) (by kernel_rfl) (by kernel_rfl) (fun _ _ _ h => False.elim h) (Or.inl ⟨by rfl, ?_⟩) (H2.out.eb.cell 3) ?_
        · intro wx hSw
          go_simp
        simp only [Act.put, List.setIfInBounds_toArray, List.set_cons_zero, List.set_cons_succ]
        refine wpAnyH_ready (rs := [15]) (by kernel_rfl) (by simp) ?_
        refine AllReadyH.cons nat15 (fun K hK => ?_) AllReadyH.nil
        go_simp
        go_at_call 59
        refine (impl_PutText x (by omega) _).mono ?_
        rintro e wq3 ⟨rfl, hb3⟩
        have H3 := hide (H2.out.next hb3)
        refine hK.out _ _ (H3.out.eb.cell 3) (fun _ => ?_)
        clear hK K hb3 H2
        refine wpAnyH_take (i := 16) (v := .string (pv s ++ putText (kt.extract s kt.size) ++ putText x)) nat16 (by kernel_rfl) (by kernel_rfl) (by kernel_rfl) (fun _ _ _ h => False.elim h) (Or.inl ⟨by rfl, ?_⟩) (H3.out.eb.cell 3) ?_
        · intro wx hSw
          go_simp
        simp only [Act.put, List.setIfInBounds_toArray, List.set_cons_zero, List.set_cons_succ]
        refine wpAnyH_ready (rs := [17]) (by kernel_rfl) (by simp) ?_
        refine AllReadyH.cons nat17 (fun K hK => ?_) AllReadyH.nil
        refine step_append_text (P := Try.prog) rfl (.tmp 38) (.tmp 50) 22 9 rfl B 5 i0 Try.underlying22 Try.underlying9 hi0 hz0 hz1 hz2 (.slice ae bs.size ce) _ _ (by rfl) H3.out.oe (pv s ++ putText (kt.extract s kt.size) ++ putText x) (by rfl) (by unfold maxLen; omega) (by omega) H3.out.hB ?_
        intro v4 wq4 how4 hgr4
        obtain ⟨av4, cv4, rfl⟩ := row_shape how4
        have H4 := hide (H3.out.appE _ how4 hgr4)
        clear how4
        generalize bs.size + (pv s ++ putText (kt.extract s kt.size) ++ putText x).size = nn4 at H4 ⊢
        refine hK.out _ _ (H4.out.eb.cell 3) (fun _ => ?_)
        clear hK K hgr4 H3
        simp only [Act.put, List.setIfInBounds_toArray, List.set_cons_zero, List.set_cons_succ]
        refine wpAnyH_take (i := 18) (v := .pointer (some ⟨F, 0, none⟩)) nat18 (by kernel_rfl) (by kernel_rfl) (by kernel_rfl) (fun _ _ _ h => False.elim h) (Or.inl ⟨by rfl, ?_⟩) (H4.out.eb.cell 3) ?_
        · intro wx hSw
          go_simp
        simp only [Act.put, List.setIfInBounds_toArray, List.set_cons_zero, List.set_cons_succ]
        refine wpAnyH_take (i := 19) (v := .pointer (some ⟨F, 3, none⟩)) nat19 (by kernel_rfl) (by kernel_rfl) (by kernel_rfl) (fun _ _ _ h => False.elim h) (Or.inl ⟨by rfl, ?_⟩) (H4.out.eb.cell 3) ?_
        · intro wx hSw
          go_simp
        simp only [Act.put, List.setIfInBounds_toArray, List.set_cons_zero, List.set_cons_succ]
        refine wpAnyH_ready (rs := [20]) (by kernel_rfl) (by simp) ?_
        refine AllReadyH.cons nat20 (fun K hK => ?_) AllReadyH.nil
        have xs : wq4.cell? ⟨F, 3, none⟩ = some ((.slice ae bs.size ce)) := H4.out.bx.cell 3
        have xf := H4.out.bx.free
        go_simp
        have H5 := hide (H4.out.putE hGF)
        refine hK.out _ _ (H5.out.eb.cell 3) (fun _ => ?_)
        clear hK K xs xf H4
        generalize wq4.setCell ⟨F, 3, none⟩ (.slice av4 nn4 cv4) = wq5 at H5 ⊢
        refine wpAnyH_done (by kernel_rfl) ?_ _
        refine NoPanic.normal ?_
        clear hsl t1 t2
        go_wp2_with fail
        refine (csr_pass _ F m p ah kt _ _ _ hp H5.out.bx).mono ?_
        rintro e W9 ⟨rfl, hx9, hm9⟩
        have L9 := hide (H5.out.pass hx9 hm9 hGF)
        clear hx9 hm9 H5
        go_wp2
        refine bodyPost_end (results_none rfl _ _ _) rfl ⟨rfl, ⟨_, _, ⟨L9.out.bx, ?_, ?_, L9.out.n1, L9.out.hB⟩⟩, L9.out.low⟩
        · rw [HET.out]; exact L9.out.oe
        · rw [HMS.out]; exact L9.out.ob
      · go_simp
        go_at_call 58
        refine (impl_PutVar (s : Int) (by omega) (by omega) _).mono ?_
        rintro e wq6 ⟨rfl, hb6⟩
        have H6 := hide (L5.out.next hb6)
        refine hK.out _ _ (H6.out.eb.cell 3) (fun _ => ?_)
        clear hK K hb6 L5
        refine wpAnyH_ready (rs := [4, 11]) (by kernel_rfl) (by simp) ?_
        refine AllReadyH.cons nat4 (fun K hK => ?_) (AllReadyH.cons nat11 (fun K hK => ?_) AllReadyH.nil)
        · have xl : wq6.cell? ⟨F, 3, none⟩ = some ((.slice ae bs.size ce)) := H6.out.bx.cell 3
          go_simp
          refine hK.out _ _ (H6.out.eb.cell 3) (fun _ => ?_)
          clear hK K xl
          refine wpAnyH_ready (rs := [11]) (by kernel_rfl) (by simp) ?_
          refine AllReadyH.cons nat11 (fun K hK => ?_) AllReadyH.nil
          go_simp
          go_at_call 59
          refine (impl_PutText (kt.extract s kt.size) (by omega) _).mono ?_
          rintro e wq8 ⟨rfl, hb8⟩
          have H8 := hide (H6.out.next hb8)
          refine hK.out _ _ (H8.out.eb.cell 3) (fun _ => ?_)
          clear hK K hb8 H6
          refine wpAnyH_take (i := 12) (v := .string (pv s ++ putText (kt.extract s kt.size))) nat12 (by kernel_rfl) (by kernel_rfl) (by kernel_rfl) (fun _ _ _ h => False.elim h) (Or.inl ⟨by rfl, ?_⟩) (H8.out.eb.cell 3) ?_
          · intro wx hSw
            go_simp
          simp only [Act.put, List.setIfInBounds_toArray, List.set_cons_zero, List.set_cons_succ]
          refine wpAnyH_ready (rs := [15]) (by kernel_rfl) (by simp) ?_
          refine AllReadyH.cons nat15 (fun K hK => ?_) AllReadyH.nil
          go_simp
          go_at_call 59
          refine (impl_PutText x (by omega) _).mono ?_
          rintro e wq9 ⟨rfl, hb9⟩
          have H9 := hide (H8.out.next hb9)
          refine hK.out _ _ (H9.out.eb.cell 3) (fun _ => ?_)
          clear hK K hb9 H8
          refine wpAnyH_take (i := 16) (v := .string (pv s ++ putText (kt.extract s kt.size) ++ putText x)) nat16 (by kernel_rfl) (by kernel_rfl) (by kernel_rfl) (fun _ _ _ h => False.elim h) (Or.inl ⟨by rfl, ?_⟩) (H9.out.eb.cell 3) ?_
          · intro wx hSw
            go_simp
          simp only [Act.put, List.setIfInBounds_toArray, List.set_cons_zero, List.set_cons_succ]
          refine wpAnyH_ready (rs := [17]) (by kernel_rfl) (by simp) ?_
          refine AllReadyH.cons nat17 (fun K hK => ?_) AllReadyH.nil
          refine step_append_text (P := Try.prog) rfl (.tmp 38) (.tmp 50) 22 9 rfl B 5 i0 Try.underlying22 Try.underlying9 hi0 hz0 hz1 hz2 (.slice ae bs.size ce) _ _ (by rfl) H9.out.oe (pv s ++ putText (kt.extract s kt.size) ++ putText x) (by rfl) (by unfold maxLen; omega) (by omega) H9.out.hB ?_
          intro v10 wq10 how10 hgr10
          obtain ⟨av10, cv10, rfl⟩ := row_shape how10
          have H10 := hide (H9.out.appE _ how10 hgr10)
          clear how10
          generalize bs.size + (pv s ++ putText (kt.extract s kt.size) ++ putText x).size = nn10 at H10 ⊢
          refine hK.out _ _ (H10.out.eb.cell 3) (fun _ => ?_)
          clear hK K hgr10 H9
          simp only [Act.put, List.setIfInBounds_toArray, List.set_cons_zero, List.set_cons_succ]
          refine wpAnyH_take (i := 18) (v := .pointer (some ⟨F, 0, none⟩)) nat18 (by kernel_rfl) (by kernel_rfl) (by kernel_rfl) (fun _ _ _ h => False.elim h) (Or.inl ⟨by rfl, ?_⟩) (H10.out.eb.cell 3) ?_
          · intro wx hSw
            go_simp
          simp only [Act.put, List.setIfInBounds_toArray, List.set_cons_zero, List.set_cons_succ]
          refine wpAnyH_take (i := 19) (v := .pointer (some ⟨F, 3, none⟩)) nat19 (by kernel_rfl) (by kernel_rfl) (by kernel_rfl) (fun _ _ _ h => False.elim h) (Or.inl ⟨by rfl, ?_⟩) (H10.out.eb.cell 3) ?_
          · intro wx hSw
            go_simp
          simp only [Act.put, List.setIfInBounds_toArray, List.set_cons_zero, List.set_cons_succ]
          refine wpAnyH_ready (rs := [20]) (by kernel_rfl) (by simp) ?_
          refine AllReadyH.cons nat20 (fun K hK => ?_) AllReadyH.nil
          have xs : wq10.cell? ⟨F, 3, none⟩ = some ((.slice ae bs.size ce)) := H10.out.bx.cell 3
          have xf := H10.out.bx.free
          go_simp
          have H11 := hide (H10.out.putE hGF)
          refine hK.out _ _ (H11.out.eb.cell 3) (fun _ => ?_)
          clear hK K xs xf H10
          generalize wq10.setCell ⟨F, 3, none⟩ (.slice av10 nn10 cv10) = wq11 at H11 ⊢
          refine wpAnyH_done (by kernel_rfl) ?_ _
          refine NoPanic.normal ?_
          clear hsl t1 t2
          go_wp2_with fail
          refine (csr_pass _ F m p ah kt _ _ _ hp H11.out.bx).mono ?_
          rintro e W9 ⟨rfl, hx9, hm9⟩
          have L9 := hide (H11.out.pass hx9 hm9 hGF)
          clear hx9 hm9 H11
          go_wp2
          refine bodyPost_end (results_none rfl _ _ _) rfl ⟨rfl, ⟨_, _, ⟨L9.out.bx, ?_, ?_, L9.out.n1, L9.out.hB⟩⟩, L9.out.low⟩
          · rw [HET.out]; exact L9.out.oe
          · rw [HMS.out]; exact L9.out.ob
        · go_simp
          go_at_call 59
          refine (impl_PutText (kt.extract s kt.size) (by omega) _).mono ?_
          rintro e wq12 ⟨rfl, hb12⟩
          have H12 := hide (H6.out.next hb12)
          refine hK.out _ _ (H12.out.eb.cell 3) (fun _ => ?_)
          clear hK K hb12 H6
          refine wpAnyH_take (i := 12) (v := .string (pv s ++ putText (kt.extract s kt.size))) nat12 (by kernel_rfl) (by kernel_rfl) (by kernel_rfl) (fun _ _ _ h => False.elim h) (Or.inl ⟨by rfl, ?_⟩) (H12.out.eb.cell 3) ?_
          · intro wx hSw
            go_simp
          simp only [Act.put, List.setIfInBounds_toArray, List.set_cons_zero, List.set_cons_succ]
          refine wpAnyH_ready (rs := [4, 15]) (by kernel_rfl) (by simp) ?_
          refine AllReadyH.cons nat4 (fun K hK => ?_) (AllReadyH.cons nat15 (fun K hK => ?_) AllReadyH.nil)
          · have xl : wq12.cell? ⟨F, 3, none⟩ = some ((.slice ae bs.size ce)) := H12.out.bx.cell 3
            go_simp
            refine hK.out _ _ (H12.out.eb.cell 3) (fun _ => ?_)
            clear hK K xl
            refine wpAnyH_ready (rs := [15]) (by kernel_rfl) (by simp) ?_
            refine AllReadyH.cons nat15 (fun K hK => ?_) AllReadyH.nil
            go_simp
            go_at_call 59
            refine (impl_PutText x (by omega) _).mono ?_
            rintro e wq14 ⟨rfl, hb14⟩
            have H14 := hide (H12.out.next hb14)
            refine hK.out _ _ (H14.out.eb.cell 3) (fun _ => ?_)
            clear hK K hb14 H12
            refine wpAnyH_take (i := 16) (v := .string (pv s ++ putText (kt.extract s kt.size) ++ putText x)) nat16 (by kernel_rfl) (by kernel_rfl) (by kernel_rfl) (fun _ _ _ h => False.elim h) (Or.inl ⟨by rfl, ?_⟩) (H14.out.eb.cell 3) ?_
            · intro wx hSw
              go_simp
            simp only [Act.put, List.setIfInBounds_toArray, List.set_cons_zero, List.set_cons_succ]
            refine wpAnyH_ready (rs := [17]) (by kernel_rfl) (by simp) ?_
            refine AllReadyH.cons nat17 (fun K hK => ?_) AllReadyH.nil
            refine step_append_text (P := Try.prog) rfl (.tmp 38) (.tmp 50) 22 9 rfl B 5 i0 Try.underlying22 Try.underlying9 hi0 hz0 hz1 hz2 (.slice ae bs.size ce) _ _ (by rfl) H14.out.oe (pv s ++ putText (kt.extract s kt.size) ++ putText x) (by rfl) (by unfold maxLen; omega) (by omega) H14.out.hB ?_
            intro v15 wq15 how15 hgr15
            obtain ⟨av15, cv15, rfl⟩ := row_shape how15
            have H15 := hide (H14.out.appE _ how15 hgr15)
            clear how15
            generalize bs.size + (pv s ++ putText (kt.extract s kt.size) ++ putText x).size = nn15 at H15 ⊢
            refine hK.out _ _ (H15.out.eb.cell 3) (fun _ => ?_)
            clear hK K hgr15 H14
            simp only [Act.put, List.setIfInBounds_toArray, List.set_cons_zero, List.set_cons_succ]
            refine wpAnyH_take (i := 18) (v := .pointer (some ⟨F, 0, none⟩)) nat18 (by kernel_rfl) (by kernel_rfl) (by kernel_rfl) (fun _ _ _ h => False.elim h) (Or.inl ⟨by rfl, ?_⟩) (H15.out.eb.cell 3) ?_
            · intro wx hSw
              go_simp
            simp only [Act.put, List.setIfInBounds_toArray, List.set_cons_zero, List.set_cons_succ]
            refine wpAnyH_take (i := 19) (v := .pointer (some ⟨F, 3, none⟩)) nat19 (by kernel_rfl) (by kernel_rfl) (by kernel_rfl) (fun _ _ _ h => False.elim h) (Or.inl ⟨by rfl, ?_⟩) (H15.out.eb.cell 3) ?_
            · intro wx hSw
              go_simp
            simp only [Act.put, List.setIfInBounds_toArray, List.set_cons_zero, List.set_cons_succ]
            refine wpAnyH_ready (rs := [20]) (by kernel_rfl) (by simp) ?_
            refine AllReadyH.cons nat20 (fun K hK => ?_) AllReadyH.nil
            have xs : wq15.cell? ⟨F, 3, none⟩ = some ((.slice ae bs.size ce)) := H15.out.bx.cell 3
            have xf := H15.out.bx.free
            go_simp
            have H16 := hide (H15.out.putE hGF)
            refine hK.out _ _ (H16.out.eb.cell 3) (fun _ => ?_)
            clear hK K xs xf H15
            generalize wq15.setCell ⟨F, 3, none⟩ (.slice av15 nn15 cv15) = wq16 at H16 ⊢
            refine wpAnyH_done (by kernel_rfl) ?_ _
            refine NoPanic.normal ?_
            clear hsl t1 t2
            go_wp2_with fail
            refine (csr_pass _ F m p ah kt _ _ _ hp H16.out.bx).mono ?_
            rintro e W9 ⟨rfl, hx9, hm9⟩
            have L9 := hide (H16.out.pass hx9 hm9 hGF)
            clear hx9 hm9 H16
            go_wp2
            refine bodyPost_end (results_none rfl _ _ _) rfl ⟨rfl, ⟨_, _, ⟨L9.out.bx, ?_, ?_, L9.out.n1, L9.out.hB⟩⟩, L9.out.low⟩
            · rw [HET.out]; exact L9.out.oe
            · rw [HMS.out]; exact L9.out.ob
          · go_simp
            go_at_call 59
            refine (impl_PutText x (by omega) _).mono ?_
            rintro e wq17 ⟨rfl, hb17⟩
            have H17 := hide (H12.out.next hb17)
            refine hK.out _ _ (H17.out.eb.cell 3) (fun _ => ?_)
            clear hK K hb17 H12
            refine wpAnyH_take (i := 16) (v := .string (pv s ++ putText (kt.extract s kt.size) ++ putText x)) nat16 (by kernel_rfl) (by kernel_rfl) (by kernel_rfl) (fun _ _ _ h => False.elim h) (Or.inl ⟨by rfl, ?_⟩) (H17.out.eb.cell 3) ?_
            · intro wx hSw
              go_simp
            simp only [Act.put, List.setIfInBounds_toArray, List.set_cons_zero, List.set_cons_succ]
            refine wpAnyH_ready (rs := [4]) (by kernel_rfl) (by simp) ?_
            refine AllReadyH.cons nat4 (fun K hK => ?_) AllReadyH.nil
            have xl : wq17.cell? ⟨F, 3, none⟩ = some ((.slice ae bs.size ce)) := H17.out.bx.cell 3
            go_simp
            refine hK.out _ _ (H17.out.eb.cell 3) (fun _ => ?_)
            clear hK K xl
            refine wpAnyH_ready (rs := [17]) (by kernel_rfl) (by simp) ?_
            refine AllReadyH.cons nat17 (fun K hK => ?_) AllReadyH.nil
            refine step_append_text (P := Try.prog) rfl (.tmp 38) (.tmp 50) 22 9 rfl B 5 i0 Try.underlying22 Try.underlying9 hi0 hz0 hz1 hz2 (.slice ae bs.size ce) _ _ (by rfl) H17.out.oe (pv s ++ putText (kt.extract s kt.size) ++ putText x) (by rfl) (by unfold maxLen; omega) (by omega) H17.out.hB ?_
            intro v19 wq19 how19 hgr19
            obtain ⟨av19, cv19, rfl⟩ := row_shape how19
            have H19 := hide (H17.out.appE _ how19 hgr19)
            clear how19
            generalize bs.size + (pv s ++ putText (kt.extract s kt.size) ++ putText x).size = nn19 at H19 ⊢
            refine hK.out _ _ (H19.out.eb.cell 3) (fun _ => ?_)
            clear hK K hgr19 H17
            simp only [Act.put, List.setIfInBounds_toArray, List.set_cons_zero, List.set_cons_succ]
            refine wpAnyH_take (i := 18) (v := .pointer (some ⟨F, 0, none⟩)) nat18 (by kernel_rfl) (by kernel_rfl) (by kernel_rfl) (fun _ _ _ h => False.elim h) (Or.inl ⟨by rfl, ?_⟩) (H19.out.eb.cell 3) ?_
            · intro wx hSw
              go_simp
            simp only [Act.put, List.setIfInBounds_toArray, List.set_cons_zero, List.set_cons_succ]
            refine wpAnyH_take (i := 19) (v := .pointer (some ⟨F, 3, none⟩)) nat19 (by kernel_rfl) (by kernel_rfl) (by kernel_rfl) (fun _ _ _ h => False.elim h) (Or.inl ⟨by rfl, ?_⟩) (H19.out.eb.cell 3) ?_
            · intro wx hSw
              go_simp
            simp only [Act.put, List.setIfInBounds_toArray, List.set_cons_zero, List.set_cons_succ]
            refine wpAnyH_ready (rs := [20]) (by kernel_rfl) (by simp) ?_
            refine AllReadyH.cons nat20 (fun K hK => ?_) AllReadyH.nil
            have xs : wq19.cell? ⟨F, 3, none⟩ = some ((.slice ae bs.size ce)) := H19.out.bx.cell 3
            have xf := H19.out.bx.free
            go_simp
            have H20 := hide (H19.out.putE hGF)
            refine hK.out _ _ (H20.out.eb.cell 3) (fun _ => ?_)
            clear hK K xs xf H19
            generalize wq19.setCell ⟨F, 3, none⟩ (.slice av19 nn19 cv19) = wq20 at H20 ⊢
            refine wpAnyH_done (by kernel_rfl) ?_ _
            refine NoPanic.normal ?_
            clear hsl t1 t2
            go_wp2_with fail
            refine (csr_pass _ F m p ah kt _ _ _ hp H20.out.bx).mono ?_
            rintro e W9 ⟨rfl, hx9, hm9⟩
            have L9 := hide (H20.out.pass hx9 hm9 hGF)
            clear hx9 hm9 H20
            go_wp2
            refine bodyPost_end (results_none rfl _ _ _) rfl ⟨rfl, ⟨_, _, ⟨L9.out.bx, ?_, ?_, L9.out.n1, L9.out.hB⟩⟩, L9.out.low⟩
            · rw [HET.out]; exact L9.out.oe
            · rw [HMS.out]; exact L9.out.ob
    · go_simp
      have hsrc4 : ∀ j u, ([.int .u32 (bs.size : Int)] : List Value)[j]? = some u → (W6.alloc (.cells #[.int .u32 (bs.size : Int)] 58)).cell? ((⟨W6.heap.size, 0, none⟩ : Addr).add j) = some u := World.news_of_block (fr := (0, 0)) (heap_alloc_new W6 _)
      have H4 := hide (L1.out.laid (.cells #[.int .u32 (bs.size : Int)] 58))
      refine hK.out _ _ (H4.out.bx.cell 3) (fun _ => ?_)
      clear hK K
      generalize W6.alloc (.cells #[.int .u32 (bs.size : Int)] 58) = wq4 at H4 hsrc4 ⊢
      clear L1
      refine wpAnyH_ready (rs := [4]) (by kernel_rfl) (by simp) ?_
      refine AllReadyH.cons nat4 (fun K hK => ?_) AllReadyH.nil
      have xl : wq4.cell? ⟨F, 4, none⟩ = some (vb) := H4.out.bx.cell 4
      go_simp
      refine hK.out _ _ (H4.out.bx.cell 3) (fun _ => ?_)
      clear hK K xl
      refine wpAnyH_ready (rs := [12]) (by kernel_rfl) (by simp) ?_
      refine AllReadyH.cons nat12 (fun K hK => ?_) AllReadyH.nil
      refine step_append_lies (P := Try.prog) wq4 rfl (.tmp 14) (.tmp 21) 49 rfl B 58 j0 _ 1 4 Try.underlying49 hj0 hy0 hy1 hy2 rfl (by decide) vb _ _ (by rfl) H4.out.ob ⟨W6.heap.size, 0, none⟩ 1 1 [.int .u32 (bs.size : Int)] (by rfl) rfl hsrc4 (by intro z hz; simp at hz; subst hz; rfl) (by decide) (by unfold maxLen; omega) (by omega) H4.out.hB _ rfl ?_
      intro g6 cap6 wq6 how6 hgr6 _ _
      have H6 := hide (H4.out.appB _ how6 hgr6)
      refine hK.out _ _ (H6.out.bx.cell 3) (fun _ => ?_)
      clear hK K how6 hgr6 H4 hsrc4
      simp only [Act.put, List.setIfInBounds_toArray, List.set_cons_zero, List.set_cons_succ]
      refine wpAnyH_take (i := 13) (v := .pointer (some ⟨F, 0, none⟩)) nat13 (by kernel_rfl) (by kernel_rfl) (by kernel_rfl) (fun _ _ _ h => False.elim h) (Or.inl ⟨by rfl, ?_⟩) (H6.out.bx.cell 3) ?_
      · intro wx hSw
        go_simp
      simp only [Act.put, List.setIfInBounds_toArray, List.set_cons_zero, List.set_cons_succ]
      refine wpAnyH_take (i := 14) (v := .pointer (some ⟨F, 4, none⟩)) nat14 (by kernel_rfl) (by kernel_rfl) (by kernel_rfl) (fun _ _ _ h => False.elim h) (Or.inl ⟨by rfl, ?_⟩) (H6.out.bx.cell 3) ?_
      · intro wx hSw
        go_simp
      simp only [Act.put, List.setIfInBounds_toArray, List.set_cons_zero, List.set_cons_succ]
      refine wpAnyH_ready (rs := [15]) (by kernel_rfl) (by simp) ?_
      refine AllReadyH.cons nat15 (fun K hK => ?_) AllReadyH.nil
      have xs : wq6.cell? ⟨F, 4, none⟩ = some (vb) := H6.out.bx.cell 4
      have xf := H6.out.bx.free
      go_simp
      have H7 := hide (H6.out.putB hGF)
      refine hK.out _ _ (H7.out.bx.cell 3) (fun _ => ?_)
      clear hK K xs xf H6
      generalize wq6.setCell ⟨F, 4, none⟩ (.slice (some ⟨g6, 0, none⟩) (ms.length + 1) cap6) = wq7 at H7 ⊢
      refine wpAnyH_done (by kernel_rfl) ?_ _
      refine NoPanic.normal ?_
      have L2 := H7
      clear H7
      generalize wq7 = W2 at L2 ⊢
      have HMS : Hid _ := hms1
      obtain ⟨y0, y1, y2⟩ : W2.cell? ⟨G, 0, none⟩ = some (.string u) ∧ W2.cell? ⟨G, 1, none⟩ = some (.int .i64 q) ∧ W2.cell? ⟨G, 2, none⟩ = some (.int .i64 k) := ⟨L2.out.eb.cell 0, L2.out.eb.cell 1, L2.out.eb.cell 2⟩
      go_wp2_with fail
      refine (ck _).mono ?_
      rintro e W3 ⟨rfl, hb3⟩
      have L3 := hide (L2.out.next hb3)
      clear hb3 L2 y0 y1 y2
      go_wp2_with fail
      refine (csr_base W3 F m p ah _ _ _ hm L3.out.bx).mono ?_
      rintro e W4 ⟨rfl, hb4⟩
      have L4 := hide (L3.out.next hb4)
      clear hb4 L3
      go_wp2_with fail
      refine (cs _).mono ?_
      rintro e W5 ⟨rfl, hb5⟩
      have L5 := hide (L4.out.next hb5).drew
      clear hb5 L4
      go_wp2_with fail
      refine wp_region_noPanic ?_
      refine wp_region_held_drew (S := fun y => y.cell? ⟨G, 3, none⟩ = some (.string x)) (by kernel_rfl) (L5.out.eb.cell 3) (fun _ => ?_)
      generalize W5.drew = W6 at L5 ⊢
      refine wpAnyH_take (i := 0) (v := .pointer (some ⟨F, 0, none⟩)) nat0 (by kernel_rfl) (by kernel_rfl) (by kernel_rfl) (fun _ _ _ h => False.elim h) (Or.inl ⟨by rfl, ?_⟩) (L5.out.eb.cell 3) ?_
      · intro wx hSw
        go_simp
      simp only [Act.put, List.setIfInBounds_toArray, List.set_cons_zero, List.set_cons_succ]
      refine wpAnyH_take (i := 1) (v := .pointer (some ⟨F, 0, none⟩)) nat1 (by kernel_rfl) (by kernel_rfl) (by kernel_rfl) (fun _ _ _ h => False.elim h) (Or.inl ⟨by rfl, ?_⟩) (L5.out.eb.cell 3) ?_
      · intro wx hSw
        go_simp
      simp only [Act.put, List.setIfInBounds_toArray, List.set_cons_zero, List.set_cons_succ]
      refine wpAnyH_take (i := 2) (v := .pointer (some ⟨F, 0, none⟩)) nat2 (by kernel_rfl) (by kernel_rfl) (by kernel_rfl) (fun _ _ _ h => False.elim h) (Or.inl ⟨by rfl, ?_⟩) (L5.out.eb.cell 3) ?_
      · intro wx hSw
        go_simp
      simp only [Act.put, List.setIfInBounds_toArray, List.set_cons_zero, List.set_cons_succ]
      refine wpAnyH_take (i := 3) (v := .pointer (some ⟨F, 3, none⟩)) nat3 (by kernel_rfl) (by kernel_rfl) (by kernel_rfl) (fun _ _ _ h => False.elim h) (Or.inl ⟨by rfl, ?_⟩) (L5.out.eb.cell 3) ?_
      · intro wx hSw
        go_simp
      simp only [Act.put, List.setIfInBounds_toArray, List.set_cons_zero, List.set_cons_succ]
      refine wpAnyH_take (i := 5) (v := .int .i64 (s : Int)) nat5 (by kernel_rfl) (by kernel_rfl) (by kernel_rfl) (fun _ _ _ h => False.elim h) (Or.inl ⟨by rfl, ?_⟩) (L5.out.eb.cell 3) ?_
      · intro wx hSw
        go_simp
      simp only [Act.put, List.setIfInBounds_toArray, List.set_cons_zero, List.set_cons_succ]
      refine wpAnyH_take (i := 6) (v := .int .u64 (s : Int)) nat6 (by kernel_rfl) (by kernel_rfl) (by kernel_rfl) (fun _ _ _ h => False.elim h) (Or.inl ⟨by rfl, ?_⟩) (L5.out.eb.cell 3) ?_
      · intro wx hSw
        go_simp
      simp only [Act.put, List.setIfInBounds_toArray, List.set_cons_zero, List.set_cons_succ]
      refine wpAnyH_take (i := 8) (v := .string kt) nat8 (by kernel_rfl) (by kernel_rfl) (by kernel_rfl) (fun _ _ _ h => False.elim h) (Or.inl ⟨by rfl, ?_⟩) (L5.out.eb.cell 3) ?_
      · intro wx hSw
        go_simp
      simp only [Act.put, List.setIfInBounds_toArray, List.set_cons_zero, List.set_cons_succ]
      refine wpAnyH_take (i := 9) (v := .int .i64 (s : Int)) nat9 (by kernel_rfl) (by kernel_rfl) (by kernel_rfl) (fun _ _ _ h => False.elim h) (Or.inl ⟨by rfl, ?_⟩) (L5.out.eb.cell 3) ?_
      · intro wx hSw
        go_simp
      simp only [Act.put, List.setIfInBounds_toArray, List.set_cons_zero, List.set_cons_succ]
      refine wpAnyH_take (i := 10) (v := .string (kt.extract s kt.size)) nat10 (by kernel_rfl) (by kernel_rfl) (by kernel_rfl) (fun _ _ _ h => False.elim h) (Or.inl ⟨by rfl, ?_⟩) (L5.out.eb.cell 3) ?_
      · intro wx hSw
        go_simp
      simp only [Act.put, List.setIfInBounds_toArray, List.set_cons_zero, List.set_cons_succ]
      refine wpAnyH_take (i := 13) (v := .pointer (some ⟨G, 3, none⟩)) nat13 (by kernel_rfl) (by kernel_rfl) (by kernel_rfl) (fun _ _ _ h => False.elim h) (Or.inl ⟨by rfl, ?_⟩) (L5.out.eb.cell 3) ?_
      · intro wx hSw
        go_simp
      simp only [Act.put, List.setIfInBounds_toArray, List.set_cons_zero, List.set_cons_succ]
      refine wpAnyH_take (i := 14) (v := .string x) nat14 (by kernel_rfl) (by kernel_rfl) (by kernel_rfl) (fun _ _ _ h => False.elim h) (Or.inl ⟨by rfl, ?_⟩) (L5.out.eb.cell 3) ?_
      · intro wx hSw
        have hSx : wx.cell? ⟨G, 3, none⟩ = some (.string x) := hSw
        go_simp
      simp only [Act.put, List.setIfInBounds_toArray, List.set_cons_zero, List.set_cons_succ]
      refine wpAnyH_ready (rs := [4, 7]) (by kernel_rfl) (by simp) ?_
      refine AllReadyH.cons nat4 (fun K hK => ?_) (AllReadyH.cons nat7 (fun K hK => ?_) AllReadyH.nil)
      · have xl : W6.cell? ⟨F, 3, none⟩ = some ((.slice ae bs.size ce)) := L5.out.bx.cell 3
        go_simp
        refine hK.out _ _ (L5.out.eb.cell 3) (fun _ => ?_)
        clear hK K xl
        refine wpAnyH_ready (rs := [7]) (by kernel_rfl) (by simp) ?_
        refine AllReadyH.cons nat7 (fun K hK => ?_) AllReadyH.nil
        go_simp
        go_at_call 58
        refine (impl_PutVar (s : Int) (by omega) (by omega) _).mono ?_
        rintro e wq1 ⟨rfl, hb1⟩
        have H1 := hide (L5.out.next hb1)
        refine hK.out _ _ (H1.out.eb.cell 3) (fun _ => ?_)
        clear hK K hb1 L5
        refine wpAnyH_ready (rs := [11]) (by kernel_rfl) (by simp) ?_
        refine AllReadyH.cons nat11 (fun K hK => ?_) AllReadyH.nil
        go_simp
        go_at_call 59
        refine (impl_PutText (kt.extract s kt.size) (by omega) _).mono ?_
        rintro e wq2 ⟨rfl, hb2⟩
        have H2 := hide (H1.out.next hb2)
        refine hK.out _ _ (H2.out.eb.cell 3) (fun _ => ?_)
        clear hK K hb2 H1
        refine wpAnyH_take (i := 12) (v := .string (pv s ++ putText (kt.extract s kt.size))) nat12 (by kernel_rfl) (by kernel_rfl) (by kernel_rfl) (fun _ _ _ h => False.elim h) (Or.inl ⟨by rfl, ?_⟩) (H2.out.eb.cell 3) ?_
        · intro wx hSw
          go_simp
        simp only [Act.put, List.setIfInBounds_toArray, List.set_cons_zero, List.set_cons_succ]
        refine wpAnyH_ready (rs := [15]) (by kernel_rfl) (by simp) ?_
        refine AllReadyH.cons nat15 (fun K hK => ?_) AllReadyH.nil
        go_simp
        go_at_call 59
        refine (impl_PutText x (by omega) _).mono ?_
        rintro e wq3 ⟨rfl, hb3⟩
        have H3 := hide (H2.out.next hb3)
        refine hK.out _ _ (H3.out.eb.cell 3) (fun _ => ?_)
        clear hK K hb3 H2
        refine wpAnyH_take (i := 16) (v := .string (pv s ++ putText (kt.extract s kt.size) ++ putText x)) nat16 (by kernel_rfl) (by kernel_rfl) (by kernel_rfl) (fun _ _ _ h => False.elim h) (Or.inl ⟨by rfl, ?_⟩) (H3.out.eb.cell 3) ?_
        · intro wx hSw
          go_simp
        simp only [Act.put, List.setIfInBounds_toArray, List.set_cons_zero, List.set_cons_succ]
        refine wpAnyH_ready (rs := [17]) (by kernel_rfl) (by simp) ?_
        refine AllReadyH.cons nat17 (fun K hK => ?_) AllReadyH.nil
        refine step_append_text (P := Try.prog) rfl (.tmp 38) (.tmp 50) 22 9 rfl B 5 i0 Try.underlying22 Try.underlying9 hi0 hz0 hz1 hz2 (.slice ae bs.size ce) _ _ (by rfl) H3.out.oe (pv s ++ putText (kt.extract s kt.size) ++ putText x) (by rfl) (by unfold maxLen; omega) (by omega) H3.out.hB ?_
        intro v4 wq4 how4 hgr4
        obtain ⟨av4, cv4, rfl⟩ := row_shape how4
        have H4 := hide (H3.out.appE _ how4 hgr4)
        clear how4
        generalize bs.size + (pv s ++ putText (kt.extract s kt.size) ++ putText x).size = nn4 at H4 ⊢
        refine hK.out _ _ (H4.out.eb.cell 3) (fun _ => ?_)
        clear hK K hgr4 H3
        simp only [Act.put, List.setIfInBounds_toArray, List.set_cons_zero, List.set_cons_succ]
        refine wpAnyH_take (i := 18) (v := .pointer (some ⟨F, 0, none⟩)) nat18 (by kernel_rfl) (by kernel_rfl) (by kernel_rfl) (fun _ _ _ h => False.elim h) (Or.inl ⟨by rfl, ?_⟩) (H4.out.eb.cell 3) ?_
        · intro wx hSw
          go_simp
        simp only [Act.put, List.setIfInBounds_toArray, List.set_cons_zero, List.set_cons_succ]
        refine wpAnyH_take (i := 19) (v := .pointer (some ⟨F, 3, none⟩)) nat19 (by kernel_rfl) (by kernel_rfl) (by kernel_rfl) (fun _ _ _ h => False.elim h) (Or.inl ⟨by rfl, ?_⟩) (H4.out.eb.cell 3) ?_
        · intro wx hSw
          go_simp
        simp only [Act.put, List.setIfInBounds_toArray, List.set_cons_zero, List.set_cons_succ]
        refine wpAnyH_ready (rs := [20]) (by kernel_rfl) (by simp) ?_
        refine AllReadyH.cons nat20 (fun K hK => ?_) AllReadyH.nil
        have xs : wq4.cell? ⟨F, 3, none⟩ = some ((.slice ae bs.size ce)) := H4.out.bx.cell 3
        have xf := H4.out.bx.free
        go_simp
        have H5 := hide (H4.out.putE hGF)
        refine hK.out _ _ (H5.out.eb.cell 3) (fun _ => ?_)
        clear hK K xs xf H4
        generalize wq4.setCell ⟨F, 3, none⟩ (.slice av4 nn4 cv4) = wq5 at H5 ⊢
        refine wpAnyH_done (by kernel_rfl) ?_ _
        refine NoPanic.normal ?_
        clear hsl t1 t2
        go_wp2_with fail
        refine (csr_pass _ F m p ah kt _ _ _ hp H5.out.bx).mono ?_
        rintro e W9 ⟨rfl, hx9, hm9⟩
        have L9 := hide (H5.out.pass hx9 hm9 hGF)
        clear hx9 hm9 H5
        go_wp2
        refine bodyPost_end (results_none rfl _ _ _) rfl ⟨rfl, ⟨_, _, ⟨L9.out.bx, ?_, ?_, L9.out.n1, L9.out.hB⟩⟩, L9.out.low⟩
        · rw [HET.out]; exact L9.out.oe
        · rw [HMS.out]; exact L9.out.ob
      · go_simp
        go_at_call 58
        refine (impl_PutVar (s : Int) (by omega) (by omega) _).mono ?_
        rintro e wq6 ⟨rfl, hb6⟩
        have H6 := hide (L5.out.next hb6)
        refine hK.out _ _ (H6.out.eb.cell 3) (fun _ => ?_)
        clear hK K hb6 L5
        refine wpAnyH_ready (rs := [4, 11]) (by kernel_rfl) (by simp) ?_
        refine AllReadyH.cons nat4 (fun K hK => ?_) (AllReadyH.cons nat11 (fun K hK => ?_) AllReadyH.nil)
        · have xl : wq6.cell? ⟨F, 3, none⟩ = some ((.slice ae bs.size ce)) := H6.out.bx.cell 3
          go_simp
          refine hK.out _ _ (H6.out.eb.cell 3) (fun _ => ?_)
          clear hK K xl
          refine wpAnyH_ready (rs := [11]) (by kernel_rfl) (by simp) ?_
          refine AllReadyH.cons nat11 (fun K hK => ?_) AllReadyH.nil
          go_simp
          go_at_call 59
          refine (impl_PutText (kt.extract s kt.size) (by omega) _).mono ?_
          rintro e wq8 ⟨rfl, hb8⟩
          have H8 := hide (H6.out.next hb8)
          refine hK.out _ _ (H8.out.eb.cell 3) (fun _ => ?_)
          clear hK K hb8 H6
          refine wpAnyH_take (i := 12) (v := .string (pv s ++ putText (kt.extract s kt.size))) nat12 (by kernel_rfl) (by kernel_rfl) (by kernel_rfl) (fun _ _ _ h => False.elim h) (Or.inl ⟨by rfl, ?_⟩) (H8.out.eb.cell 3) ?_
          · intro wx hSw
            go_simp
          simp only [Act.put, List.setIfInBounds_toArray, List.set_cons_zero, List.set_cons_succ]
          refine wpAnyH_ready (rs := [15]) (by kernel_rfl) (by simp) ?_
          refine AllReadyH.cons nat15 (fun K hK => ?_) AllReadyH.nil
          go_simp
          go_at_call 59
          refine (impl_PutText x (by omega) _).mono ?_
          rintro e wq9 ⟨rfl, hb9⟩
          have H9 := hide (H8.out.next hb9)
          refine hK.out _ _ (H9.out.eb.cell 3) (fun _ => ?_)
          clear hK K hb9 H8
          refine wpAnyH_take (i := 16) (v := .string (pv s ++ putText (kt.extract s kt.size) ++ putText x)) nat16 (by kernel_rfl) (by kernel_rfl) (by kernel_rfl) (fun _ _ _ h => False.elim h) (Or.inl ⟨by rfl, ?_⟩) (H9.out.eb.cell 3) ?_
          · intro wx hSw
            go_simp
          simp only [Act.put, List.setIfInBounds_toArray, List.set_cons_zero, List.set_cons_succ]
          refine wpAnyH_ready (rs := [17]) (by kernel_rfl) (by simp) ?_
          refine AllReadyH.cons nat17 (fun K hK => ?_) AllReadyH.nil
          refine step_append_text (P := Try.prog) rfl (.tmp 38) (.tmp 50) 22 9 rfl B 5 i0 Try.underlying22 Try.underlying9 hi0 hz0 hz1 hz2 (.slice ae bs.size ce) _ _ (by rfl) H9.out.oe (pv s ++ putText (kt.extract s kt.size) ++ putText x) (by rfl) (by unfold maxLen; omega) (by omega) H9.out.hB ?_
          intro v10 wq10 how10 hgr10
          obtain ⟨av10, cv10, rfl⟩ := row_shape how10
          have H10 := hide (H9.out.appE _ how10 hgr10)
          clear how10
          generalize bs.size + (pv s ++ putText (kt.extract s kt.size) ++ putText x).size = nn10 at H10 ⊢
          refine hK.out _ _ (H10.out.eb.cell 3) (fun _ => ?_)
          clear hK K hgr10 H9
          simp only [Act.put, List.setIfInBounds_toArray, List.set_cons_zero, List.set_cons_succ]
          refine wpAnyH_take (i := 18) (v := .pointer (some ⟨F, 0, none⟩)) nat18 (by kernel_rfl) (by kernel_rfl) (by kernel_rfl) (fun _ _ _ h => False.elim h) (Or.inl ⟨by rfl, ?_⟩) (H10.out.eb.cell 3) ?_
          · intro wx hSw
            go_simp
          simp only [Act.put, List.setIfInBounds_toArray, List.set_cons_zero, List.set_cons_succ]
          refine wpAnyH_take (i := 19) (v := .pointer (some ⟨F, 3, none⟩)) nat19 (by kernel_rfl) (by kernel_rfl) (by kernel_rfl) (fun _ _ _ h => False.elim h) (Or.inl ⟨by rfl, ?_⟩) (H10.out.eb.cell 3) ?_
          · intro wx hSw
            go_simp
          simp only [Act.put, List.setIfInBounds_toArray, List.set_cons_zero, List.set_cons_succ]
          refine wpAnyH_ready (rs := [20]) (by kernel_rfl) (by simp) ?_
          refine AllReadyH.cons nat20 (fun K hK => ?_) AllReadyH.nil
          have xs : wq10.cell? ⟨F, 3, none⟩ = some ((.slice ae bs.size ce)) := H10.out.bx.cell 3
          have xf := H10.out.bx.free
          go_simp
          have H11 := hide (H10.out.putE hGF)
          refine hK.out _ _ (H11.out.eb.cell 3) (fun _ => ?_)
          clear hK K xs xf H10
          generalize wq10.setCell ⟨F, 3, none⟩ (.slice av10 nn10 cv10) = wq11 at H11 ⊢
          refine wpAnyH_done (by kernel_rfl) ?_ _
          refine NoPanic.normal ?_
          clear hsl t1 t2
          go_wp2_with fail
          refine (csr_pass _ F m p ah kt _ _ _ hp H11.out.bx).mono ?_
          rintro e W9 ⟨rfl, hx9, hm9⟩
          have L9 := hide (H11.out.pass hx9 hm9 hGF)
          clear hx9 hm9 H11
          go_wp2
          refine bodyPost_end (results_none rfl _ _ _) rfl ⟨rfl, ⟨_, _, ⟨L9.out.bx, ?_, ?_, L9.out.n1, L9.out.hB⟩⟩, L9.out.low⟩
          · rw [HET.out]; exact L9.out.oe
          · rw [HMS.out]; exact L9.out.ob
        · go_simp
          go_at_call 59
          refine (impl_PutText (kt.extract s kt.size) (by omega) _).mono ?_
          rintro e wq12 ⟨rfl, hb12⟩
          have H12 := hide (H6.out.next hb12)
          refine hK.out _ _ (H12.out.eb.cell 3) (fun _ => ?_)
          clear hK K hb12 H6
          refine wpAnyH_take (i := 12) (v := .string (pv s ++ putText (kt.extract s kt.size))) nat12 (by kernel_rfl) (by kernel_rfl) (by kernel_rfl) (fun _ _ _ h => False.elim h) (Or.inl ⟨by rfl, ?_⟩) (H12.out.eb.cell 3) ?_
          · intro wx hSw
            go_simp
          simp only [Act.put, List.setIfInBounds_toArray, List.set_cons_zero, List.set_cons_succ]
          refine wpAnyH_ready (rs := [4, 15]) (by kernel_rfl) (by simp) ?_
          refine AllReadyH.cons nat4 (fun K hK => ?_) (AllReadyH.cons nat15 (fun K hK => ?_) AllReadyH.nil)
          · have xl : wq12.cell? ⟨F, 3, none⟩ = some ((.slice ae bs.size ce)) := H12.out.bx.cell 3
            go_simp
            refine hK.out _ _ (H12.out.eb.cell 3) (fun _ => ?_)
            clear hK K xl
            refine wpAnyH_ready (rs := [15]) (by kernel_rfl) (by simp) ?_
            refine AllReadyH.cons nat15 (fun K hK => ?_) AllReadyH.nil
            go_simp
            go_at_call 59
            refine (impl_PutText x (by omega) _).mono ?_
            rintro e wq14 ⟨rfl, hb14⟩
            have H14 := hide (H12.out.next hb14)
            refine hK.out _ _ (H14.out.eb.cell 3) (fun _ => ?_)
            clear hK K hb14 H12
            refine wpAnyH_take (i := 16) (v := .string (pv s ++ putText (kt.extract s kt.size) ++ putText x)) nat16 (by kernel_rfl) (by kernel_rfl) (by kernel_rfl) (fun _ _ _ h => False.elim h) (Or.inl ⟨by rfl, ?_⟩) (H14.out.eb.cell 3) ?_
            · intro wx hSw
              go_simp
            simp only [Act.put, List.setIfInBounds_toArray, List.set_cons_zero, List.set_cons_succ]
            refine wpAnyH_ready (rs := [17]) (by kernel_rfl) (by simp) ?_
            refine AllReadyH.cons nat17 (fun K hK => ?_) AllReadyH.nil
            refine step_append_text (P := Try.prog) rfl (.tmp 38) (.tmp 50) 22 9 rfl B 5 i0 Try.underlying22 Try.underlying9 hi0 hz0 hz1 hz2 (.slice ae bs.size ce) _ _ (by rfl) H14.out.oe (pv s ++ putText (kt.extract s kt.size) ++ putText x) (by rfl) (by unfold maxLen; omega) (by omega) H14.out.hB ?_
            intro v15 wq15 how15 hgr15
            obtain ⟨av15, cv15, rfl⟩ := row_shape how15
            have H15 := hide (H14.out.appE _ how15 hgr15)
            clear how15
            generalize bs.size + (pv s ++ putText (kt.extract s kt.size) ++ putText x).size = nn15 at H15 ⊢
            refine hK.out _ _ (H15.out.eb.cell 3) (fun _ => ?_)
            clear hK K hgr15 H14
            simp only [Act.put, List.setIfInBounds_toArray, List.set_cons_zero, List.set_cons_succ]
            refine wpAnyH_take (i := 18) (v := .pointer (some ⟨F, 0, none⟩)) nat18 (by kernel_rfl) (by kernel_rfl) (by kernel_rfl) (fun _ _ _ h => False.elim h) (Or.inl ⟨by rfl, ?_⟩) (H15.out.eb.cell 3) ?_
            · intro wx hSw
              go_simp
            simp only [Act.put, List.setIfInBounds_toArray, List.set_cons_zero, List.set_cons_succ]
            refine wpAnyH_take (i := 19) (v := .pointer (some ⟨F, 3, none⟩)) nat19 (by kernel_rfl) (by kernel_rfl) (by kernel_rfl) (fun _ _ _ h => False.elim h) (Or.inl ⟨by rfl, ?_⟩) (H15.out.eb.cell 3) ?_
            · intro wx hSw
              go_simp
            simp only [Act.put, List.setIfInBounds_toArray, List.set_cons_zero, List.set_cons_succ]
            refine wpAnyH_ready (rs := [20]) (by kernel_rfl) (by simp) ?_
            refine AllReadyH.cons nat20 (fun K hK => ?_) AllReadyH.nil
            have xs : wq15.cell? ⟨F, 3, none⟩ = some ((.slice ae bs.size ce)) := H15.out.bx.cell 3
            have xf := H15.out.bx.free
            go_simp
            have H16 := hide (H15.out.putE hGF)
            refine hK.out _ _ (H16.out.eb.cell 3) (fun _ => ?_)
            clear hK K xs xf H15
            generalize wq15.setCell ⟨F, 3, none⟩ (.slice av15 nn15 cv15) = wq16 at H16 ⊢
            refine wpAnyH_done (by kernel_rfl) ?_ _
            refine NoPanic.normal ?_
            clear hsl t1 t2
            go_wp2_with fail
            refine (csr_pass _ F m p ah kt _ _ _ hp H16.out.bx).mono ?_
            rintro e W9 ⟨rfl, hx9, hm9⟩
            have L9 := hide (H16.out.pass hx9 hm9 hGF)
            clear hx9 hm9 H16
            go_wp2
            refine bodyPost_end (results_none rfl _ _ _) rfl ⟨rfl, ⟨_, _, ⟨L9.out.bx, ?_, ?_, L9.out.n1, L9.out.hB⟩⟩, L9.out.low⟩
            · rw [HET.out]; exact L9.out.oe
            · rw [HMS.out]; exact L9.out.ob
          · go_simp
            go_at_call 59
            refine (impl_PutText x (by omega) _).mono ?_
            rintro e wq17 ⟨rfl, hb17⟩
            have H17 := hide (H12.out.next hb17)
            refine hK.out _ _ (H17.out.eb.cell 3) (fun _ => ?_)
            clear hK K hb17 H12
            refine wpAnyH_take (i := 16) (v := .string (pv s ++ putText (kt.extract s kt.size) ++ putText x)) nat16 (by kernel_rfl) (by kernel_rfl) (by kernel_rfl) (fun _ _ _ h => False.elim h) (Or.inl ⟨by rfl, ?_⟩) (H17.out.eb.cell 3) ?_
            · intro wx hSw
              go_simp
            simp only [Act.put, List.setIfInBounds_toArray, List.set_cons_zero, List.set_cons_succ]
            refine wpAnyH_ready (rs := [4]) (by kernel_rfl) (by simp) ?_
            refine AllReadyH.cons nat4 (fun K hK => ?_) AllReadyH.nil
            have xl : wq17.cell? ⟨F, 3, none⟩ = some ((.slice ae bs.size ce)) := H17.out.bx.cell 3
            go_simp
            refine hK.out _ _ (H17.out.eb.cell 3) (fun _ => ?_)
            clear hK K xl
            refine wpAnyH_ready (rs := [17]) (by kernel_rfl) (by simp) ?_
            refine AllReadyH.cons nat17 (fun K hK => ?_) AllReadyH.nil
            refine step_append_text (P := Try.prog) rfl (.tmp 38) (.tmp 50) 22 9 rfl B 5 i0 Try.underlying22 Try.underlying9 hi0 hz0 hz1 hz2 (.slice ae bs.size ce) _ _ (by rfl) H17.out.oe (pv s ++ putText (kt.extract s kt.size) ++ putText x) (by rfl) (by unfold maxLen; omega) (by omega) H17.out.hB ?_
            intro v19 wq19 how19 hgr19
            obtain ⟨av19, cv19, rfl⟩ := row_shape how19
            have H19 := hide (H17.out.appE _ how19 hgr19)
            clear how19
            generalize bs.size + (pv s ++ putText (kt.extract s kt.size) ++ putText x).size = nn19 at H19 ⊢
            refine hK.out _ _ (H19.out.eb.cell 3) (fun _ => ?_)
            clear hK K hgr19 H17
            simp only [Act.put, List.setIfInBounds_toArray, List.set_cons_zero, List.set_cons_succ]
            refine wpAnyH_take (i := 18) (v := .pointer (some ⟨F, 0, none⟩)) nat18 (by kernel_rfl) (by kernel_rfl) (by kernel_rfl) (fun _ _ _ h => False.elim h) (Or.inl ⟨by rfl, ?_⟩) (H19.out.eb.cell 3) ?_
            · intro wx hSw
              go_simp
            simp only [Act.put, List.setIfInBounds_toArray, List.set_cons_zero, List.set_cons_succ]
            refine wpAnyH_take (i := 19) (v := .pointer (some ⟨F, 3, none⟩)) nat19 (by kernel_rfl) (by kernel_rfl) (by kernel_rfl) (fun _ _ _ h => False.elim h) (Or.inl ⟨by rfl, ?_⟩) (H19.out.eb.cell 3) ?_
            · intro wx hSw
              go_simp
            simp only [Act.put, List.setIfInBounds_toArray, List.set_cons_zero, List.set_cons_succ]
            refine wpAnyH_ready (rs := [20]) (by kernel_rfl) (by simp) ?_
            refine AllReadyH.cons nat20 (fun K hK => ?_) AllReadyH.nil
            have xs : wq19.cell? ⟨F, 3, none⟩ = some ((.slice ae bs.size ce)) := H19.out.bx.cell 3
            have xf := H19.out.bx.free
            go_simp
            have H20 := hide (H19.out.putE hGF)
            refine hK.out _ _ (H20.out.eb.cell 3) (fun _ => ?_)
            clear hK K xs xf H19
            generalize wq19.setCell ⟨F, 3, none⟩ (.slice av19 nn19 cv19) = wq20 at H20 ⊢
            refine wpAnyH_done (by kernel_rfl) ?_ _
            refine NoPanic.normal ?_
            clear hsl t1 t2
            go_wp2_with fail
            refine (csr_pass _ F m p ah kt _ _ _ hp H20.out.bx).mono ?_
            rintro e W9 ⟨rfl, hx9, hm9⟩
            have L9 := hide (H20.out.pass hx9 hm9 hGF)
            clear hx9 hm9 H20
            go_wp2
            refine bodyPost_end (results_none rfl _ _ _) rfl ⟨rfl, ⟨_, _, ⟨L9.out.bx, ?_, ?_, L9.out.n1, L9.out.hB⟩⟩, L9.out.low⟩
            · rw [HET.out]; exact L9.out.oe
            · rw [HMS.out]; exact L9.out.ob
  · have hms1 : begT m p bs ms = ms := by rw [begT, if_neg hz]
    have HMS : Hid _ := hms1
    rw [decide_eq_false hz] at ca
    clear hz
    refine (ca W L0.out.bx).mono ?_
    rintro e W2 ⟨rfl, hb1⟩
    have L2 := hide (L0.out.next hb1)
    clear hb1 L0 ca hms1
    obtain ⟨y0, y1, y2⟩ : W2.cell? ⟨G, 0, none⟩ = some (.string u) ∧ W2.cell? ⟨G, 1, none⟩ = some (.int .i64 q) ∧ W2.cell? ⟨G, 2, none⟩ = some (.int .i64 k) := ⟨L2.out.eb.cell 0, L2.out.eb.cell 1, L2.out.eb.cell 2⟩
    go_wp2_with fail
    refine (ck _).mono ?_
    rintro e W3 ⟨rfl, hb3⟩
    have L3 := hide (L2.out.next hb3)
    clear hb3 L2 y0 y1 y2
    go_wp2_with fail
    refine (csr_base W3 F m p ah _ _ _ hm L3.out.bx).mono ?_
    rintro e W4 ⟨rfl, hb4⟩
    have L4 := hide (L3.out.next hb4)
    clear hb4 L3
    go_wp2_with fail
    refine (cs _).mono ?_
    rintro e W5 ⟨rfl, hb5⟩
    have L5 := hide (L4.out.next hb5).drew
    clear hb5 L4
    go_wp2_with fail
    refine wp_region_noPanic ?_
    refine wp_region_held_drew (S := fun y => y.cell? ⟨G, 3, none⟩ = some (.string x)) (by kernel_rfl) (L5.out.eb.cell 3) (fun _ => ?_)
    generalize W5.drew = W6 at L5 ⊢
    refine wpAnyH_take (i := 0) (v := .pointer (some ⟨F, 0, none⟩)) nat0 (by kernel_rfl) (by kernel_rfl) (by kernel_rfl) (fun _ _ _ h => False.elim h) (Or.inl ⟨by rfl, ?_⟩) (L5.out.eb.cell 3) ?_
    · intro wx hSw
      go_simp
    simp only [Act.put, List.setIfInBounds_toArray, List.set_cons_zero, List.set_cons_succ]
    refine wpAnyH_take (i := 1) (v := .pointer (some ⟨F, 0, none⟩)) nat1 (by kernel_rfl) (by kernel_rfl) (by kernel_rfl) (fun _ _ _ h => False.elim h) (Or.inl ⟨by rfl, ?_⟩) (L5.out.eb.cell 3) ?_
    · intro wx hSw
      go_simp
    simp only [Act.put, List.setIfInBounds_toArray, List.set_cons_zero, List.set_cons_succ]
    refine wpAnyH_take (i := 2) (v := .pointer (some ⟨F, 0, none⟩)) nat2 (by kernel_rfl) (by kernel_rfl) (by kernel_rfl) (fun _ _ _ h => False.elim h) (Or.inl ⟨by rfl, ?_⟩) (L5.out.eb.cell 3) ?_
    · intro wx hSw
      go_simp
    simp only [Act.put, List.setIfInBounds_toArray, List.set_cons_zero, List.set_cons_succ]
    refine wpAnyH_take (i := 3) (v := .pointer (some ⟨F, 3, none⟩)) nat3 (by kernel_rfl) (by kernel_rfl) (by kernel_rfl) (fun _ _ _ h => False.elim h) (Or.inl ⟨by rfl, ?_⟩) (L5.out.eb.cell 3) ?_
    · intro wx hSw
      go_simp
    simp only [Act.put, List.setIfInBounds_toArray, List.set_cons_zero, List.set_cons_succ]
    refine wpAnyH_take (i := 5) (v := .int .i64 (s : Int)) nat5 (by kernel_rfl) (by kernel_rfl) (by kernel_rfl) (fun _ _ _ h => False.elim h) (Or.inl ⟨by rfl, ?_⟩) (L5.out.eb.cell 3) ?_
    · intro wx hSw
      go_simp
    simp only [Act.put, List.setIfInBounds_toArray, List.set_cons_zero, List.set_cons_succ]
    refine wpAnyH_take (i := 6) (v := .int .u64 (s : Int)) nat6 (by kernel_rfl) (by kernel_rfl) (by kernel_rfl) (fun _ _ _ h => False.elim h) (Or.inl ⟨by rfl, ?_⟩) (L5.out.eb.cell 3) ?_
    · intro wx hSw
      go_simp
    simp only [Act.put, List.setIfInBounds_toArray, List.set_cons_zero, List.set_cons_succ]
    refine wpAnyH_take (i := 8) (v := .string kt) nat8 (by kernel_rfl) (by kernel_rfl) (by kernel_rfl) (fun _ _ _ h => False.elim h) (Or.inl ⟨by rfl, ?_⟩) (L5.out.eb.cell 3) ?_
    · intro wx hSw
      go_simp
    simp only [Act.put, List.setIfInBounds_toArray, List.set_cons_zero, List.set_cons_succ]
    refine wpAnyH_take (i := 9) (v := .int .i64 (s : Int)) nat9 (by kernel_rfl) (by kernel_rfl) (by kernel_rfl) (fun _ _ _ h => False.elim h) (Or.inl ⟨by rfl, ?_⟩) (L5.out.eb.cell 3) ?_
    · intro wx hSw
      go_simp
    simp only [Act.put, List.setIfInBounds_toArray, List.set_cons_zero, List.set_cons_succ]
    refine wpAnyH_take (i := 10) (v := .string (kt.extract s kt.size)) nat10 (by kernel_rfl) (by kernel_rfl) (by kernel_rfl) (fun _ _ _ h => False.elim h) (Or.inl ⟨by rfl, ?_⟩) (L5.out.eb.cell 3) ?_
    · intro wx hSw
      go_simp
    simp only [Act.put, List.setIfInBounds_toArray, List.set_cons_zero, List.set_cons_succ]
    refine wpAnyH_take (i := 13) (v := .pointer (some ⟨G, 3, none⟩)) nat13 (by kernel_rfl) (by kernel_rfl) (by kernel_rfl) (fun _ _ _ h => False.elim h) (Or.inl ⟨by rfl, ?_⟩) (L5.out.eb.cell 3) ?_
    · intro wx hSw
      go_simp
    simp only [Act.put, List.setIfInBounds_toArray, List.set_cons_zero, List.set_cons_succ]
    refine wpAnyH_take (i := 14) (v := .string x) nat14 (by kernel_rfl) (by kernel_rfl) (by kernel_rfl) (fun _ _ _ h => False.elim h) (Or.inl ⟨by rfl, ?_⟩) (L5.out.eb.cell 3) ?_
    · intro wx hSw
      have hSx : wx.cell? ⟨G, 3, none⟩ = some (.string x) := hSw
      go_simp
    simp only [Act.put, List.setIfInBounds_toArray, List.set_cons_zero, List.set_cons_succ]
    refine wpAnyH_ready (rs := [4, 7]) (by kernel_rfl) (by simp) ?_
    refine AllReadyH.cons nat4 (fun K hK => ?_) (AllReadyH.cons nat7 (fun K hK => ?_) AllReadyH.nil)
    · have xl : W6.cell? ⟨F, 3, none⟩ = some ((.slice ae bs.size ce)) := L5.out.bx.cell 3
      go_simp
      refine hK.out _ _ (L5.out.eb.cell 3) (fun _ => ?_)
      clear hK K xl
      refine wpAnyH_ready (rs := [7]) (by kernel_rfl) (by simp) ?_
      refine AllReadyH.cons nat7 (fun K hK => ?_) AllReadyH.nil
      go_simp
      go_at_call 58
      refine (impl_PutVar (s : Int) (by omega) (by omega) _).mono ?_
      rintro e wq1 ⟨rfl, hb1⟩
      have H1 := hide (L5.out.next hb1)
      refine hK.out _ _ (H1.out.eb.cell 3) (fun _ => ?_)
      clear hK K hb1 L5
      refine wpAnyH_ready (rs := [11]) (by kernel_rfl) (by simp) ?_
      refine AllReadyH.cons nat11 (fun K hK => ?_) AllReadyH.nil
      go_simp
      go_at_call 59
      refine (impl_PutText (kt.extract s kt.size) (by omega) _).mono ?_
      rintro e wq2 ⟨rfl, hb2⟩
      have H2 := hide (H1.out.next hb2)
      refine hK.out _ _ (H2.out.eb.cell 3) (fun _ => ?_)
      clear hK K hb2 H1
      refine wpAnyH_take (i := 12) (v := .string (pv s ++ putText (kt.extract s kt.size))) nat12 (by kernel_rfl) (by kernel_rfl) (by kernel_rfl) (fun _ _ _ h => False.elim h) (Or.inl ⟨by rfl, ?_⟩) (H2.out.eb.cell 3) ?_
      · intro wx hSw
        go_simp
      simp only [Act.put, List.setIfInBounds_toArray, List.set_cons_zero, List.set_cons_succ]
      refine wpAnyH_ready (rs := [15]) (by kernel_rfl) (by simp) ?_
      refine AllReadyH.cons nat15 (fun K hK => ?_) AllReadyH.nil
      go_simp
      go_at_call 59
      refine (impl_PutText x (by omega) _).mono ?_
      rintro e wq3 ⟨rfl, hb3⟩
      have H3 := hide (H2.out.next hb3)
      refine hK.out _ _ (H3.out.eb.cell 3) (fun _ => ?_)
      clear hK K hb3 H2
      refine wpAnyH_take (i := 16) (v := .string (pv s ++ putText (kt.extract s kt.size) ++ putText x)) nat16 (by kernel_rfl) (by kernel_rfl) (by kernel_rfl) (fun _ _ _ h => False.elim h) (Or.inl ⟨by rfl, ?_⟩) (H3.out.eb.cell 3) ?_
      · intro wx hSw
        go_simp
      simp only [Act.put, List.setIfInBounds_toArray, List.set_cons_zero, List.set_cons_succ]
      refine wpAnyH_ready (rs := [17]) (by kernel_rfl) (by simp) ?_
      refine AllReadyH.cons nat17 (fun K hK => ?_) AllReadyH.nil
      refine step_append_text (P := Try.prog) rfl (.tmp 38) (.tmp 50) 22 9 rfl B 5 i0 Try.underlying22 Try.underlying9 hi0 hz0 hz1 hz2 (.slice ae bs.size ce) _ _ (by rfl) H3.out.oe (pv s ++ putText (kt.extract s kt.size) ++ putText x) (by rfl) (by unfold maxLen; omega) (by omega) H3.out.hB ?_
      intro v4 wq4 how4 hgr4
      obtain ⟨av4, cv4, rfl⟩ := row_shape how4
      have H4 := hide (H3.out.appE _ how4 hgr4)
      clear how4
      generalize bs.size + (pv s ++ putText (kt.extract s kt.size) ++ putText x).size = nn4 at H4 ⊢
      refine hK.out _ _ (H4.out.eb.cell 3) (fun _ => ?_)
      clear hK K hgr4 H3
      simp only [Act.put, List.setIfInBounds_toArray, List.set_cons_zero, List.set_cons_succ]
      refine wpAnyH_take (i := 18) (v := .pointer (some ⟨F, 0, none⟩)) nat18 (by kernel_rfl) (by kernel_rfl) (by kernel_rfl) (fun _ _ _ h => False.elim h) (Or.inl ⟨by rfl, ?_⟩) (H4.out.eb.cell 3) ?_
      · intro wx hSw
        go_simp
      simp only [Act.put, List.setIfInBounds_toArray, List.set_cons_zero, List.set_cons_succ]
      refine wpAnyH_take (i := 19) (v := .pointer (some ⟨F, 3, none⟩)) nat19 (by kernel_rfl) (by kernel_rfl) (by kernel_rfl) (fun _ _ _ h => False.elim h) (Or.inl ⟨by rfl, ?_⟩) (H4.out.eb.cell 3) ?_
      · intro wx hSw
        go_simp
      simp only [Act.put, List.setIfInBounds_toArray, List.set_cons_zero, List.set_cons_succ]
      refine wpAnyH_ready (rs := [20]) (by kernel_rfl) (by simp) ?_
      refine AllReadyH.cons nat20 (fun K hK => ?_) AllReadyH.nil
      have xs : wq4.cell? ⟨F, 3, none⟩ = some ((.slice ae bs.size ce)) := H4.out.bx.cell 3
      have xf := H4.out.bx.free
      go_simp
      have H5 := hide (H4.out.putE hGF)
      refine hK.out _ _ (H5.out.eb.cell 3) (fun _ => ?_)
      clear hK K xs xf H4
      generalize wq4.setCell ⟨F, 3, none⟩ (.slice av4 nn4 cv4) = wq5 at H5 ⊢
      refine wpAnyH_done (by kernel_rfl) ?_ _
      refine NoPanic.normal ?_
      clear hsl t1 t2
      go_wp2_with fail
      refine (csr_pass _ F m p ah kt _ _ _ hp H5.out.bx).mono ?_
      rintro e W9 ⟨rfl, hx9, hm9⟩
      have L9 := hide (H5.out.pass hx9 hm9 hGF)
      clear hx9 hm9 H5
      go_wp2
      refine bodyPost_end (results_none rfl _ _ _) rfl ⟨rfl, ⟨_, _, ⟨L9.out.bx, ?_, ?_, L9.out.n1, L9.out.hB⟩⟩, L9.out.low⟩
      · rw [HET.out]; exact L9.out.oe
      · rw [HMS.out]; exact L9.out.ob
    · go_simp
      go_at_call 58
      refine (impl_PutVar (s : Int) (by omega) (by omega) _).mono ?_
      rintro e wq6 ⟨rfl, hb6⟩
      have H6 := hide (L5.out.next hb6)
      refine hK.out _ _ (H6.out.eb.cell 3) (fun _ => ?_)
      clear hK K hb6 L5
      refine wpAnyH_ready (rs := [4, 11]) (by kernel_rfl) (by simp) ?_
      refine AllReadyH.cons nat4 (fun K hK => ?_) (AllReadyH.cons nat11 (fun K hK => ?_) AllReadyH.nil)
      · have xl : wq6.cell? ⟨F, 3, none⟩ = some ((.slice ae bs.size ce)) := H6.out.bx.cell 3
        go_simp
        refine hK.out _ _ (H6.out.eb.cell 3) (fun _ => ?_)
        clear hK K xl
        refine wpAnyH_ready (rs := [11]) (by kernel_rfl) (by simp) ?_
        refine AllReadyH.cons nat11 (fun K hK => ?_) AllReadyH.nil
        go_simp
        go_at_call 59
        refine (impl_PutText (kt.extract s kt.size) (by omega) _).mono ?_
        rintro e wq8 ⟨rfl, hb8⟩
        have H8 := hide (H6.out.next hb8)
        refine hK.out _ _ (H8.out.eb.cell 3) (fun _ => ?_)
        clear hK K hb8 H6
        refine wpAnyH_take (i := 12) (v := .string (pv s ++ putText (kt.extract s kt.size))) nat12 (by kernel_rfl) (by kernel_rfl) (by kernel_rfl) (fun _ _ _ h => False.elim h) (Or.inl ⟨by rfl, ?_⟩) (H8.out.eb.cell 3) ?_
        · intro wx hSw
          go_simp
        simp only [Act.put, List.setIfInBounds_toArray, List.set_cons_zero, List.set_cons_succ]
        refine wpAnyH_ready (rs := [15]) (by kernel_rfl) (by simp) ?_
        refine AllReadyH.cons nat15 (fun K hK => ?_) AllReadyH.nil
        go_simp
        go_at_call 59
        refine (impl_PutText x (by omega) _).mono ?_
        rintro e wq9 ⟨rfl, hb9⟩
        have H9 := hide (H8.out.next hb9)
        refine hK.out _ _ (H9.out.eb.cell 3) (fun _ => ?_)
        clear hK K hb9 H8
        refine wpAnyH_take (i := 16) (v := .string (pv s ++ putText (kt.extract s kt.size) ++ putText x)) nat16 (by kernel_rfl) (by kernel_rfl) (by kernel_rfl) (fun _ _ _ h => False.elim h) (Or.inl ⟨by rfl, ?_⟩) (H9.out.eb.cell 3) ?_
        · intro wx hSw
          go_simp
        simp only [Act.put, List.setIfInBounds_toArray, List.set_cons_zero, List.set_cons_succ]
        refine wpAnyH_ready (rs := [17]) (by kernel_rfl) (by simp) ?_
        refine AllReadyH.cons nat17 (fun K hK => ?_) AllReadyH.nil
        refine step_append_text (P := Try.prog) rfl (.tmp 38) (.tmp 50) 22 9 rfl B 5 i0 Try.underlying22 Try.underlying9 hi0 hz0 hz1 hz2 (.slice ae bs.size ce) _ _ (by rfl) H9.out.oe (pv s ++ putText (kt.extract s kt.size) ++ putText x) (by rfl) (by unfold maxLen; omega) (by omega) H9.out.hB ?_
        intro v10 wq10 how10 hgr10
        obtain ⟨av10, cv10, rfl⟩ := row_shape how10
        have H10 := hide (H9.out.appE _ how10 hgr10)
        clear how10
        generalize bs.size + (pv s ++ putText (kt.extract s kt.size) ++ putText x).size = nn10 at H10 ⊢
        refine hK.out _ _ (H10.out.eb.cell 3) (fun _ => ?_)
        clear hK K hgr10 H9
        simp only [Act.put, List.setIfInBounds_toArray, List.set_cons_zero, List.set_cons_succ]
        refine wpAnyH_take (i := 18) (v := .pointer (some ⟨F, 0, none⟩)) nat18 (by kernel_rfl) (by kernel_rfl) (by kernel_rfl) (fun _ _ _ h => False.elim h) (Or.inl ⟨by rfl, ?_⟩) (H10.out.eb.cell 3) ?_
        · intro wx hSw
          go_simp
        simp only [Act.put, List.setIfInBounds_toArray, List.set_cons_zero, List.set_cons_succ]
        refine wpAnyH_take (i := 19) (v := .pointer (some ⟨F, 3, none⟩)) nat19 (by kernel_rfl) (by kernel_rfl) (by kernel_rfl) (fun _ _ _ h => False.elim h) (Or.inl ⟨by rfl, ?_⟩) (H10.out.eb.cell 3) ?_
        · intro wx hSw
          go_simp
        simp only [Act.put, List.setIfInBounds_toArray, List.set_cons_zero, List.set_cons_succ]
        refine wpAnyH_ready (rs := [20]) (by kernel_rfl) (by simp) ?_
        refine AllReadyH.cons nat20 (fun K hK => ?_) AllReadyH.nil
        have xs : wq10.cell? ⟨F, 3, none⟩ = some ((.slice ae bs.size ce)) := H10.out.bx.cell 3
        have xf := H10.out.bx.free
        go_simp
        have H11 := hide (H10.out.putE hGF)
        refine hK.out _ _ (H11.out.eb.cell 3) (fun _ => ?_)
        clear hK K xs xf H10
        generalize wq10.setCell ⟨F, 3, none⟩ (.slice av10 nn10 cv10) = wq11 at H11 ⊢
        refine wpAnyH_done (by kernel_rfl) ?_ _
        refine NoPanic.normal ?_
        clear hsl t1 t2
        go_wp2_with fail
        refine (csr_pass _ F m p ah kt _ _ _ hp H11.out.bx).mono ?_
        rintro e W9 ⟨rfl, hx9, hm9⟩
        have L9 := hide (H11.out.pass hx9 hm9 hGF)
        clear hx9 hm9 H11
        go_wp2
        refine bodyPost_end (results_none rfl _ _ _) rfl ⟨rfl, ⟨_, _, ⟨L9.out.bx, ?_, ?_, L9.out.n1, L9.out.hB⟩⟩, L9.out.low⟩
        · rw [HET.out]; exact L9.out.oe
        · rw [HMS.out]; exact L9.out.ob
      · go_simp
        go_at_call 59
        refine (impl_PutText (kt.extract s kt.size) (by omega) _).mono ?_
        rintro e wq12 ⟨rfl, hb12⟩
        have H12 := hide (H6.out.next hb12)
        refine hK.out _ _ (H12.out.eb.cell 3) (fun _ => ?_)
        clear hK K hb12 H6
        refine wpAnyH_take (i := 12) (v := .string (pv s ++ putText (kt.extract s kt.size))) nat12 (by kernel_rfl) (by kernel_rfl) (by kernel_rfl) (fun _ _ _ h => False.elim h) (Or.inl ⟨by rfl, ?_⟩) (H12.out.eb.cell 3) ?_
        · intro wx hSw
          go_simp
        simp only [Act.put, List.setIfInBounds_toArray, List.set_cons_zero, List.set_cons_succ]
        refine wpAnyH_ready (rs := [4, 15]) (by kernel_rfl) (by simp) ?_
        refine AllReadyH.cons nat4 (fun K hK => ?_) (AllReadyH.cons nat15 (fun K hK => ?_) AllReadyH.nil)
        · have xl : wq12.cell? ⟨F, 3, none⟩ = some ((.slice ae bs.size ce)) := H12.out.bx.cell 3
          go_simp
          refine hK.out _ _ (H12.out.eb.cell 3) (fun _ => ?_)
          clear hK K xl
          refine wpAnyH_ready (rs := [15]) (by kernel_rfl) (by simp) ?_
          refine AllReadyH.cons nat15 (fun K hK => ?_) AllReadyH.nil
          go_simp
          go_at_call 59
          refine (impl_PutText x (by omega) _).mono ?_
          rintro e wq14 ⟨rfl, hb14⟩
          have H14 := hide (H12.out.next hb14)
          refine hK.out _ _ (H14.out.eb.cell 3) (fun _ => ?_)
          clear hK K hb14 H12
          refine wpAnyH_take (i := 16) (v := .string (pv s ++ putText (kt.extract s kt.size) ++ putText x)) nat16 (by kernel_rfl) (by kernel_rfl) (by kernel_rfl) (fun _ _ _ h => False.elim h) (Or.inl ⟨by rfl, ?_⟩) (H14.out.eb.cell 3) ?_
          · intro wx hSw
            go_simp
          simp only [Act.put, List.setIfInBounds_toArray, List.set_cons_zero, List.set_cons_succ]
          refine wpAnyH_ready (rs := [17]) (by kernel_rfl) (by simp) ?_
          refine AllReadyH.cons nat17 (fun K hK => ?_) AllReadyH.nil
          refine step_append_text (P := Try.prog) rfl (.tmp 38) (.tmp 50) 22 9 rfl B 5 i0 Try.underlying22 Try.underlying9 hi0 hz0 hz1 hz2 (.slice ae bs.size ce) _ _ (by rfl) H14.out.oe (pv s ++ putText (kt.extract s kt.size) ++ putText x) (by rfl) (by unfold maxLen; omega) (by omega) H14.out.hB ?_
          intro v15 wq15 how15 hgr15
          obtain ⟨av15, cv15, rfl⟩ := row_shape how15
          have H15 := hide (H14.out.appE _ how15 hgr15)
          clear how15
          generalize bs.size + (pv s ++ putText (kt.extract s kt.size) ++ putText x).size = nn15 at H15 ⊢
          refine hK.out _ _ (H15.out.eb.cell 3) (fun _ => ?_)
          clear hK K hgr15 H14
          simp only [Act.put, List.setIfInBounds_toArray, List.set_cons_zero, List.set_cons_succ]
          refine wpAnyH_take (i := 18) (v := .pointer (some ⟨F, 0, none⟩)) nat18 (by kernel_rfl) (by kernel_rfl) (by kernel_rfl) (fun _ _ _ h => False.elim h) (Or.inl ⟨by rfl, ?_⟩) (H15.out.eb.cell 3) ?_
          · intro wx hSw
            go_simp
          simp only [Act.put, List.setIfInBounds_toArray, List.set_cons_zero, List.set_cons_succ]
          refine wpAnyH_take (i := 19) (v := .pointer (some ⟨F, 3, none⟩)) nat19 (by kernel_rfl) (by kernel_rfl) (by kernel_rfl) (fun _ _ _ h => False.elim h) (Or.inl ⟨by rfl, ?_⟩) (H15.out.eb.cell 3) ?_
          · intro wx hSw
            go_simp
          simp only [Act.put, List.setIfInBounds_toArray, List.set_cons_zero, List.set_cons_succ]
          refine wpAnyH_ready (rs := [20]) (by kernel_rfl) (by simp) ?_
          refine AllReadyH.cons nat20 (fun K hK => ?_) AllReadyH.nil
          have xs : wq15.cell? ⟨F, 3, none⟩ = some ((.slice ae bs.size ce)) := H15.out.bx.cell 3
          have xf := H15.out.bx.free
          go_simp
          have H16 := hide (H15.out.putE hGF)
          refine hK.out _ _ (H16.out.eb.cell 3) (fun _ => ?_)
          clear hK K xs xf H15
          generalize wq15.setCell ⟨F, 3, none⟩ (.slice av15 nn15 cv15) = wq16 at H16 ⊢
          refine wpAnyH_done (by kernel_rfl) ?_ _
          refine NoPanic.normal ?_
          clear hsl t1 t2
          go_wp2_with fail
          refine (csr_pass _ F m p ah kt _ _ _ hp H16.out.bx).mono ?_
          rintro e W9 ⟨rfl, hx9, hm9⟩
          have L9 := hide (H16.out.pass hx9 hm9 hGF)
          clear hx9 hm9 H16
          go_wp2
          refine bodyPost_end (results_none rfl _ _ _) rfl ⟨rfl, ⟨_, _, ⟨L9.out.bx, ?_, ?_, L9.out.n1, L9.out.hB⟩⟩, L9.out.low⟩
          · rw [HET.out]; exact L9.out.oe
          · rw [HMS.out]; exact L9.out.ob
        · go_simp
          go_at_call 59
          refine (impl_PutText x (by omega) _).mono ?_
          rintro e wq17 ⟨rfl, hb17⟩
          have H17 := hide (H12.out.next hb17)
          refine hK.out _ _ (H17.out.eb.cell 3) (fun _ => ?_)
          clear hK K hb17 H12
          refine wpAnyH_take (i := 16) (v := .string (pv s ++ putText (kt.extract s kt.size) ++ putText x)) nat16 (by kernel_rfl) (by kernel_rfl) (by kernel_rfl) (fun _ _ _ h => False.elim h) (Or.inl ⟨by rfl, ?_⟩) (H17.out.eb.cell 3) ?_
          · intro wx hSw
            go_simp
          simp only [Act.put, List.setIfInBounds_toArray, List.set_cons_zero, List.set_cons_succ]
          refine wpAnyH_ready (rs := [4]) (by kernel_rfl) (by simp) ?_
          refine AllReadyH.cons nat4 (fun K hK => ?_) AllReadyH.nil
          have xl : wq17.cell? ⟨F, 3, none⟩ = some ((.slice ae bs.size ce)) := H17.out.bx.cell 3
          go_simp
          refine hK.out _ _ (H17.out.eb.cell 3) (fun _ => ?_)
          clear hK K xl
          refine wpAnyH_ready (rs := [17]) (by kernel_rfl) (by simp) ?_
          refine AllReadyH.cons nat17 (fun K hK => ?_) AllReadyH.nil
          refine step_append_text (P := Try.prog) rfl (.tmp 38) (.tmp 50) 22 9 rfl B 5 i0 Try.underlying22 Try.underlying9 hi0 hz0 hz1 hz2 (.slice ae bs.size ce) _ _ (by rfl) H17.out.oe (pv s ++ putText (kt.extract s kt.size) ++ putText x) (by rfl) (by unfold maxLen; omega) (by omega) H17.out.hB ?_
          intro v19 wq19 how19 hgr19
          obtain ⟨av19, cv19, rfl⟩ := row_shape how19
          have H19 := hide (H17.out.appE _ how19 hgr19)
          clear how19
          generalize bs.size + (pv s ++ putText (kt.extract s kt.size) ++ putText x).size = nn19 at H19 ⊢
          refine hK.out _ _ (H19.out.eb.cell 3) (fun _ => ?_)
          clear hK K hgr19 H17
          simp only [Act.put, List.setIfInBounds_toArray, List.set_cons_zero, List.set_cons_succ]
          refine wpAnyH_take (i := 18) (v := .pointer (some ⟨F, 0, none⟩)) nat18 (by kernel_rfl) (by kernel_rfl) (by kernel_rfl) (fun _ _ _ h => False.elim h) (Or.inl ⟨by rfl, ?_⟩) (H19.out.eb.cell 3) ?_
          · intro wx hSw
            go_simp
          simp only [Act.put, List.setIfInBounds_toArray, List.set_cons_zero, List.set_cons_succ]
          refine wpAnyH_take (i := 19) (v := .pointer (some ⟨F, 3, none⟩)) nat19 (by kernel_rfl) (by kernel_rfl) (by kernel_rfl) (fun _ _ _ h => False.elim h) (Or.inl ⟨by rfl, ?_⟩) (H19.out.eb.cell 3) ?_
          · intro wx hSw
            go_simp
          simp only [Act.put, List.setIfInBounds_toArray, List.set_cons_zero, List.set_cons_succ]
          refine wpAnyH_ready (rs := [20]) (by kernel_rfl) (by simp) ?_
          refine AllReadyH.cons nat20 (fun K hK => ?_) AllReadyH.nil
          have xs : wq19.cell? ⟨F, 3, none⟩ = some ((.slice ae bs.size ce)) := H19.out.bx.cell 3
          have xf := H19.out.bx.free
          go_simp
          have H20 := hide (H19.out.putE hGF)
          refine hK.out _ _ (H20.out.eb.cell 3) (fun _ => ?_)
          clear hK K xs xf H19
          generalize wq19.setCell ⟨F, 3, none⟩ (.slice av19 nn19 cv19) = wq20 at H20 ⊢
          refine wpAnyH_done (by kernel_rfl) ?_ _
          refine NoPanic.normal ?_
          clear hsl t1 t2
          go_wp2_with fail
          refine (csr_pass _ F m p ah kt _ _ _ hp H20.out.bx).mono ?_
          rintro e W9 ⟨rfl, hx9, hm9⟩
          have L9 := hide (H20.out.pass hx9 hm9 hGF)
          clear hx9 hm9 H20
          go_wp2
          refine bodyPost_end (results_none rfl _ _ _) rfl ⟨rfl, ⟨_, _, ⟨L9.out.bx, ?_, ?_, L9.out.n1, L9.out.hB⟩⟩, L9.out.low⟩
          · rw [HET.out]; exact L9.out.oe
          · rw [HMS.out]; exact L9.out.ob

end Go.Proofs.Ytljmfdcilnbjaac
