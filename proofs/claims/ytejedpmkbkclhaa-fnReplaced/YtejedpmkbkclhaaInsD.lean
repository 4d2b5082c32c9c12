/- slices.Insert of one op ahead of a full row of two: a new row. -/
import Derived.Test.YtejedpmkbkclhaaDSy
import Derived.Shelf.Spec.SlicesInsert
import Derived.Lib.AppendZerosOnto
import Derived.Laws.CopyOwn
namespace Go.Proofs.Ytejedpmkbkclhaa
set_option maxRecDepth 100000
open Go.RowKit Go.Deep Go.Maps Go.Lib

theorem run_storeRows {P : Program} (g o : Nat) (t : TypeId) : ∀ (vs : List Value) (i : Nat) (cur : Array Value) (w : World), w.heap[g]? = some (.cells cur t (0, 0)) → o + i + vs.length ≤ cur.size → (∀ v ∈ vs, v.oneCell' = true) →
    (storeCells ⟨g, o, none⟩ vs i).run P w = .ok () (w.setRow g (cur.toList.take (o + i) ++ vs ++ cur.toList.drop (o + i + vs.length)).toArray) := fun vs i cur w h1 h2 h3 => run_storeCells_at P g o t vs i cur w h1 h2 h3

theorem run_copy_rows {P : Program} (w : World) (dT sT ty elem : TypeId) (g o dLen dCap : Nat) (a : Addr) (sLen sCap : Nat) (cur : Array Value) (t : TypeId) (cs : List Value) (k n : Nat)
    (hu : P.underlying dT = some (.slice elem)) (hs : (P.info? elem).map (·.size) = some k)
    (hg : w.heap[g]? = some (.cells cur t (0, 0))) (hn : Nat.min sLen dLen = n) (hl : cs.length = n * k)
    (hsrc : ∀ j v, cs[j]? = some v → w.cell? (a.add j) = some v) (hfit : o + cs.length ≤ cur.size) (h1 : ∀ v ∈ cs, v.oneCell' = true) :
    (Builtin.copy_ #[dT, sT] ty #[.slice (some ⟨g, o, none⟩) dLen dCap, .slice (some a) sLen sCap]).run P w =
      .ok (goInt n) (w.setRow g (cur.toList.take o ++ cs ++ cur.toList.drop (o + cs.length)).toArray) := by
  have hld := run_loadCells_list (P := P) w a cs hsrc
  have hst := run_storeRows (P := P) g o t cs 0 cur w hg (by simpa using hfit) h1
  cases hq : P.info? elem with
  | none => simp [hq] at hs
  | some i =>
    have hi : i.size = k := by simpa [hq] using hs
    simp [Builtin.copy_, run_underlying hu, Builtin.lenOf, Builtin.firstCells, sizeOf, typeInfo, hq, hi, hn, ← hl, hld, hst]

theorem setRow_drew (w : World) (g : Nat) (cs : Array Value) : (w.setRow g cs).drew = w.drew.setRow g cs := rfl

set_option linter.unusedVariables false in
set_option linter.unusedSimpArgs false in
set_option maxHeartbeats 4000000 in
theorem impl_InsertDOp (b vb : Nat) (x o1 o2 : DOp1) (w : World) (hb : b < w.heap.size) (hvb : vb < w.heap.size)
    (hcs : ∀ j v, (cellsDOp [o1, o2])[j]? = some v → w.cell? ((⟨b, 0, none⟩ : Addr).add j) = some v) (hvs : ∀ j v, (cellsDOp [x])[j]? = some v → w.cell? ((⟨vb, 0, none⟩ : Addr).add j) = some v) :
    Calls Try.prog 69 #[.slice (some ⟨b, 0, none⟩) 2 2, .int .i64 0, .slice (some ⟨vb, 0, none⟩) 1 1] w fun e w' => (∃ u, e = .returned u ∧ OwnDOp w' w.heap.size u [x, o1, o2]) ∧ Below w.heap.size w w' := by
  obtain ⟨i0, hi', hz0, hs0, hb0⟩ := info_parts dOp_info
  have hsz : (Try.prog.info? 40).map (·.size) = some 4 := by rw [hi']; simp [hs0]
  have hold : (Builtin.firstCells i0.size 0 (.slice (some ⟨b, 0, none⟩) 0 2)).run Try.prog w.drew = .ok ([] : List Value).toArray w.drew := by
    simp [Builtin.firstCells, loadCells, loadCellsFrom]
  obtain ⟨G, hG⟩ : ∃ G, G = grownCap w 3 2 40 := ⟨_, rfl⟩
  have hGn : 3 ≤ G := by rw [hG]; exact grownCap_ge w _ _ _
  have hG63 : G ≤ 9223372036854775807 := by
    have := grownCap_le_maxLen w 3 2 40 (by unfold maxLen; omega)
    rw [← hG] at this; unfold maxLen at this; omega
  obtain ⟨ROW, hROW⟩ : ∃ ROW : Array Value, ROW = ([] : List Value).toArray ++ Builtin.zeroCells (Value.agg #[.int .i64 0, .string ⟨#[]⟩, .string ⟨#[]⟩, .string ⟨#[]⟩]).cells 3 ++ Builtin.zeroCells (Value.agg #[.int .i64 0, .string ⟨#[]⟩, .string ⟨#[]⟩, .string ⟨#[]⟩]).cells (G - 3) := ⟨_, rfl⟩
  have hRs : ROW.size = G * 4 := by rw [hROW]; simp [Builtin.zeroCells, Value.cells]; omega
  have hrz : ∀ ty, (Builtin.append_ #[29, 3] ty #[.slice (some ⟨b, 0, none⟩) 0 2, .int .i64 3]).run Try.prog w = .ok (.slice (some ⟨w.heap.size, 0, none⟩) 3 G) (w.drew.alloc (.cells ROW 40)) := fun ty => by
    have h := Lib.run_append_grow_zeros w 29 3 ty 40 i0 _ .i64 .i64 Try.underlying29 Try.underlying3 hi' hz0 (some ⟨b, 0, none⟩) 0 2 [] hold 3 (by omega) (by omega) (by omega) (by omega) (by rw [hb0]; omega) (by rw [hb0]; exact growslice_fits (by omega) (by omega))
    rw [Nat.zero_add, ← hG, ← hROW] at h
    exact h
  obtain ⟨g, hg⟩ : ∃ g, g = w.heap.size := ⟨_, rfl⟩
  rw [← hg] at hrz
  have hbg : b ≠ g := by omega
  have hvg : vb ≠ g := by omega
  obtain ⟨R1, hR1⟩ : ∃ R1, R1 = (ROW.toList.take 0 ++ cellsDOp [x] ++ ROW.toList.drop (0 + (cellsDOp [x]).length)).toArray := ⟨_, rfl⟩
  obtain ⟨R2, hR2⟩ : ∃ R2, R2 = (R1.toList.take 4 ++ cellsDOp [o1, o2] ++ R1.toList.drop (4 + (cellsDOp [o1, o2]).length)).toArray := ⟨_, rfl⟩
  obtain ⟨W1, hW1⟩ : ∃ W1, W1 = w.drew.alloc (.cells ROW 40) := ⟨_, rfl⟩
  have hh1 : W1.heap[g]? = some (.cells ROW 40) := by rw [hW1, hg]; exact heap_alloc_new w.drew _
  have hcell : ∀ β j : Nat, β < w.heap.size → W1.cell? ⟨β, j, none⟩ = w.cell? ⟨β, j, none⟩ := fun β j hβ => by rw [hW1, World.cell?_alloc_past (w := w.drew) _ β j hβ]; rfl
  have l1 : (cellsDOp [x]).length = 4 := by rw [cellsDOp_len]; rfl
  have l2 : (cellsDOp [o1, o2]).length = 8 := by rw [cellsDOp_len]; rfl
  have hR1s : R1.size = G * 4 := by rw [hR1]; simp [l1, hRs]; omega
  have hh2 : (W1.setRow g R1).heap[g]? = some (.cells R1 40) := setRow_heap W1 g ROW R1 40 (0, 0) hh1
  have h1x : ∀ v ∈ cellsDOp [x], v.oneCell' = true := cellsDOp_one _
  have h1o : ∀ v ∈ cellsDOp [o1, o2], v.oneCell' = true := cellsDOp_one _
  have hcpA : ∀ (W : World), W.heap = W1.heap → ∀ ty dc, (Builtin.copy_ #[29, 29] ty #[.slice (some ⟨g, 0, none⟩) 3 dc, .slice (some ⟨vb, 0, none⟩) 1 1]).run Try.prog W = .ok (goInt 1) (W.setRow g R1) := fun W hW ty dc => by
    rw [hR1]
    exact run_copy_rows W _ _ ty 40 g 0 3 dc ⟨vb, 0, none⟩ 1 1 ROW 40 (cellsDOp [x]) 4 1 Try.underlying29 hsz (by rw [hW]; exact hh1) rfl l1
      (fun j v hj => by
        have := hvs j v hj
        rw [Addr.add_lit] at this ⊢
        rw [← hcell vb _ hvb] at this
        have e : W.cell? ⟨vb, 0 + j, none⟩ = W1.cell? ⟨vb, 0 + j, none⟩ := by simp [World.cell?, hW]
        rw [e]; exact this) (by rw [l1, hRs]; omega) h1x
  have hcpB : ∀ (W : World), W.heap = (W1.setRow g R1).heap → ∀ ty dc sc, (Builtin.copy_ #[29, 29] ty #[.slice (some ⟨g, 4, none⟩) 2 dc, .slice (some ⟨b, 0, none⟩) 2 sc]).run Try.prog W = .ok (goInt 2) (W.setRow g R2) := fun W hW ty dc sc => by
    rw [hR2]
    exact run_copy_rows W _ _ ty 40 g 4 2 dc ⟨b, 0, none⟩ 2 sc R1 40 (cellsDOp [o1, o2]) 4 2 Try.underlying29 hsz (by rw [hW]; exact hh2) rfl l2
      (fun j v hj => by
        have := hcs j v hj
        rw [Addr.add_lit] at this ⊢
        rw [← hcell b _ hb, ← cell_setRow_other W1 g R1 ⟨b, 0 + j, none⟩ hbg] at this
        have e : W.cell? ⟨b, 0 + j, none⟩ = (W1.setRow g R1).cell? ⟨b, 0 + j, none⟩ := by simp [World.cell?, hW]
        rw [e]; exact this) (by rw [l2, hR1s]; omega) h1o
  have hGi : ¬ (G = 0) := by omega
  have hGim : ¬ (G = 1) := by omega
  have hR2s : R2.size = G * 4 := by rw [hR2]; simp [l2, hR1s]; omega
  have hR2t : R2.toList.take 12 = cellsDOp [x, o1, o2] := by
    have e1 : R1.toList.take 4 = cellsDOp [x] := by rw [hR1, List.take_zero, List.nil_append]; exact (by rw [← l1]; exact List.take_left)
    rw [hR2, e1]
    show (cellsDOp [x] ++ cellsDOp [o1, o2] ++ _).take 12 = _
    rw [← cellsDOp_append]
    have l3 : (cellsDOp ([x] ++ [o1, o2])).length = 12 := by rw [cellsDOp_len]; rfl
    rw [← l3]
    exact List.take_left
  have hfin : ∀ W : World, W.heap = ((W1.setRow g R1).setRow g R2).heap → OwnDOp W w.heap.size (.slice (some ⟨g, 0, none⟩) 3 G) [x, o1, o2] := fun W hW =>
    ⟨by rw [cellsDOp_len], .inr ⟨g, G, R2, rfl, Nat.le_of_eq hg.symm, by rw [hW]; exact setRow_heap (W1.setRow g R1) g R1 R2 40 (0, 0) hh2, hGn, by unfold maxLen; omega, hR2s, hR2t⟩⟩
  have hbel : Below w.heap.size w (((w.alloc (.cells ROW 40)).setRow g R1).setRow g R2).drew.drew :=
    (below_setRow (below_setRow ((Below.refl _ _).alloc (Nat.le_refl _) _) (Nat.le_of_eq hg.symm) _) (Nat.le_of_eq hg.symm) _).drew.drew
  subst hW1
  have hE : ((w.alloc (.cells ROW 40)).drew).heap = (w.drew.alloc (.cells ROW 40)).heap := rfl
  have hmx : Try.prog.follows .mixedOrders = true := by kernel_rfl
  have hw1 : IntKind.i64.wrap 1 = 1 := by decide
  have hF : (((w.alloc (.cells ROW 40)).setRow g R1).drew.drew).heap = ((w.drew.alloc (.cells ROW 40)).setRow g R1).heap := rfl
  have hgW : ∀ (A : World) (R : Array Value), (A.drew.setRow g R) = (A.setRow g R).drew := fun _ _ => rfl
  clear hR1 hR2 hROW hG hold hRs hR1s hR2s hR2t hg
  go_enter Try.func69, Try.ntmps69
  go_wp2_with (first
    | (at_builtin; refine Lib.wpList_append_run _ rfl _ _ _ _ rfl _ _ rfl rfl _ _ (hrz _) ?_)
    | (at_builtin; refine wpList_copy_runI _ rfl _ _ 29 29 rfl _ _ rfl rfl (hcpA _ hE _ _) ?_)
    | fail)
  go_region_law_o (refine step_copy_runI rfl _ _ 29 29 rfl (.slice (some ⟨g, 4, none⟩) 2 (G - 1)) (.slice (some ⟨b, 0, none⟩) 2 2) (by simp [Act.eval, Act.put]) (by simp [Act.eval, Act.put]) (hcpB _ hF 3 (G - 1) 2) ?_)
  go_wp2
  go_ret
  exact ⟨⟨_, rfl, hfin _ rfl⟩, hbel⟩

end Go.Proofs.Ytejedpmkbkclhaa
