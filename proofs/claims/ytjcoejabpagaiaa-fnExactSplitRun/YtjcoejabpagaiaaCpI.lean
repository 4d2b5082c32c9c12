/- The program's copyEntry. -/
import Derived.Test.YtjcoejabpagaiaaClone
import Derived.Test.YtjcoejabpagaiaaReg
import Derived.Test.YtjcoejabpagaiaaBox
namespace Go.Proofs.Ytjcoejabpagaiaa
set_option maxRecDepth 100000
open Go.RowKit Go.Deep

/-- The entry lies at A; behind it the block of the answer. -/
def CpS (w : World) (u : ByteArray) (q k : Int) (x : ByteArray) (X : World) : Prop :=
  X.cell? ⟨w.heap.size, 0, none⟩ = some (.string u) ∧ X.cell? ⟨w.heap.size, 1, none⟩ = some (.int .i64 q) ∧ X.cell? ⟨w.heap.size, 2, none⟩ = some (.int .i64 k) ∧ X.cell? ⟨w.heap.size, 3, none⟩ = some (.string x) ∧
    Below w.heap.size w X ∧ ∃ z0 z1 z2 z3, BoxIs X (w.heap.size + 1) #[z0, z1, z2, z3] 43

theorem CpS.next {w X X' : World} {u : ByteArray} {q k : Int} {x : ByteArray} (h : CpS w u q k x X) (hb : Below X.heap.size X X') : CpS w u q k x X' := by
  obtain ⟨a, b, c, d, e, z0, z1, z2, z3, hx⟩ := h
  exact ⟨keepc hb a, keepc hb b, keepc hb c, keepc hb d, e.trans (hb.mono e.size), z0, z1, z2, z3, hx.next hb⟩

theorem CpS.put {w X : World} {u : ByteArray} {q k : Int} {x : ByteArray} (h : CpS w u q k x X) {b : Nat} (hb : b = w.heap.size + 1) :
    CpS w u q k x ((((X.setCell ⟨b, 0, none⟩ (.string u)).setCell ⟨b, 1, none⟩ (.int .i64 q)).setCell ⟨b, 2, none⟩ (.int .i64 k)).setCell ⟨b, 3, none⟩ (.string x)) ∧
      BoxIs ((((X.setCell ⟨b, 0, none⟩ (.string u)).setCell ⟨b, 1, none⟩ (.int .i64 q)).setCell ⟨b, 2, none⟩ (.int .i64 k)).setCell ⟨b, 3, none⟩ (.string x)) b #[.string u, .int .i64 q, .int .i64 k, .string x] 43 := by
  subst hb
  obtain ⟨e0, e1, e2, e3, hB, z0, z1, z2, z3, hx⟩ := h
  have hbx : BoxIs ((((X.setCell ⟨w.heap.size + 1, 0, none⟩ (.string u)).setCell ⟨w.heap.size + 1, 1, none⟩ (.int .i64 q)).setCell ⟨w.heap.size + 1, 2, none⟩ (.int .i64 k)).setCell ⟨w.heap.size + 1, 3, none⟩ (.string x)) (w.heap.size + 1) #[.string u, .int .i64 q, .int .i64 k, .string x] 43 := by
    have h4 := (((hx.set 0 (.string u)).set 1 (.int .i64 q)).set 2 (.int .i64 k)).set 3 (.string x)
    simpa only [List.setIfInBounds_toArray, List.set_cons_zero, List.set_cons_succ] using h4
  have ne : ∀ i j, (⟨w.heap.size + 1, i, none⟩ : Addr) ≠ ⟨w.heap.size, j, none⟩ := fun i j h => by have := congrArg Addr.block h; simp at this
  have ck : ∀ j v, X.cell? ⟨w.heap.size, j, none⟩ = some v → ((((X.setCell ⟨w.heap.size + 1, 0, none⟩ (.string u)).setCell ⟨w.heap.size + 1, 1, none⟩ (.int .i64 q)).setCell ⟨w.heap.size + 1, 2, none⟩ (.int .i64 k)).setCell ⟨w.heap.size + 1, 3, none⟩ (.string x)).cell? ⟨w.heap.size, j, none⟩ = some v := fun j v h => by
    rw [World.cell?_setCell_other (h := ne _ _), World.cell?_setCell_other (h := ne _ _), World.cell?_setCell_other (h := ne _ _), World.cell?_setCell_other (h := ne _ _)]
    exact h
  have hb4 := (((hB.setCell (p := ⟨w.heap.size + 1, 0, none⟩) (Nat.le_succ _) (.string u)).setCell (p := ⟨w.heap.size + 1, 1, none⟩) (Nat.le_succ _) (.int .i64 q)).setCell (p := ⟨w.heap.size + 1, 2, none⟩) (Nat.le_succ _) (.int .i64 k)).setCell (p := ⟨w.heap.size + 1, 3, none⟩) (Nat.le_succ _) (.string x)
  exact ⟨⟨ck 0 _ e0, ck 1 _ e1, ck 2 _ e2, ck 3 _ e3, hb4, _, _, _, _, hbx⟩, hbx⟩

theorem CpS.new (u : ByteArray) (q k : Int) (x : ByteArray) (w : World) : CpS w u q k x ((w.alloc (.cells #[.string u, .int .i64 q, .int .i64 k, .string x] 43)).alloc (.cells #[.string ⟨#[]⟩, .int .i64 0, .int .i64 0, .string ⟨#[]⟩] 43)) :=
  ⟨by simp, by simp, by simp, by simp, ((Below.refl _ _).alloc (Nat.le_refl _) _).alloc (by simp) _, _, _, _, _, BoxIs.new _ _ _ (by simp)⟩

set_option maxHeartbeats 2000000 in
theorem impl_copyEntry (u : ByteArray) (q k : Int) (x : ByteArray) (w : World) (hu : u.size ≤ 281474976710656) (hx : x.size ≤ 281474976710656) :
    Calls Try.prog 21 #[.agg #[.string u, .int .i64 q, .int .i64 k, .string x]] w fun e w' => e = .returned (.agg #[.string u, .int .i64 q, .int .i64 k, .string x]) ∧ Below w.heap.size w w' := by
  go_enter Try.func21, Try.ntmps21
  go_wp2
  have HS0 := CpS.new u q k x w
  refine wp_region_noPanic ?_
  refine wp_region_held_drew (S := fun X => CpS w u q k x X) (by kernel_rfl) (HS0.next (Below.refl _ _).drew) (fun HS => ?_)
  refine wpAnyH_take (i := 0) (v := .pointer (some ⟨w.heap.size, 0, none⟩)) nat0 (by kernel_rfl) (by kernel_rfl) (by kernel_rfl) (fun _ _ _ h => False.elim h) (Or.inl ⟨by rfl, ?_⟩) HS ?_
  · intro wx hSw
    obtain ⟨e0, e1, e2, e3, _, _⟩ := hSw
    go_simp
  simp only [Act.put, List.setIfInBounds_toArray, List.set_cons_zero, List.set_cons_succ]
  refine wpAnyH_take (i := 1) (v := .pointer (some ⟨w.heap.size, 0, none⟩)) nat1 (by kernel_rfl) (by kernel_rfl) (by kernel_rfl) (fun _ _ _ h => False.elim h) (Or.inl ⟨by rfl, ?_⟩) HS ?_
  · intro wx hSw
    obtain ⟨e0, e1, e2, e3, _, _⟩ := hSw
    go_simp
  simp only [Act.put, List.setIfInBounds_toArray, List.set_cons_zero, List.set_cons_succ]
  refine wpAnyH_take (i := 2) (v := .string u) nat2 (by kernel_rfl) (by kernel_rfl) (by kernel_rfl) (fun _ _ _ h => False.elim h) (Or.inl ⟨by rfl, ?_⟩) HS ?_
  · intro wx hSw
    obtain ⟨e0, e1, e2, e3, _, _⟩ := hSw
    go_simp
  simp only [Act.put, List.setIfInBounds_toArray, List.set_cons_zero, List.set_cons_succ]
  refine wpAnyH_take (i := 4) (v := .pointer (some ⟨w.heap.size, 0, none⟩)) nat4 (by kernel_rfl) (by kernel_rfl) (by kernel_rfl) (fun _ _ _ h => False.elim h) (Or.inl ⟨by rfl, ?_⟩) HS ?_
  · intro wx hSw
    obtain ⟨e0, e1, e2, e3, _, _⟩ := hSw
    go_simp
  simp only [Act.put, List.setIfInBounds_toArray, List.set_cons_zero, List.set_cons_succ]
  refine wpAnyH_take (i := 5) (v := .pointer (some ⟨w.heap.size, 1, none⟩)) nat5 (by kernel_rfl) (by kernel_rfl) (by kernel_rfl) (fun _ _ _ h => False.elim h) (Or.inl ⟨by rfl, ?_⟩) HS ?_
  · intro wx hSw
    obtain ⟨e0, e1, e2, e3, _, _⟩ := hSw
    go_simp
  simp only [Act.put, List.setIfInBounds_toArray, List.set_cons_zero, List.set_cons_succ]
  refine wpAnyH_take (i := 6) (v := .int .i64 q) nat6 (by kernel_rfl) (by kernel_rfl) (by kernel_rfl) (fun _ _ _ h => False.elim h) (Or.inl ⟨by rfl, ?_⟩) HS ?_
  · intro wx hSw
    obtain ⟨e0, e1, e2, e3, _, _⟩ := hSw
    go_simp
  simp only [Act.put, List.setIfInBounds_toArray, List.set_cons_zero, List.set_cons_succ]
  refine wpAnyH_take (i := 7) (v := .pointer (some ⟨w.heap.size, 0, none⟩)) nat7 (by kernel_rfl) (by kernel_rfl) (by kernel_rfl) (fun _ _ _ h => False.elim h) (Or.inl ⟨by rfl, ?_⟩) HS ?_
  · intro wx hSw
    obtain ⟨e0, e1, e2, e3, _, _⟩ := hSw
    go_simp
  simp only [Act.put, List.setIfInBounds_toArray, List.set_cons_zero, List.set_cons_succ]
  refine wpAnyH_take (i := 8) (v := .pointer (some ⟨w.heap.size, 2, none⟩)) nat8 (by kernel_rfl) (by kernel_rfl) (by kernel_rfl) (fun _ _ _ h => False.elim h) (Or.inl ⟨by rfl, ?_⟩) HS ?_
  · intro wx hSw
    obtain ⟨e0, e1, e2, e3, _, _⟩ := hSw
    go_simp
  simp only [Act.put, List.setIfInBounds_toArray, List.set_cons_zero, List.set_cons_succ]
  refine wpAnyH_take (i := 9) (v := .int .i64 k) nat9 (by kernel_rfl) (by kernel_rfl) (by kernel_rfl) (fun _ _ _ h => False.elim h) (Or.inl ⟨by rfl, ?_⟩) HS ?_
  · intro wx hSw
    obtain ⟨e0, e1, e2, e3, _, _⟩ := hSw
    go_simp
  simp only [Act.put, List.setIfInBounds_toArray, List.set_cons_zero, List.set_cons_succ]
  refine wpAnyH_take (i := 11) (v := .pointer (some ⟨w.heap.size, 3, none⟩)) nat11 (by kernel_rfl) (by kernel_rfl) (by kernel_rfl) (fun _ _ _ h => False.elim h) (Or.inl ⟨by rfl, ?_⟩) HS ?_
  · intro wx hSw
    obtain ⟨e0, e1, e2, e3, _, _⟩ := hSw
    go_simp
  simp only [Act.put, List.setIfInBounds_toArray, List.set_cons_zero, List.set_cons_succ]
  refine wpAnyH_take (i := 12) (v := .string x) nat12 (by kernel_rfl) (by kernel_rfl) (by kernel_rfl) (fun _ _ _ h => False.elim h) (Or.inl ⟨by rfl, ?_⟩) HS ?_
  · intro wx hSw
    obtain ⟨e0, e1, e2, e3, _, _⟩ := hSw
    go_simp
  simp only [Act.put, List.setIfInBounds_toArray, List.set_cons_zero, List.set_cons_succ]
  refine wpAnyH_ready (rs := [3]) (by kernel_rfl) (by simp) ?_
  refine AllReadyH.cons nat3 (fun K hK => ?_) AllReadyH.nil
  go_simp
  go_at_call 35
  refine (strings_Clone u _ hu).mono ?_
  rintro e wq0 ⟨rfl, hb0⟩
  have hS0 := HS.next hb0
  refine hK.out _ _ hS0 (fun _ => ?_)
  clear hK K hb0
  refine wpAnyH_take (i := 10) (v := .agg #[.string u, .int .i64 q, .int .i64 k]) nat10 (by kernel_rfl) (by kernel_rfl) (by kernel_rfl) (fun _ _ _ h => False.elim h) (Or.inl ⟨by rfl, ?_⟩) hS0 ?_
  · intro wx hSw
    obtain ⟨e0, e1, e2, e3, _, _⟩ := hSw
    go_simp
  simp only [Act.put, List.setIfInBounds_toArray, List.set_cons_zero, List.set_cons_succ]
  refine wpAnyH_ready (rs := [13]) (by kernel_rfl) (by simp) ?_
  refine AllReadyH.cons nat13 (fun K hK => ?_) AllReadyH.nil
  go_simp
  go_at_call 35
  refine (strings_Clone x _ hx).mono ?_
  rintro e wq1 ⟨rfl, hb1⟩
  have hS1 := hS0.next hb1
  refine hK.out _ _ hS1 (fun _ => ?_)
  clear hK K hb1
  refine wpAnyH_take (i := 14) (v := .agg #[.string u, .int .i64 q, .int .i64 k, .string x]) nat14 (by kernel_rfl) (by kernel_rfl) (by kernel_rfl) (fun _ _ _ h => False.elim h) (Or.inl ⟨by rfl, ?_⟩) hS1 ?_
  · intro wx hSw
    obtain ⟨e0, e1, e2, e3, _, _⟩ := hSw
    go_simp
  simp only [Act.put, List.setIfInBounds_toArray, List.set_cons_zero, List.set_cons_succ]
  refine wpAnyH_ready (rs := [15]) (by kernel_rfl) (by simp) ?_
  refine AllReadyH.cons nat15 (fun K hK => ?_) AllReadyH.nil
  have HP := CpS.put (show CpS w u q k x wq1 from hS1) rfl
  obtain ⟨c0, c1, c2, c3, hB2, s0, s1, s2, s3, hx2⟩ := hS1
  have hfr := hx2.free
  have hce := hx2.cell
  have hlt := hx2.lt
  go_simp
  refine hK.out _ _ HP.1 (fun _ => ?_)
  clear hK K
  generalize World.setCell _ _ _ = WE at HP ⊢
  refine wpAnyH_done (by kernel_rfl) ?_ _
  refine NoPanic.normal ?_
  obtain ⟨⟨_, _, _, _, hBE, _⟩, hxE⟩ := HP
  have r0 := hxE.cell 0
  have r1 := hxE.cell 1
  have r2 := hxE.cell 2
  have r3 := hxE.cell 3
  simp only [List.getElem?_toArray, List.getElem?_cons_succ, List.getElem?_cons_zero] at r0 r1 r2 r3
  go_wp2
  refine bodyPost_ret (v := .agg #[.string u, .int .i64 q, .int .i64 k, .string x]) (by simp [results, Try.results21, go_sem, r0, r1, r2, r3]) rfl ⟨rfl, hBE⟩

end Go.Proofs.Ytjcoejabpagaiaa
