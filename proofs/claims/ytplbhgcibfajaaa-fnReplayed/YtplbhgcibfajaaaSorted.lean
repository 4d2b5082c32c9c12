/- Rows of numbers: numsOf's row, sorted[int64], differ[int64] of the program. -/
import Derived.Test.YtplbhgcibfajaaaInts
import Derived.Test.YtplbhgcibfajaaaSlI
import Derived.Test.YtplbhgcibfajaaaKOrd
import Derived.Test.YtplbhgcibfajaaaReg
namespace Go.Proofs.Ytplbhgcibfajaaa
set_option maxRecDepth 100000
open Go.RowKit Go.Deep Go.Sort

theorem cmpI_lt (x y : Int) : cmpI x y < 0 ↔ x < y := by
  rcases cmpI_cases x y with ⟨a, _, l⟩ | ⟨a, _, l⟩ | ⟨a, _, l⟩ <;> rw [a] <;> omega
theorem cmpI_ltOf (x y : Int) : ltOf cmpI x y = decide (x < y) := by
  unfold ltOf; rw [Bool.eq_iff_iff]; simp [cmpI_lt]
theorem cmpI_swo : SWO (ltOf cmpI) := by
  refine ⟨fun x => ?_, fun x y z hx hy => ?_, fun x y z hx hy => ?_⟩
  · rw [cmpI_ltOf]; simp
  · rw [cmpI_ltOf] at *; simp at *; omega
  · rw [cmpI_ltOf] at *; simp at *; omega
theorem cmpI_one (x y : Int) (h : ltOf cmpI x y = false) (k : ltOf cmpI y x = false) : x = y := by
  rw [cmpI_ltOf] at *; simp at *; omega

/-- The numbers in order. -/
def sortI (l : List Int) : List Int := l.mergeSort fun x y => !(ltOf cmpI) y x
theorem sortI_len (l : List Int) : (sortI l).length = l.length := List.length_mergeSort l
theorem sortI_perm (l : List Int) : (sortI l).Perm l := List.mergeSort_perm l _
theorem sortI_le (l : List Int) : (sortI l).Pairwise (· ≤ ·) := by
  have h := List.pairwise_mergeSort (le := fun x y => !(ltOf cmpI) y x) (fun a b c => by simp [cmpI_ltOf]; omega) (fun a b => by simp [cmpI_ltOf]; omega) l
  exact h.imp fun hh => by simpa [cmpI_ltOf] using hh

/-- No two of them are alike. -/
def diffB (l : List Int) : Bool := (List.range (l.length - 1)).all fun i => !(l.getD i 0 == l.getD (i + 1) 0)

theorem sorted_nodup {l : List Int} (h : l.Pairwise (· ≤ ·)) (k : ∀ i, i + 1 < l.length → l.getD i 0 ≠ l.getD (i + 1) 0) : l.Nodup := by
  rw [List.nodup_iff_pairwise_ne, List.pairwise_iff_getElem]
  intro i j hi hj hij
  have hle := List.pairwise_iff_getElem.1 h
  have k1 := k i (by omega)
  simp only [List.getD, List.getElem?_eq_getElem (show i < l.length by omega), List.getElem?_eq_getElem (show i + 1 < l.length by omega), Option.getD_some] at k1
  have a := hle i (i + 1) (by omega) (by omega) (by omega)
  rcases Nat.lt_or_eq_of_le (show i + 1 ≤ j by omega) with hl | rfl
  · have b := hle (i + 1) j (by omega) hj hl
    omega
  · omega
theorem nodup_adj {l : List Int} (h : l.Nodup) (i : Nat) (hi : i + 1 < l.length) : l.getD i 0 ≠ l.getD (i + 1) 0 := by
  simp only [List.getD, List.getElem?_eq_getElem (show i < l.length by omega), List.getElem?_eq_getElem hi, Option.getD_some]
  exact List.pairwise_iff_getElem.1 (List.nodup_iff_pairwise_ne.1 h) i (i + 1) (by omega) hi (by omega)

theorem cmpI_grown (x y : Int) (w : World) :
    Calls Try.prog 68 #[.int .i64 x, .int .i64 y] w fun e w' => e = .returned (.int .i64 (cmpI x y)) ∧ ∃ n os, w' = grow (w.drewN n) os := by
  refine (impl_CompareI x y w).mono ?_
  rintro e w' ⟨rfl, rfl⟩
  exact ⟨rfl, 0, #[], by rw [grow_empty]; rfl⟩

theorem OwnI.blk {w : World} {B g n cap : Nat} {l : List Int} (h : OwnI w B (.slice (some ⟨g, 0, none⟩) n cap) l) : n = l.length ∧ B ≤ g ∧ ∃ cur, w.heap[g]? = some (.cells cur 2 (0, 0)) ∧ cur.size = cap ∧ l.length ≤ cap ∧ cap ≤ maxLen ∧ cur.toList.take l.length = l.map (Value.int .i64) := by
  rcases h.2 with ⟨hn, _⟩ | ⟨g', cap', cur, hv, hB, hcur, h1, h2, h3, h4⟩
  · cases hn
  · simp only [Value.slice.injEq, Option.some.injEq, Addr.mk.injEq, and_true] at hv
    obtain ⟨rfl, rfl, rfl⟩ := hv
    refine ⟨by simp, hB, cur, hcur, by simpa using h3, by simpa using h1, h2, ?_⟩
    simpa using h4

/-- Where the numbers of a list are read from: nil, or a row. -/
def IntSrc (w : World) (v : Value) (l : List Int) : Prop :=
  (v = .slice none 0 0 ∧ l = []) ∨ ∃ g cap, v = .slice (some ⟨g, 0, none⟩) l.length cap ∧ g < w.heap.size ∧ ∀ i, i < l.length → w.cell? ⟨g, i, none⟩ = some (.int .i64 (l.getD i 0))

theorem IntSrc.next {w w' : World} {v : Value} {l : List Int} (h : IntSrc w v l) (hb : Below w.heap.size w w') : IntSrc w' v l := by
  rcases h with h | ⟨g, cap, hv, hg, hc⟩
  · exact .inl h
  · exact .inr ⟨g, cap, hv, Nat.lt_of_lt_of_le hg hb.size, fun i hi => by rw [hb.cell (p := ⟨g, i, none⟩) hg]; exact hc i hi⟩
theorem OwnI.src {w : World} {B : Nat} {v : Value} {l : List Int} (h : OwnI w B v l) : IntSrc w v l := by
  have hc := fun g => World.ownsRow.cells (w := w) h (g := g)
  rcases h.2 with ⟨rfl, h0⟩ | ⟨g, cap, cur, rfl, hg, hh, hle, hcap, hsz, htake⟩
  · have : l = [] := by simpa using h0
    subst this
    exact .inl ⟨rfl, rfl⟩
  · refine .inr ⟨g, cap, by simp, (Array.getElem?_eq_some_iff.1 hh).1, fun i hi => ?_⟩
    have hi2 : (l.map (Value.int .i64))[i]? = some (.int .i64 (l.getD i 0)) := by simp [List.getD, hi]
    have hx : w.cell? (({ block := g, off := 0 } : Addr).add i) = some (.int .i64 (l.getD i 0)) := hc g rfl i _ hi2
    rw [Addr.add_lit] at hx
    simpa using hx

theorem sortWI_below {w : World} {B g n : Nat} (d : Array Int) (os : Array Obj) (hB : B ≤ g) (hg : g < w.heap.size) : Below B w (Go.Proofs.sortWorld (Value.int .i64) w g 0 n d os) := by
  refine ⟨rfl, rfl, rfl, ?_, fun k hk => ?_⟩
  · simp [Go.Proofs.sortWorld, grow, putRow, mapBlock]
  · have h1 : k < w.heap.size := by omega
    have h2 : ¬ g = k := by omega
    simp [Go.Proofs.sortWorld, grow, putRow, mapBlock, Array.getElem?_append, Array.getElem_modify, h1, h2]

theorem OwnI.sorted {w : World} {B g n cap : Nat} {l m : List Int} {k : Nat} (h : OwnI w B (.slice (some ⟨g, 0, none⟩) n cap) l) (hm : m.length = l.length) (os : Array Obj) :
    OwnI (Go.Proofs.sortWorld (Value.int .i64) w g 0 k m.toArray os) B (.slice (some ⟨g, 0, none⟩) n cap) m := by
  obtain ⟨rfl, hB, cur, hc, hs, h1, h2, h3⟩ := h.blk
  have hlt : g < w.heap.size := (Array.getElem?_eq_some_iff.1 hc).1
  have hh : (Go.Proofs.sortWorld (Value.int .i64) w g 0 k m.toArray os).heap[g]? = some (.cells (putCells (Value.int .i64) 0 m.toArray cur) 2 (0, 0)) := by
    simp only [Go.Proofs.sortWorld, grow, putRow, mapBlock]
    rw [Array.getElem?_append_left (by simpa using hlt), Array.getElem?_modify, if_pos rfl]
    show Option.map _ w.heap[g]? = _
    rw [hc]
    rfl
  refine ⟨by simp, .inr ⟨g, cap, _, by simp [hm], hB, hh, by simpa [hm] using h1, h2, by simp [putCells, hs], ?_⟩⟩
  apply List.ext_getElem?
  intro t
  simp only [List.length_map, Nat.mul_one, List.getElem?_take, List.getElem?_map]
  by_cases ht : t < m.length
  · have hz : t < cur.size := by omega
    simp [putCells, hz, ht]
  · rw [if_neg ht, List.getElem?_eq_none (by omega)]
    rfl

set_option maxHeartbeats 1000000 in
theorem sort_ints (v : Value) (l : List Int) (B : Nat) (w : World) (hown : OwnI w B v l) (hz : l.length ≤ 1000000) :
    Calls Try.prog 80 #[v, .func (.func 68) #[] #[]] w fun e w' => e = .returned (.tuple #[]) ∧ OwnI w' B v (sortI l) ∧ Below B w w' := by
  rcases hown.src with ⟨rfl, rfl⟩ | ⟨g, cap, rfl, hg, _⟩
  · refine Calls.mono (Go.Proofs.AnyF.slices_SortFunc_none { lsortI with } none 0 _ w) ?_
    rintro e w' ⟨rfl, rfl⟩
    exact ⟨rfl, by rw [show sortI [] = [] by simp [sortI]]; exact hown, Below.refl _ _⟩
  · obtain ⟨_, hB, cur, hc, hs, h1, h2, h3⟩ := hown.blk
    have eg : ∀ args w, (callFunc 68 args).run Try.prog w = .ok (.enter 68 args) w := enters_of Try.func68 (by kernel_rfl) rfl
    have hcmp : Go.Proofs.CmpLays1 Try.prog 68 #[] (Value.int .i64) cmpI g 0 l.toArray.size w := fun m os dk _ x y => cmpI_grown x y _
    have hH : Holds (Value.int .i64) w g 0 l.toArray := by
      intro j hj
      have hj' : j < l.length := by simpa using hj
      refine ⟨?_, by simp [World.frozen?, hc]⟩
      have := hown.src
      rcases this with ⟨hn, _⟩ | ⟨g', cap', hv, _, hcell⟩
      · cases hn
      · simp only [Value.slice.injEq, Option.some.injEq, Addr.mk.injEq, and_true] at hv
        obtain ⟨rfl, _, _⟩ := hv
        rw [Nat.zero_add, hcell j hj']
        simp [List.getD, hj']
    have hcon := Go.Proofs.Any.slices_SortFunc_total lsortI (Value.int .i64) (fun _ => rfl) cmpI cmpI_swo 68 #[] g 0 cap l.toArray w eg hcmp hH hg (by simp; omega) cmpI_one
    rw [List.size_toArray] at hcon
    refine Calls.mono hcon ?_
    rintro e w' ⟨rfl, k, os, rfl⟩
    exact ⟨rfl, hown.sorted (sortI_len l) os, sortWI_below _ _ hB hg⟩

set_option maxHeartbeats 1000000 in
theorem lib_CloneI (v : Value) (l : List Int) (w : World) (hs : IntSrc w v l) (hz : l.length ≤ 1000000) :
    Calls Try.prog 79 #[v] w fun e w' => (∃ v', e = .returned v' ∧ OwnI w' w.heap.size v' l) ∧ Below w.heap.size w w' := by
  have hi5 : (Try.prog.info? 2).map (fun i => (i.zero, i.size, i.bytes)) = some (some (.int .i64 0), 1, 8) := by kernel_rfl
  obtain ⟨i0, hi0, hz0, hs0, hb0⟩ := info_parts hi5
  rcases hs with ⟨rfl, rfl⟩ | ⟨g, cap, rfl, hg, hc⟩
  · have he : ∀ wx : World, (binOp .eql 25 (.slice none 0 0) (.slice none 0 0)).run Try.prog wx = .ok (.bool true) wx := fun wx => by first | exact Lib.run_eql_slice_nil wx _ _ _ _ _ Try.underlying25 | exact Lib.run_eql_slice_nil wx _ _ _ _ _ _ _ Try.underlying25
    go_enter Try.func79, Try.ntmps79
    go_wp2
    go_ret
    exact ⟨⟨_, rfl, OwnI.nil _ _⟩, Below.refl _ _⟩
  · have he : ∀ wx : World, (binOp .eql 25 (.slice (some ⟨g, 0, none⟩) l.length cap) (.slice none 0 0)).run Try.prog wx = .ok (.bool false) wx := fun wx => by first | exact Lib.run_eql_slice_nil wx _ _ _ _ _ Try.underlying25 | exact Lib.run_eql_slice_nil wx _ _ _ _ _ _ _ Try.underlying25
    have hown : World.ownsRow (w.alloc (.cells #[] 2)) w.heap.size 2 1 (.slice (some ⟨w.heap.size, 0, none⟩) 0 0) 0 [] := Own.lit w w.heap.size 2 [] 0 rfl (Nat.le_refl _) (by decide)
    have hcell : ∀ j u, (l.map (Value.int .i64))[j]? = some u → (w.alloc (.cells #[] 2)).cell? ((⟨g, 0, none⟩ : Addr).add j) = some u := fun j u hu => by
      rw [Addr.add_lit]
      show (w.alloc (.cells #[] 2)).cell? ⟨g, 0 + j, none⟩ = some u
      obtain ⟨hj, rfl⟩ := List.getElem?_eq_some_iff.1 hu
      have hj' : j < l.length := by simpa using hj
      have := hc j hj'
      rw [Nat.zero_add, World.cell?_alloc_old _ _ _ (Nat.ne_of_lt hg), this]
      simp [List.getD, hj']
    go_enter Try.func79, Try.ntmps79
    go_wp2_with (first
      | (at_builtin; refine wpList_append_own _ rfl _ _ 25 rfl w.heap.size 2 i0 _ 1 8 Try.underlying25 hi0 hz0 hs0 hb0 rfl (by decide) _ 0 [] (by rfl) hown ⟨g, 0, none⟩ l.length cap (l.map (Value.int .i64)) (by rfl) (by simp) hcell (by simp [Value.oneCell']) (by unfold maxLen; omega) (by omega) (by simp) ?_; intro v' w' h1 h2 _))
    have hb : Below w.heap.size w w' := ((Below.refl _ _).alloc (Nat.le_refl _) _).grown h2 (by simp) fun k hk => (World.ownsRow.lt hown k hk).1
    go_wp2
    go_ret
    refine ⟨⟨_, rfl, ?_⟩, hb⟩
    unfold OwnI Own
    simpa using h1

set_option maxHeartbeats 1000000 in
theorem impl_sortedI (v : Value) (l : List Int) (w : World) (hs : IntSrc w v l) (hz : l.length ≤ 1000000) :
    Calls Try.prog 67 #[v, .func (.func 68) #[] #[]] w fun e w' => (∃ v', e = .returned v' ∧ OwnI w' w.heap.size v' (sortI l)) ∧ Below w.heap.size w w' := by
  go_enter Try.func67, Try.ntmps67
  go_wp2_with fail
  refine (lib_CloneI v l w hs hz).mono ?_
  rintro e w1 ⟨⟨v1, rfl, ho⟩, hb⟩
  have HO := hide ho
  have HB := hide hb
  clear ho hb hs
  go_wp2_with fail
  refine (sort_ints v1 l _ w1 HO.out hz).mono ?_
  rintro e w2 ⟨rfl, ho2, hb2⟩
  have HO2 := hide ho2
  have HB2 := hide (HB.out.trans hb2)
  clear ho2 hb2 HO HB
  go_wp2
  go_ret
  exact ⟨⟨_, rfl, HO2.out⟩, HB2.out⟩

end Go.Proofs.Ytplbhgcibfajaaa
