/- slices.Sorted(maps.Keys(m)) at a folder's map, laid by the kit's shelf (lay-plain.mjs, lay2src.py): the names, in their order. -/
import Derived.Shelf.SlIter.Nil
import Derived.Shelf.SortM.Plain
import Derived.Shelf.SortM.SortNone
import Derived.Test.YtejedpmkbkclhaaSeeO
import Derived.Test.YtejedpmkbkclhaaClone
namespace Go.Proofs.Ytejedpmkbkclhaa
set_option maxRecDepth 100000
open Go.RowKit Go.Maps Go.Sort Go.Shelf

def lkeys_ren : Go.Shelf.Ren := ⟨fun | 7 => 90 | 10 => 100 | n => n, fun | 23 => 100 | 26 => 9 | 3 => 98 | 28 => 131 | 0 => 0 | 27 => 130 | 33 => 115 | 4 => 4 | n => n, fun | n => n⟩
theorem lkeys : Go.Proofs.SlLaysZ.n7 Try.prog lkeys_ren := {
  mixed := by kernel_rfl
  f7 := ⟨Try.f90.name, by decide, Try.func90.trans (congrArg some (by kernel_rfl))⟩
  f10 := ⟨Try.f100.name, by decide, Try.func100.trans (congrArg some (by kernel_rfl))⟩
  t0 := Try.underlying0
  a0 := Try.isAgg0
  z0 := Try.sizeOf0
  v0 := Try.zeroValue0
  t4 := Try.underlying4
  a4 := Try.isAgg4
  z4 := Try.sizeOf4
  v4 := Try.zeroValue4
  t23 := Try.underlying100
  a23 := Try.isAgg100
  z23 := Try.sizeOf100
  v23 := Try.zeroValue100
  t26 := Try.underlying9
  a26 := Try.isAgg9
  z26 := Try.sizeOf9
  v26 := Try.zeroValue9
  t27 := Try.underlying130
  a27 := Try.isAgg130
  z27 := Try.sizeOf130
  v27 := Try.zeroValue130
  t28 := Try.underlying131
  a28 := Try.isAgg131
  z28 := Try.sizeOf131
  v28 := Try.zeroValue131
  t33 := Try.underlying115
  a33 := Try.isAgg115
  z33 := Try.sizeOf115
  v33 := Try.zeroValue115 }
def lsorted_ren : Go.Shelf.Ren := ⟨fun | 6 => 89 | 8 => 98 | 9 => 99 | 11 => 104 | 13 => 106 | 12 => 105 | 23 => 117 | 24 => 118 | 14 => 108 | 15 => 109 | 16 => 110 | 17 => 111 | 18 => 112 | 19 => 113 | 20 => 114 | 21 => 115 | 22 => 116 | 25 => 119 | 26 => 120 | 27 => 121 | 28 => 122 | 29 => 123 | 30 => 124 | 31 => 125 | n => n, fun | 26 => 9 | 28 => 131 | 24 => 110 | 0 => 0 | 3 => 3 | 37 => 65 | 48 => 158 | 50 => 141 | 4 => 4 | 40 => 150 | 39 => 149 | 45 => 155 | 5 => 5 | 9 => 9 | 51 => 160 | 55 => 163 | 57 => 165 | 58 => 166 | 33 => 115 | n => n, fun | n => n⟩
theorem lsorted : Go.Proofs.SlLaysZ.n6 Try.prog lsorted_ren := {
  mixed := by kernel_rfl
  f6 := ⟨Try.f89.name, by decide, Try.func89.trans (congrArg some (by kernel_rfl))⟩
  f8 := ⟨Try.f98.name, by decide, Try.func98.trans (congrArg some (by kernel_rfl))⟩
  f11 := ⟨Try.f104.name, by decide, Try.func104.trans (congrArg some (by kernel_rfl))⟩
  t0 := Try.underlying0
  a0 := Try.isAgg0
  z0 := Try.sizeOf0
  v0 := Try.zeroValue0
  t24 := Try.underlying110
  a24 := Try.isAgg110
  z24 := Try.sizeOf110
  v24 := Try.zeroValue110
  t26 := Try.underlying9
  a26 := Try.isAgg9
  z26 := Try.sizeOf9
  v26 := Try.zeroValue9
  t28 := Try.underlying131
  a28 := Try.isAgg131
  z28 := Try.sizeOf131
  v28 := Try.zeroValue131
  i26 := by kernel_rfl }
def lsrt_ren : Go.Shelf.Ren := ⟨fun | 6 => 99 | 8 => 106 | 9 => 105 | 19 => 117 | 20 => 118 | 21 => 108 | 22 => 109 | 23 => 110 | 24 => 111 | 25 => 112 | 26 => 113 | 27 => 114 | 28 => 115 | 29 => 116 | 36 => 119 | 31 => 120 | 32 => 121 | 37 => 122 | 38 => 123 | 39 => 124 | 41 => 125 | n => n, fun | 27 => 110 | 29 => 9 | 3 => 3 | 32 => 65 | 26 => 110 | 0 => 0 | 44 => 158 | 46 => 141 | 4 => 4 | 36 => 150 | 35 => 149 | 41 => 155 | 5 => 5 | 9 => 9 | 53 => 160 | 57 => 163 | 63 => 165 | 64 => 166 | n => n, fun | n => n⟩
theorem lsrt : Go.Proofs.SlLaysM.n6 Try.prog lsrt_ren := {
  mixed := by kernel_rfl
  f6 := ⟨Try.f99.name, by decide, Try.func99.trans (congrArg some (by kernel_rfl))⟩
  f8 := Try.func106.trans (congrArg some (by kernel_rfl))
  f9 := ⟨Try.f105.name, by decide, Try.func105.trans (congrArg some (by kernel_rfl))⟩
  f19 := Try.func117.trans (congrArg some (by kernel_rfl))
  f20 := Try.func118.trans (congrArg some (by kernel_rfl))
  f21 := ⟨Try.f108.name, by decide, Try.func108.trans (congrArg some (by kernel_rfl))⟩
  f22 := ⟨Try.f109.name, by decide, Try.func109.trans (congrArg some (by kernel_rfl))⟩
  f23 := ⟨Try.f110.name, by decide, Try.func110.trans (congrArg some (by kernel_rfl))⟩
  f24 := ⟨Try.f111.name, by decide, Try.func111.trans (congrArg some (by kernel_rfl))⟩
  f25 := ⟨Try.f112.name, by decide, Try.func112.trans (congrArg some (by kernel_rfl))⟩
  f26 := ⟨Try.f113.name, by decide, Try.func113.trans (congrArg some (by kernel_rfl))⟩
  f27 := ⟨Try.f114.name, by decide, Try.func114.trans (congrArg some (by kernel_rfl))⟩
  f28 := ⟨Try.f115.name, by decide, Try.func115.trans (congrArg some (by kernel_rfl))⟩
  f29 := ⟨Try.f116.name, by decide, Try.func116.trans (congrArg some (by kernel_rfl))⟩
  f31 := Try.func120.trans (congrArg some (by kernel_rfl))
  f32 := Try.func121.trans (congrArg some (by kernel_rfl))
  f36 := ⟨Try.f119.name, by decide, Try.func119.trans (congrArg some (by kernel_rfl))⟩
  f37 := ⟨Try.f122.name, by decide, Try.func122.trans (congrArg some (by kernel_rfl))⟩
  f38 := ⟨Try.f123.name, by decide, Try.func123.trans (congrArg some (by kernel_rfl))⟩
  f39 := ⟨Try.f124.name, by decide, Try.func124.trans (congrArg some (by kernel_rfl))⟩
  f41 := ⟨Try.f125.name, by decide, Try.func125.trans (congrArg some (by kernel_rfl))⟩
  t0 := Try.underlying0
  a0 := Try.isAgg0
  z0 := Try.sizeOf0
  v0 := Try.zeroValue0
  t3 := Try.underlying3
  a3 := Try.isAgg3
  z3 := Try.sizeOf3
  v3 := Try.zeroValue3
  t4 := Try.underlying4
  a4 := Try.isAgg4
  z4 := Try.sizeOf4
  v4 := Try.zeroValue4
  t5 := Try.underlying5
  a5 := Try.isAgg5
  z5 := Try.sizeOf5
  v5 := Try.zeroValue5
  t9 := Try.underlying9
  a9 := Try.isAgg9
  z9 := Try.sizeOf9
  v9 := Try.zeroValue9
  t26 := Try.underlying110
  a26 := Try.isAgg110
  z26 := Try.sizeOf110
  v26 := Try.zeroValue110
  t27 := Try.underlying110
  a27 := Try.isAgg110
  z27 := Try.sizeOf110
  v27 := Try.zeroValue110
  t29 := Try.underlying9
  a29 := Try.isAgg9
  z29 := Try.sizeOf9
  v29 := Try.zeroValue9
  t32 := Try.underlying65
  a32 := Try.isAgg65
  z32 := Try.sizeOf65
  v32 := Try.zeroValue65
  t35 := Try.underlying149
  a35 := Try.isAgg149
  z35 := Try.sizeOf149
  v35 := Try.zeroValue149
  t36 := Try.underlying150
  a36 := Try.isAgg150
  z36 := Try.sizeOf150
  v36 := Try.zeroValue150
  t41 := Try.underlying155
  a41 := Try.isAgg155
  z41 := Try.sizeOf155
  v41 := Try.zeroValue155
  t44 := Try.underlying158
  a44 := Try.isAgg158
  z44 := Try.sizeOf158
  v44 := Try.zeroValue158
  t46 := Try.underlying141
  a46 := Try.isAgg141
  z46 := Try.sizeOf141
  v46 := Try.zeroValue141
  t53 := Try.underlying160
  a53 := Try.isAgg160
  z53 := Try.sizeOf160
  v53 := Try.zeroValue160
  t57 := Try.underlying163
  a57 := Try.isAgg163
  z57 := Try.sizeOf163
  v57 := Try.zeroValue163
  t63 := Try.underlying165
  a63 := Try.isAgg165
  z63 := Try.sizeOf165
  v63 := Try.zeroValue165
  t64 := Try.underlying166
  a64 := Try.isAgg166
  z64 := Try.sizeOf166
  v64 := Try.zeroValue166 }


theorem lsortsF (m : Nat) : AnyZ.SortsIn Try.prog lsorted_ren Fence.wide m :=
  ⟨fun blk off cap ss W hH hblk hsz => callsIn_wide.2 (AnyM.slices_Sort_string lsrt blk off cap ss W hH hblk hsz),
   fun p cap W => callsIn_wide.2 (AnyM.slices_Sort_string_none lsrt p cap W)⟩

theorem lib_MapsKeys (mb : Option Nat) (W : World) : Calls Try.prog 90 #[.map mb] W fun e w' => e = .returned (.func (.func 100) #[] #[.pointer (some ⟨W.heap.size, 0, none⟩)]) ∧ w' = W.alloc (.cells #[.map mb] 100) :=
  callsIn_wide.1 (AnyZ.keys_in lkeys Fence.wide 5 trivial rfl mb W)

theorem keysL_le {L : List File1} (hr : RisF L) : (L.map fun f => f.n.data.toList).Pairwise (fun x y => decide (x ≤ y) = true) := by
  refine List.pairwise_map.2 (hr.imp fun {a b} h => ?_)
  unfold nmL at h
  rw [bytesLess_eq, ByteArray.toList_eq, ByteArray.toList_eq] at h
  rw [decide_eq_true_eq] at h ⊢
  exact List.le_of_lt h
theorem strKeys_dataF (L : List File1) (V : ByteArray → Value) : strKeys (dataF L V) = L.map fun f => f.n.data.toList := by
  unfold strKeys dataF
  simp only [List.map_map]
  rfl
theorem sorted_keysF {L : List File1} (hr : RisF L) {V : ByteArray → Value} {ss : List (List UInt8)} (h : ss.Perm (strKeys (dataF L V))) : (ss.mergeSort (fun x y => decide (x ≤ y))).map encStr = L.map (fun f => Value.string f.n) := by
  rw [mergeSort_of_perm h, strKeys_dataF, List.mergeSort_of_pairwise (keysL_le hr), List.map_map]
  rfl

/-- The names of a folder's map, in their order, in a row of their own. -/
theorem lib_SortedKeys (f b : Nat) (V : ByteArray → Value) (L : List File1) (w : World) (hl : L.length ≤ 100000) (hF : FoldM w f b V L) :
    Calls Try.prog 89 #[.func (.func 100) #[] #[.pointer (some ⟨w.heap.size, 0, none⟩)]] (w.alloc (.cells #[.map (some b)] 100)) fun e w' => (∃ v, e = .returned v ∧ w'.ownsRow w.heap.size 9 1 v L.length (L.map fun f => Value.string f.n)) ∧ Below w.heap.size w w' := by
  have hown := hF.mp
  have hbl := hown.lt
  have hsz := dataF_size L V
  have hseq : SeqGives Fence.wide 2 Try.prog 100 #[.pointer (some ⟨w.heap.size, 0, none⟩)] encStr (fun ss => ss.Perm (strKeys (dataF L V))) (Maps.size (dataF L V)) (w.alloc (.cells #[.map (some b)] 100)) :=
    AnyZ.keys_gives (ρ := lkeys_ren) { lkeys with } Fence.wide _ trivial rfl (by omega) w.heap.size b L.length (dataF L V) _ (by simp) (by simp) (by
      obtain ⟨es, clock, hb, Ft, hs, hD⟩ := hown
      exact ⟨es, clock, (Below.heap_alloc _ _ b hbl).trans hb, Ft, hs, hD⟩)
  have key := callsIn_wide.1 (AnyZ.sorted_in lsorted Fence.wide 5 trivial trivial trivial trivial rfl (by omega) (lsortsF _) (enters_of Try.func99 (by kernel_rfl) rfl) 100 #[.pointer (some ⟨w.heap.size, 0, none⟩)] trivial (enters_of Try.func100 (by kernel_rfl) rfl) _ _ (by rw [hsz]; unfold maxLen; omega) (by rw [hsz]; omega) _ hseq)
  refine key.mono ?_
  rintro e w' ⟨v, ss, rfl, hS, hrow, _, hb⟩
  have hlen : ss.length = L.length := by rw [hS.length_eq, strKeys_dataF, List.length_map]
  rw [sorted_keysF hF.ris hS, hlen] at hrow
  exact ⟨⟨v, rfl, ownsRow_base_a hrow (by simp)⟩, ((Below.refl _ w).alloc (Nat.le_refl _) _).trans (hb.mono (by simp))⟩

end Go.Proofs.Ytejedpmkbkclhaa

/- The folder's files as a row. (By gen_lst.py.) -/
namespace Go.Proofs.Ytejedpmkbkclhaa
set_option maxRecDepth 100000
open Go.RowKit Go.Deep Go.Maps

theorem own_at {w : World} {B n c : Nat} {e : TypeId} {a : Option Addr} {xs : List Value} (h : w.ownsRow B e 1 (.slice a n c) n xs) {i : Nat} {x : Value} (hi : xs[i]? = some x) : ∃ g, a = some ⟨g, 0, none⟩ ∧ g < w.heap.size ∧ w.cell? ⟨g, i, none⟩ = some x := by
  have hil := (List.getElem?_eq_some_iff.1 hi).1
  have h' := h
  rcases h.2 with ⟨hv, h0⟩ | ⟨g, cap, cur, hv, hg, hh, _⟩
  · have h1 : xs.length = n * 1 := h.1
    omega
  · obtain ⟨rfl, _, _⟩ : a = some ⟨g, 0, none⟩ ∧ n = n ∧ c = cap := by injection hv with h1 h2 h3; exact ⟨h1, rfl, h3⟩
    refine ⟨g, rfl, (Array.getElem?_eq_some_iff.1 hh).1, ?_⟩
    have hc := World.ownsRow.cells h (g := g) rfl i x hi
    rw [Addr.add_lit] at hc
    have e2 : (0 : Nat) + i = i := by omega
    rw [e2] at hc
    exact hc

set_option linter.unusedVariables false in
set_option linter.unusedSimpArgs false in
set_option maxHeartbeats 4000000 in
theorem impl_list (B f b : Nat) (V : ByteArray → Value) (L : List File1) (w : World) (hl : L.length ≤ 100000) (hn : ∀ x, x ∈ L → x.n.size ≤ 100000000) (hF : FoldM w f b V L) (hR : RowsM w B V L) :
    Calls Try.prog 55 #[.pointer (some ⟨f, 0, none⟩)] w fun e w' => (∃ v, e = .returned v ∧ OwnFile w' w.heap.size v L) ∧ Below w.heap.size w w' := by
  have c0 := hF.bx.cell 0
  simp only [List.getElem?_toArray, List.getElem?_cons_succ, List.getElem?_cons_zero] at c0
  have HF := hF.hid
  have HR := hR.hid
  have HN := hide hn
  clear hF hR hn
  go_enter Try.func55, Try.ntmps55
  go_wp2_with fail
  refine (lib_MapsKeys (some b) w).mono ?_
  rintro e w0 ⟨rfl, rfl⟩
  clear c0
  go_wp2_with fail
  refine (lib_SortedKeys f b V L w hl HF.out).mono ?_
  rintro e w1 ⟨⟨v, rfl, hrow⟩, hb1⟩
  obtain ⟨ka, kc, rfl⟩ : ∃ a c, v = .slice a L.length c := by
    rcases hrow.2 with ⟨rfl, h0⟩ | ⟨g, cap, cur, rfl, _⟩
    · exact ⟨none, 0, by rw [h0]⟩
    · exact ⟨_, _, rfl⟩
  have HROW : Hid (w1.ownsRow w.heap.size 9 1 (.slice ka L.length kc) L.length (L.map fun f => Value.string f.n)) := hrow
  have HB1 := hide hb1
  have HF1 := (HF.out.next hb1).hid
  have HR1 := (HR.out.next hb1).hid
  have HO0 : Hid (OwnFile w1 w1.heap.size (.slice none 0 0) (L.take 0)) := OwnFile.nil _ _
  have HC0 : Hid (Below w1.heap.size w1 w1) := Below.refl _ _
  clear hrow hb1 HF HR
  go_wp2
  go_loopw [3, 13] (fun v i wr => ∃ k : Nat, i = .int .i64 k ∧ k ≤ L.length ∧ Hid (OwnFile wr w1.heap.size v (L.take k)) ∧ Hid (Below w1.heap.size w1 wr)) (fun _ i _ => L.length - (intOf i).toNat)
  case atStart => exact ⟨0, rfl, by omega, HO0, HC0⟩
  case round =>
    obtain ⟨k, rfl, hk, HO, HC⟩ := hrel
    clear HO0 HC0
    by_cases hlt : k < L.length
    · have hki : (k : Int) < ((L.length : Nat) : Int) := by omega
      obtain ⟨x, hx⟩ : ∃ x, L[k]? = some x := ⟨_, List.getElem?_eq_getElem hlt⟩
      have hxm : x ∈ L := List.mem_of_getElem? hx
      obtain ⟨g, rfl, hg, hgc⟩ := own_at HROW.out (i := k) (x := .string x.n) (by rw [List.getElem?_map, hx]; rfl)
      have c0 := keepc HC.out hgc
      have hxn := HN.out x hxm
      have hnm : x.n.size ≤ maxLen := by unfold maxLen; omega
      have hlk := lkF_mem HF1.out.ris hxm
      obtain ⟨va, vc, hva⟩ := HF1.out.valShape x.n
      have hRv := HR1.out.val x.n
      rw [hlk] at hva hRv
      have HVA := hide hva
      have HRV : Hid (OwnB w1 B 5 (valF L V x.n) x.d) := hRv
      have htk : L.take (k + 1) = L.take k ++ [x] := by rw [List.take_add_one, hx]; rfl
      have HTK := hide htk
      have htl : (L.take k).length = k := by rw [List.length_take]; omega
      obtain ⟨oa, on, op, rfl⟩ := HO.out.shapeN
      have hO := HO.out
      have hC := HC.out
      clear hx hlk hva hRv htk HO HC hgc
      go_upto_region 5 with fail
      clear c0
      refine wp_region_noPanic ?_
      have hb0 : Below wr.heap.size wr wr.drew := (Below.refl _ _).drew
      have hO_0 := hO.next hb0
      have hC_0 := hC.trans (hb0.mono hC.size)
      refine wp_region_held_drew (S := fun x => Below w1.heap.size w1 x) (by kernel_rfl) hC_0 (fun hSz => ?_)
      clear hSz hC hO
      generalize wr.drew = wq0 at hb0 hO_0 hC_0 ⊢
      clear hb0
      refine wpAnyH_take (i := 0) (v := .slice oa on op) nat0 (by kernel_rfl) (by kernel_rfl) (by kernel_rfl) (fun _ _ _ h => False.elim h) (Or.inl ⟨by rfl, ?_⟩) hC_0 ?_
      · intro wx hSw
        go_simp
      simp only [Act.put, List.setIfInBounds_toArray, List.set_cons_zero, List.set_cons_succ]
      refine wpAnyH_take (i := 1) (v := .string x.n) nat1 (by kernel_rfl) (by kernel_rfl) (by kernel_rfl) (fun _ _ _ h => False.elim h) (Or.inl ⟨by rfl, ?_⟩) hC_0 ?_
      · intro wx hSw
        go_simp
      simp only [Act.put, List.setIfInBounds_toArray, List.set_cons_zero, List.set_cons_succ]
      refine wpAnyH_take (i := 3) (v := .pointer (some ⟨f, 0, none⟩)) nat3 (by kernel_rfl) (by kernel_rfl) (by kernel_rfl) (fun _ _ _ h => False.elim h) (Or.inl ⟨by rfl, ?_⟩) hC_0 ?_
      · intro wx hSw
        go_simp
      simp only [Act.put, List.setIfInBounds_toArray, List.set_cons_zero, List.set_cons_succ]
      refine wpAnyH_take (i := 4) (v := .pointer (some ⟨f, 0, none⟩)) nat4 (by kernel_rfl) (by kernel_rfl) (by kernel_rfl) (fun _ _ _ h => False.elim h) (Or.inl ⟨by rfl, ?_⟩) hC_0 ?_
      · intro wx hSw
        go_simp
      simp only [Act.put, List.setIfInBounds_toArray, List.set_cons_zero, List.set_cons_succ]
      refine wpAnyH_take (i := 5) (v := .pointer (some ⟨f, 0, none⟩)) nat5 (by kernel_rfl) (by kernel_rfl) (by kernel_rfl) (fun _ _ _ h => False.elim h) (Or.inl ⟨by rfl, ?_⟩) hC_0 ?_
      · intro wx hSw
        go_simp
      simp only [Act.put, List.setIfInBounds_toArray, List.set_cons_zero, List.set_cons_succ]
      refine wpAnyH_take (i := 6) (v := .map (some b)) nat6 (by kernel_rfl) (by kernel_rfl) (by kernel_rfl) (fun _ _ _ h => False.elim h) (Or.inl ⟨by rfl, ?_⟩) hC_0 ?_
      · intro wx hSw
        have y0 := (HF1.out.bx.next hSw).cell 0
        simp only [List.getElem?_toArray, List.getElem?_cons_succ, List.getElem?_cons_zero] at y0
        go_simp
      simp only [Act.put, List.setIfInBounds_toArray, List.set_cons_zero, List.set_cons_succ]
      refine wpAnyH_take (i := 7) (v := .string x.n) nat7 (by kernel_rfl) (by kernel_rfl) (by kernel_rfl) (fun _ _ _ h => False.elim h) (Or.inl ⟨by rfl, ?_⟩) hC_0 ?_
      · intro wx hSw
        go_simp
      simp only [Act.put, List.setIfInBounds_toArray, List.set_cons_zero, List.set_cons_succ]
      refine wpAnyH_take (i := 8) (v := .agg #[.slice va x.d.size vc]) nat8 (by kernel_rfl) (by kernel_rfl) (by kernel_rfl) (fun _ _ _ h => False.elim h) (Or.inl ⟨by rfl, ?_⟩) hC_0 ?_
      · intro wx hSw
        have hy := look_own (ownsMap_below HF1.out.mp hSw) hnm
        rw [HVA.out] at hy
        go_simp
      simp only [Act.put, List.setIfInBounds_toArray, List.set_cons_zero, List.set_cons_succ]
      refine wpAnyH_take (i := 9) (v := .slice va x.d.size vc) nat9 (by kernel_rfl) (by kernel_rfl) (by kernel_rfl) (fun _ _ _ h => False.elim h) (Or.inl ⟨by rfl, ?_⟩) hC_0 ?_
      · intro wx hSw
        have hy := run_field_data (.slice va x.d.size vc) wx
        go_simp
      simp only [Act.put, List.setIfInBounds_toArray, List.set_cons_zero, List.set_cons_succ]
      refine wpAnyH_take (i := 10) (v := .string x.d) nat10 (by kernel_rfl) (by kernel_rfl) (by kernel_rfl) (fun _ _ _ h => False.elim h) (Or.inl ⟨by rfl, ?_⟩) hC_0 ?_
      · intro wx hSw
        have hyo : OwnB wx B 5 (.slice va x.d.size vc) x.d := by have hz := HRV.out.next hSw; rw [HVA.out] at hz; exact hz
        have hy := run_text_own (P := Try.prog) wx B 57 9 5 (.slice va x.d.size vc) x.d hyo Try.underlying57 Try.underlying5 Try.underlying9
        go_simp
      simp only [Act.put, List.setIfInBounds_toArray, List.set_cons_zero, List.set_cons_succ]
      refine wpAnyH_ready (rs := [2]) (by kernel_rfl) (by simp) ?_
      refine AllReadyH.cons nat2 (fun K hK => ?_) AllReadyH.nil
      go_simp
      go_at_call 91
      refine (strings_Clone x.n _ (by omega)).mono ?_
      rintro e wq1 ⟨rfl, hb1⟩
      have hO_1 := hO_0.next hb1
      have hC_1 := hC_0.trans (hb1.mono hC_0.size)
      refine hK.out _ _ hC_1 (fun hSz => ?_)
      clear hK K hSz hC_0 hO_0 hb1
      refine wpAnyH_take (i := 11) (v := .agg #[.string x.n, .string x.d]) nat11 (by kernel_rfl) (by kernel_rfl) (by kernel_rfl) (fun _ _ _ h => False.elim h) (Or.inl ⟨by rfl, ?_⟩) hC_1 ?_
      · intro wx hSw
        go_simp
      simp only [Act.put, List.setIfInBounds_toArray, List.set_cons_zero, List.set_cons_succ]
      refine wpAnyH_ready (rs := [12]) (by kernel_rfl) (by simp) ?_
      refine AllReadyH.cons nat12 (fun K hK => ?_) AllReadyH.nil
      go_simp
      have hb2 := below_one wq1 (.cells #[.string x.n, .string x.d] 96)
      have hO_2 := hO_1.next hb2
      have hC_2 := hC_1.trans (hb2.mono hC_1.size)
      have NB29_2 := BoxIs.new wq1 #[.string x.n, .string x.d] 96 rfl
      refine hK.out _ _ hC_2 (fun hSz => ?_)
      clear hK K hSz hC_1 hO_1
      obtain ⟨G2, hG2⟩ : ∃ G, G = wq1.heap.size := ⟨_, rfl⟩
      rw [← hG2] at NB29_2 ⊢
      generalize wq1.alloc (.cells #[.string x.n, .string x.d] 96) = wq2 at hb2 hO_2 hC_2 NB29_2 ⊢
      clear hG2 hb2
      refine wpAnyH_ready (rs := [13]) (by kernel_rfl) (by simp) ?_
      refine AllReadyH.cons nat13 (fun K hK => ?_) AllReadyH.nil
      refine step_append_file rfl (.tmp 17) (.tmp 29) 28 rfl Try.underlying28 w1.heap.size (.slice oa on op) (L.take k) [x] (by rfl) hO_2 ⟨G2, 0, none⟩ 1 1 (by rfl) rfl (file_news (e := x) NB29_2) hC_2.size (by omega) ?_
      intro v3 wq3 h1 h2
      have ho3 : OwnFile wq3 w1.heap.size v3 (L.take (k + 1)) := by rw [HTK.out]; exact h1
      obtain ⟨va3, vn3, vp3, rfl⟩ := ho3.shapeN
      clear h1
      have hO_3 := ho3
      have hC_3 := hC_2.trans (hO_2.grownBelow hC_2.size h2)
      refine hK.out _ _ hC_3 (fun hSz => ?_)
      clear hK K hSz NB29_2 hC_2 hO_2
      clear h2 ho3
      refine wpAnyH_take (i := 14) (v := .slice va3 vn3 vp3) nat14 (by kernel_rfl) (by kernel_rfl) (by kernel_rfl) (fun _ _ _ h => False.elim h) (Or.inl ⟨by rfl, ?_⟩) hC_3 ?_
      · intro wx hSw
        go_simp
      simp only [Act.put, List.setIfInBounds_toArray, List.set_cons_zero, List.set_cons_succ]
      refine wpAnyH_done (by kernel_rfl) ?_ _
      refine NoPanic.normal ?_
      have HO2 := hO_3.hid
      have HC2 := hide hC_3
      clear hO_3 hC_3
      go_wp2
      exact ⟨⟨k + 1, by go_num, by omega, HO2, HC2⟩, by simp [intOf]; omega⟩
    · obtain rfl : k = L.length := by omega
      have HO2 : Hid (OwnFile wr w1.heap.size u3 L) := by have h := HO.out; rw [List.take_length] at h; exact h
      have HB2 := hide (HB1.out.trans (HC.out.mono HB1.out.size))
      clear HO HC
      go_wp2
      go_ret
      exact ⟨⟨_, rfl, HO2.out.base HB1.out.size⟩, HB2.out⟩

end Go.Proofs.Ytejedpmkbkclhaa
