/- Rows of files of one's own: cloned, and sorted by the library. -/
import Derived.Test.YtplbhgcibfajaaaApQ
import Derived.Test.YtplbhgcibfajaaaSlM
import Derived.Test.YtplbhgcibfajaaaSorted
import Derived.Shelf.SlSortCmp.InsertionK
namespace Go.Proofs.Ytplbhgcibfajaaa
set_option maxRecDepth 100000
open Go.RowKit Go.Deep Go.Sort

def zM : Meta1 := ⟨0, 0, ⟨#[]⟩, ⟨#[]⟩, 0⟩
/-- The file at a place. -/
def gM (l : List Meta1) (i : Nat) : Meta1 := l.getD i zM
def encN (l : List Meta1) (i : Nat) : List Value := [.int .i64 (gM l i).n, .int .i64 (gM l i).l, .string (gM l i).f, .string (gM l i).z, .int .i64 (gM l i).c]
def cfN (l : List Meta1) (i j : Nat) : Int := fOrdM (gM l i) (gM l j)
theorem cfN_swo (l : List Meta1) : SWO (ltOf (cfN l)) :=
  ⟨fun x => cfM_swo.irrefl (gM l x), fun x y z h k => cfM_swo.trans (gM l x) (gM l y) (gM l z) h k, fun x y z h k => cfM_swo.ntrans (gM l x) (gM l y) (gM l z) h k⟩
theorem gM_range (l : List Meta1) : (List.range l.length).map (gM l) = l := by
  apply List.ext_getElem
  · simp
  · intro i h1 h2
    simp [gM, List.getD, h2]

theorem cellsM_flat (l : List Meta1) (p : List Nat) (t : Nat) (ht : t < p.length * 5) : (cellsMeta (p.map (gM l)))[t]? = some (flatK (encN l) 5 p.toArray)[t]! := by
  rw [get_flatK _ _ _ t (by simpa using ht)]
  obtain ⟨i, c, hc, rfl⟩ : ∃ i c, c < 5 ∧ t = i * 5 + c := ⟨t / 5, t % 5, by omega, by omega⟩
  have hi : i < p.length := by omega
  have hg : (p.map (gM l))[i]? = some (gM l p[i]) := by simp [hi]
  obtain ⟨a, b, d, e, f⟩ := cellsMeta_get _ _ _ hg
  rw [show (i * 5 + c) / 5 = i by omega, show (i * 5 + c) % 5 = c by omega, show p.toArray[i]! = p[i] by simp [hi]]
  rcases c with _ | _ | _ | _ | _ | c
  · exact a
  · exact b
  · exact d
  · exact e
  · exact f
  · omega

theorem OwnMeta.blk {w : World} {B g n cap : Nat} {es : List Meta1} (h : OwnMeta w B (.slice (Option.some ⟨g, 0, none⟩) n cap) es) : n = es.length ∧ ∃ cur, w.heap[g]? = Option.some (.cells cur 59 (0, 0)) ∧ cur.size = cap * 5 ∧ es.length ≤ cap ∧ cap ≤ maxLen ∧ cur.toList.take (es.length * 5) = cellsMeta es ∧ B ≤ g := by
  obtain ⟨_, h⟩ := h
  rcases h with ⟨hn, _⟩ | ⟨g', cap', cur, hv, hB, hcur, h1, h2, h3, h4⟩
  · cases hn
  · simp only [Value.slice.injEq, Option.some.injEq, Addr.mk.injEq, and_true] at hv
    obtain ⟨rfl, rfl, rfl⟩ := hv
    exact ⟨rfl, cur, hcur, h3, h1, h2, h4, hB⟩

theorem sortM_below {w : World} {B g n : Nat} (enc : Nat → List Value) (d : Array Nat) (os : Array Obj) (hB : B ≤ g) (hg : g < w.heap.size) : Below B w (Go.Proofs.sortWorldK enc 5 w g 0 n d os) := by
  refine ⟨rfl, rfl, rfl, ?_, fun k hk => ?_⟩
  · simp [Go.Proofs.sortWorldK, grow, putRowK, putRow, mapBlock]
  · have h1 : k < w.heap.size := by omega
    have h2 : ¬ g = k := by omega
    simp [Go.Proofs.sortWorldK, grow, putRowK, putRow, mapBlock, Array.getElem?_append, Array.getElem_modify, h1, h2]

theorem OwnMeta.sorted {w : World} {B g n cap k : Nat} {l : List Meta1} {p : List Nat} (h : OwnMeta w B (.slice (Option.some ⟨g, 0, none⟩) n cap) l) (hm : p.length = l.length) (os : Array Obj) :
    OwnMeta (Go.Proofs.sortWorldK (encN l) 5 w g 0 k p.toArray os) B (.slice (Option.some ⟨g, 0, none⟩) n cap) (p.map (gM l)) := by
  obtain ⟨rfl, cur, hc, hs, h1, h2, h3, hB⟩ := h.blk
  have hlt : g < w.heap.size := (Array.getElem?_eq_some_iff.1 hc).1
  have hh : (Go.Proofs.sortWorldK (encN l) 5 w g 0 k p.toArray os).heap[g]? = Option.some (.cells (putCells id 0 (flatK (encN l) 5 p.toArray) cur) 59 (0, 0)) := by
    simp only [Go.Proofs.sortWorldK, grow, putRowK, putRow, mapBlock]
    rw [Array.getElem?_append_left (by simpa using hlt), Array.getElem?_modify, if_pos rfl]
    show Option.map _ w.heap[g]? = _
    rw [hc]
    rfl
  refine ⟨by rw [cellsMeta_len], .inr ⟨g, cap, _, by rw [List.length_map, hm], hB, hh, by rw [List.length_map, hm]; exact h1, h2, by simp [putCells, hs], ?_⟩⟩
  apply List.ext_getElem?
  intro t
  rw [List.length_map, hm, List.getElem?_take]
  by_cases ht : t < l.length * 5
  · rw [if_pos ht, cellsM_flat l p t (by omega)]
    have hz : t < cur.size := by rw [hs]; omega
    have hz2 : t < p.toArray.size * 5 := by simpa [hm] using ht
    simp [putCells, hz, hm, ht]
  · rw [if_neg ht, List.getElem?_eq_none (by rw [cellsMeta_len]; simp [hm]; omega)]

set_option maxHeartbeats 1000000 in
theorem sort_metas (v : Value) (l : List Meta1) (B : Nat) (w : World) (hown : OwnMeta w B v l) (hz : l.length ≤ 1000000) :
    Calls Try.prog 73 #[v, .func (.func 59) #[] #[]] w fun e w' => e = .returned (.tuple #[]) ∧ (∃ M, M.Perm l ∧ M.Pairwise (fun a b => ¬ fOrdM b a < 0) ∧ OwnMeta w' B v M) ∧ Below B w w' := by
  by_cases h0 : l.length = 0
  · have hl : l = [] := List.length_eq_zero_iff.1 h0
    subst hl
    rcases hown.2 with ⟨rfl, _⟩ | ⟨g, cap, cur, rfl, r⟩
    · refine Calls.mono (Go.Proofs.AnyF.slices_SortFunc_none { lsortM with } none 0 _ w) ?_
      rintro e w' ⟨rfl, rfl⟩
      exact ⟨rfl, ⟨[], List.Perm.refl _, by simp, hown⟩, Below.refl _ _⟩
    · refine Calls.mono (Go.Proofs.AnyF.slices_SortFunc_none { lsortM with } _ _ _ w) ?_
      rintro e w' ⟨rfl, rfl⟩
      exact ⟨rfl, ⟨[], List.Perm.refl _, by simp, hown⟩, Below.refl _ _⟩
  · obtain ⟨g, cap, rfl⟩ := OwnMeta.some hown h0
    obtain ⟨_, cur, hc, hs, h1, h2, h3, hB⟩ := hown.blk
    have hg : g < w.heap.size := (Array.getElem?_eq_some_iff.1 hc).1
    have eg : ∀ args w, (callFunc 59 args).run Try.prog w = .ok (.enter 59 args) w := enters_of Try.func59 (by kernel_rfl) rfl
    have hcmp : Go.Proofs.CmpLays Try.prog 59 #[] (encN l) 5 (cfN l) g 0 (List.range l.length).toArray.size w := fun m os dk _ x y => impl_fileOrder _ _ _ _ _ _ _ _ _ _ _
    have he : ∀ x, ∀ v ∈ encN l x, v.oneCell' = true := fun x v hv => by
      simp only [encN, List.mem_cons, List.not_mem_nil, or_false] at hv
      rcases hv with rfl | rfl | rfl | rfl | rfl <;> rfl
    have hH : HoldsK (encN l) 5 w g 0 (List.range l.length).toArray := by
      intro j hj
      rw [size_flatK, List.size_toArray, List.length_range] at hj
      refine ⟨?_, by simp [World.frozen?, hc]⟩
      rw [Nat.zero_add]
      have := cellsM_flat l (List.range l.length) j (by rw [List.length_range]; exact hj)
      rw [gM_range] at this
      exact hown.cellsAt _ _ this
    have hcon := Go.Proofs.AnyQ.slices_SortFunc lsortM 5 Try.isAgg59 Try.sizeOf59 (encN l) (fun _ => rfl) he (cfN l) (cfN_swo l) 59 #[] g 0 cap (List.range l.length).toArray w eg hcmp hH hg (by simp; omega)
    rw [List.size_toArray, List.length_range] at hcon
    refine Calls.mono hcon ?_
    rintro e w' ⟨rfl, d', k, os, ⟨hp1, _, hp3⟩, hsrt, rfl⟩
    have hlen : d'.toList.length = l.length := by simpa using hp1
    have hfull : (d'.extract 0 l.length).toList = d'.toList := by
      have : d'.size = l.length := by simpa using hp1
      rw [← this]; simp
    have hrange : ((List.range l.length).toArray.extract 0 l.length).toList = List.range l.length := by simp
    rw [hfull, hrange] at hp3
    refine ⟨rfl, ⟨d'.toList.map (gM l), ?_, ?_, ?_⟩, sortM_below _ _ _ hB hg⟩
    · have := hp3.map (gM l)
      rw [gM_range] at this
      exact this
    · rw [List.pairwise_map, List.pairwise_iff_getElem]
      intro i j hi hj hij
      have h4 := hsrt i j (Nat.zero_le _) hij (by rw [← hlen]; exact hj)
      have ei : d'[i]! = d'.toList[i] := by simp [show i < d'.size by simpa using hi]
      have ej : d'[j]! = d'.toList[j] := by simp [show j < d'.size by simpa using hj]
      rw [ei, ej] at h4
      exact (ltM_no _ _).1 h4
    · have := hown.sorted (p := d'.toList) (k := k) hlen os
      simpa using this

set_option maxHeartbeats 1000000 in
theorem lib_CloneM (v : Value) (l : List Meta1) (B : Nat) (w : World) (hs : OwnMeta w B v l) (hz : l.length ≤ 900000) :
    Calls Try.prog 72 #[v] w fun e w' => (∃ v', e = .returned v' ∧ OwnMeta w' w.heap.size v' l) ∧ Below w.heap.size w w' := by
  rcases hs.2 with ⟨rfl, h0⟩ | ⟨g, cap, cur, rfl, hB, hh, r⟩
  · have hl : l = [] := List.length_eq_zero_iff.1 h0
    subst hl
    have he : ∀ wx : World, (binOp .eql 30 (.slice none 0 0) (.slice none 0 0)).run Try.prog wx = .ok (.bool true) wx := fun wx => by first | exact Lib.run_eql_slice_nil wx _ _ _ _ _ Try.underlying30 | exact Lib.run_eql_slice_nil wx _ _ _ _ _ _ _ Try.underlying30
    go_enter Try.func72, Try.ntmps72
    go_wp2
    go_ret
    exact ⟨⟨_, rfl, OwnMeta.nil _ _⟩, Below.refl _ _⟩
  · have he : ∀ wx : World, (binOp .eql 30 (.slice (some ⟨g, 0, none⟩) l.length cap) (.slice none 0 0)).run Try.prog wx = .ok (.bool false) wx := fun wx => by first | exact Lib.run_eql_slice_nil wx _ _ _ _ _ Try.underlying30 | exact Lib.run_eql_slice_nil wx _ _ _ _ _ _ _ Try.underlying30
    have hown := OwnMeta.lit w w.heap.size (Nat.le_refl _)
    have hs1 := hs.next (below_one w (.cells #[] 59))
    have hcell : ∀ j u, (cellsMeta l)[j]? = some u → (w.alloc (.cells #[] 59)).cell? ((⟨g, 0, none⟩ : Addr).add j) = some u := fun j u hu => by
      rw [Addr.add_lit]
      show (w.alloc (.cells #[] 59)).cell? ⟨g, 0 + j, none⟩ = some u
      rw [Nat.zero_add]
      exact hs1.cellsAt j u hu
    go_enter Try.func72, Try.ntmps72
    go_wp2_with (first
      | (at_builtin; refine wpList_append_meta rfl _ _ 30 rfl Try.underlying30 w.heap.size _ [] l (by rfl) hown ⟨g, 0, none⟩ l.length cap (by rfl) rfl hcell (by simp) (by simp; omega) ?_; intro v' w' h1 h2))
    have hb : Below w.heap.size w w' := (below_one w _).trans h2
    have h1' : OwnMeta w' w.heap.size v' l := by simpa using h1
    clear h1 h2
    go_wp2
    go_ret
    exact ⟨⟨_, rfl, h1'⟩, hb⟩

set_option maxHeartbeats 1000000 in
theorem impl_sortedM (v : Value) (l : List Meta1) (B : Nat) (w : World) (hs : OwnMeta w B v l) (hz : l.length ≤ 900000) :
    Calls Try.prog 58 #[v, .func (.func 59) #[] #[]] w fun e w' => (∃ v' M, e = .returned v' ∧ M.Perm l ∧ M.Pairwise (fun a b => ¬ fOrdM b a < 0) ∧ OwnMeta w' w.heap.size v' M) ∧ Below w.heap.size w w' := by
  go_enter Try.func58, Try.ntmps58
  go_wp2_with fail
  refine (lib_CloneM v l B w hs hz).mono ?_
  rintro e w1 ⟨⟨v1, rfl, ho⟩, hb⟩
  have HO := hide ho
  have HB := hide hb
  clear ho hb hs
  go_wp2_with fail
  refine (sort_metas v1 l _ w1 HO.out (by omega)).mono ?_
  rintro e w2 ⟨rfl, ⟨M, hp, hso, ho2⟩, hb2⟩
  have HO2 := hide ho2
  have HP := hide hp
  have HS := hide hso
  have HB2 := hide (HB.out.trans hb2)
  clear ho2 hb2 HO HB hp hso
  go_wp2
  go_ret
  first | exact ⟨⟨_, M, rfl, HP.out, HS.out, HO2.out⟩, HB2.out⟩ | exact ⟨⟨_, rfl, M, HP.out, HS.out, HO2.out⟩, HB2.out⟩ | exact ⟨⟨M, HP.out, HS.out, HO2.out⟩, HB2.out⟩

end Go.Proofs.Ytplbhgcibfajaaa
