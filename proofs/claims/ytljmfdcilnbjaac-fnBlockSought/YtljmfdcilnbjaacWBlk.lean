/- What the writer of a block tells: how many bytes, and which. -/
import Derived.Test.YtljmfdcilnbjaacWPut
import Derived.Shelf.Spec.RuneCount
namespace Go.Proofs.Ytljmfdcilnbjaac
set_option maxRecDepth 100000
open Go.RowKit Go.Deep
open Go.Lib (strCells)

/-- The four bytes of each number, one behind the other. -/
def fxs : List Int → ByteArray
  | [] => ⟨#[]⟩
  | n :: l => fx4 n ++ fxs l

theorem fxs_append : ∀ a b : List Int, fxs (a ++ b) = fxs a ++ fxs b
  | [], b => by simp only [List.nil_append, fxs]; exact (ByteArray.empty_append).symm
  | n :: l, b => by simp only [List.cons_append, fxs]; rw [fxs_append l b, ByteArray.append_assoc]
theorem fxs_size : ∀ l : List Int, (fxs l).size = 4 * l.length
  | [] => rfl
  | n :: l => by simp only [fxs, ByteArray.size_append, fx4_size, fxs_size l, List.length_cons]; omega
theorem fxs_take (l : List Int) (k : Nat) (h : k < l.length) : fxs (l.take (k + 1)) = fxs (l.take k) ++ fx4 l[k] := by
  rw [List.take_succ_eq_append_getElem h, fxs_append]
  rw [show fxs [l[k]] = fx4 l[k] ++ ⟨#[]⟩ from rfl]
  exact congrArg _ ByteArray.append_empty

theorem row_at {w : World} {B n : Nat} {e : TypeId} {v : Value} {xs : List Value} (h : w.ownsRow B e 1 v n xs) : ∃ a c, v = .slice a n c ∧ ∀ i u, xs[i]? = some u → ∃ g, a = some ⟨g, 0, none⟩ ∧ w.cell? ⟨g, i, none⟩ = some u := by
  have hc := @World.ownsRow.cells w B e 1 v n xs h
  rcases h.2 with ⟨rfl, h0⟩ | ⟨g, cap, cur, rfl, r⟩
  · have : xs = [] := by have := h.1; rw [h0] at this; simpa using this
    exact ⟨none, 0, by rw [h0], fun i u hu => by rw [this] at hu; simp at hu⟩
  · refine ⟨_, _, rfl, fun i u hu => ⟨g, rfl, ?_⟩⟩
    have := hc (g := g) rfl i u hu
    have e : (⟨g, 0, none⟩ : Addr).add i = ⟨g, i, none⟩ := by unfold Addr.add; split <;> simp_all
    rw [e] at this
    exact this

/-- 'string(v)' of bytes that lie as a text's. -/
theorem conv_cells {w : World} {B : Nat} {v : Value} {s : ByteArray} (h : w.ownsRow B 5 1 v s.size (strCells s)) : (convert 22 9 v).run Try.prog w = .ok (.string s) w := by
  have e : strCells s = (s.data.toList.map fun x => (x.toNat : Int)).map (Value.int .u8) := by simp [strCells, List.map_map, Function.comp_def]
  have hl : ((s.data.toList.map fun x => (x.toNat : Int)).map (Value.int .u8)).length = s.size := by simp
  have := conv_own (P := Try.prog) 22 5 9 Try.underlying22 Try.underlying5 Try.underlying9 w B v (s.data.toList.map fun x => (x.toNat : Int)) (by unfold Own; rw [hl, ← e]; exact h)
  rw [this, strOfNums_bytes]

theorem Bw.next {F B m p : Nat} {ah : ByteArray} {ve vb : Value} {bs : ByteArray} {ms : List Int} {y z : World} (h : Bw F B m p ah ve vb bs ms y) (hb : Below y.heap.size y z) : Bw F B m p ah ve vb bs ms z :=
  ⟨h.bx.next hb, row_next h.oe hb, row_next h.ob hb, h.n1, Nat.le_trans h.hB hb.size⟩

set_option maxHeartbeats 1000000 in
theorem wr_size (w : World) (F B m p : Nat) (ah : ByteArray) (ve vb : Value) (bs : ByteArray) (ms : List Int) (hbs : bs.size ≤ 1000000) (hms : ms.length ≤ 1000000) (h : Bw F B m p ah ve vb bs ms w) :
    Calls Try.prog 24 #[.pointer (some ⟨F, 0, none⟩)] w fun e w' => e = .returned (.int .i64 ((bs.size + 4 * ms.length + 8 : Nat) : Int)) ∧ Below w.heap.size w w' := by
  obtain ⟨ae, ce, rfl⟩ := row_shape h.oe
  obtain ⟨ab, cb, rfl⟩ := row_shape h.ob
  have x3 : w.cell? ⟨F, 3, none⟩ = some (.slice ae bs.size ce) := h.bx.cell 3
  have x4 : w.cell? ⟨F, 4, none⟩ = some (.slice ab ms.length cb) := h.bx.cell 4
  have HB := hide (Below.refl w.heap.size w)
  clear h
  generalize bs.size = a at *
  generalize ms.length = b at *
  go_enter Try.func24, Try.ntmps24
  go_wp2
  go_quiet (fail)
  go_wp2
  go_ret
  exact ⟨rfl, below_drewN HB.out _⟩

theorem ret_strB {a b : ByteArray} (h : a = b) : Ending.returned (.string a) = .returned (.string b) := by rw [h]

set_option maxHeartbeats 2000000 in
theorem wr_block (w : World) (F B m p : Nat) (ah : ByteArray) (ve vb : Value) (bs : ByteArray) (ms : List Int) (hm : m ≤ 1000000) (hbs : bs.size ≤ 1000000) (hms : ms.length ≤ 1000000) (h : Bw F B m p ah ve vb bs ms w) :
    Calls Try.prog 25 #[.pointer (some ⟨F, 0, none⟩)] w fun e w' => e = .returned (.string (bs ++ fxs ms ++ fx4 ms.length ++ fx4 m)) ∧ Below w.heap.size w w' := by
  obtain ⟨ab, cb, rfl, hat⟩ := row_at h.ob
  obtain ⟨ae, ce, rfl⟩ := row_shape h.oe
  have x4 : w.cell? ⟨F, 4, none⟩ = some (.slice ab ms.length cb) := h.bx.cell 4
  have HAT := hide hat
  have HX := hide h
  have HV : Hid (bs ++ fxs (ms.take ms.length) ++ fx4 ms.length ++ fx4 m = bs ++ fxs ms ++ fx4 ms.length ++ fx4 m) := by show _ = _; rw [List.take_length]
  have hfz : ∀ k, k ≤ ms.length → (fxs (ms.take k)).size ≤ 4 * ms.length := fun k hk => by rw [fxs_size, List.length_take]; omega
  have HFZ := hide hfz
  clear h hat hfz
  go_enter Try.func25, Try.ntmps25
  go_wp2
  go_loopw [3, 11] (fun s i wr => ∃ k : Nat, i = .int .i64 k ∧ s = .string (fxs (ms.take k)) ∧ k ≤ ms.length ∧ Hid (Below w.heap.size w wr)) (fun _ i _ => ms.length - (intOf i).toNat)
  case atStart => exact ⟨0, rfl, rfl, by omega, Below.refl _ _⟩
  case round =>
    obtain ⟨k, rfl, rfl, hk, HW⟩ := hrel
    by_cases hkl : k < ms.length
    · obtain ⟨g, rfl, hc⟩ := HAT.out k (.int .u32 ms[k]) (by rw [List.getElem?_map, List.getElem?_eq_getElem hkl]; rfl)
      have hki : (k : Int) < (ms.length : Int) := by omega
      have hc' := keepc HW.out hc
      have HT : Hid (fxs (ms.take (k + 1)) = fxs (ms.take k) ++ fx4 ms[k]) := fxs_take ms k hkl
      have hz := HFZ.out k hk
      have h4 := fx4_size ms[k]
      generalize ms[k] = x at *
      have hadd : ∀ wx : World, (Op.stringOp .add (fxs (ms.take k)) (fx4 x)).run Try.prog wx = .ok (.string (fxs (ms.take k) ++ fx4 x)) wx := fun wx => run_string_add_sum wx _ _ (by omega)
      go_wp2_with fail
      refine (impl_PutFixed x _).mono ?_
      rintro e w2 ⟨rfl, hb2⟩
      have HW2 := hide (HW.out.trans (hb2.mono HW.out.size))
      clear hb2 hc hc'
      go_wp2
      exact ⟨⟨k + 1, by go_num, by rw [HT.out], by omega, HW2⟩, by simp [intOf]; omega⟩
    · obtain rfl : k = ms.length := by omega
      have HX2 := hide (And.intro (HX.out.next HW.out.drew) HW.out.drew)
      have hz := HFZ.out ms.length hk
      generalize fxs (ms.take ms.length) = pl at *
      have hw1 : IntKind.u32.wrap (ms.length : Int) = (ms.length : Int) := by rw [IntKind.wrap_u32]; omega
      have hw2 : IntKind.u32.wrap (m : Int) = (m : Int) := by rw [IntKind.wrap_u32]; omega
      have f1 := fx4_size (ms.length : Int)
      have f2 := fx4_size (m : Int)
      have a1 : ∀ wx : World, (Op.stringOp .add bs pl).run Try.prog wx = .ok (.string (bs ++ pl)) wx := fun wx => run_string_add_sum wx _ _ (by omega)
      have a2 : ∀ wx : World, (Op.stringOp .add (bs ++ pl) (fx4 ms.length)).run Try.prog wx = .ok (.string (bs ++ pl ++ fx4 ms.length)) wx := fun wx => run_string_add_sum wx _ _ (by rw [ByteArray.size_append]; omega)
      have a3 : ∀ wx : World, (Op.stringOp .add (bs ++ pl ++ fx4 ms.length) (fx4 m)).run Try.prog wx = .ok (.string (bs ++ pl ++ fx4 ms.length ++ fx4 m)) wx := fun wx => run_string_add_sum wx _ _ (by rw [ByteArray.size_append, ByteArray.size_append]; omega)
      clear f1 f2 HAT HX
      go_wp2_with fail
      refine wp_region_noPanic ?_
      refine wp_region_held_drew (S := fun y => Bw F B m p ah (.slice ae bs.size ce) (.slice ab ms.length cb) bs ms y ∧ Below w.heap.size w y) (by kernel_rfl) HX2.out (fun _ => ?_)
      generalize wr.drew = w9 at HX2 ⊢
      refine wpAnyH_take (i := 0) (v := .pointer (some ⟨F, 0, none⟩)) nat0 (by kernel_rfl) (by kernel_rfl) (by kernel_rfl) (fun _ _ _ h => False.elim h) (Or.inl ⟨by rfl, ?_⟩) HX2.out ?_
      · intro wx hSw
        go_simp
      simp only [Act.put, List.setIfInBounds_toArray, List.set_cons_zero, List.set_cons_succ]
      refine wpAnyH_take (i := 1) (v := .pointer (some ⟨F, 0, none⟩)) nat1 (by kernel_rfl) (by kernel_rfl) (by kernel_rfl) (fun _ _ _ h => False.elim h) (Or.inl ⟨by rfl, ?_⟩) HX2.out ?_
      · intro wx hSw
        go_simp
      simp only [Act.put, List.setIfInBounds_toArray, List.set_cons_zero, List.set_cons_succ]
      refine wpAnyH_take (i := 2) (v := .pointer (some ⟨F, 3, none⟩)) nat2 (by kernel_rfl) (by kernel_rfl) (by kernel_rfl) (fun _ _ _ h => False.elim h) (Or.inl ⟨by rfl, ?_⟩) HX2.out ?_
      · intro wx hSw
        go_simp
      simp only [Act.put, List.setIfInBounds_toArray, List.set_cons_zero, List.set_cons_succ]
      refine wpAnyH_take (i := 3) (v := (.slice ae bs.size ce)) nat3 (by kernel_rfl) (by kernel_rfl) (by kernel_rfl) (fun _ _ _ h => False.elim h) (Or.inl ⟨by rfl, ?_⟩) HX2.out ?_
      · intro wx hSw
        have hSx : Bw F B m p ah (.slice ae bs.size ce) (.slice ab ms.length cb) bs ms wx ∧ Below w.heap.size w wx := hSw
        have xl : wx.cell? ⟨F, 3, none⟩ = some (.slice ae bs.size ce) := hSx.1.bx.cell 3
        go_simp
      simp only [Act.put, List.setIfInBounds_toArray, List.set_cons_zero, List.set_cons_succ]
      refine wpAnyH_take (i := 4) (v := .string bs) nat4 (by kernel_rfl) (by kernel_rfl) (by kernel_rfl) (fun _ _ _ h => False.elim h) (Or.inl ⟨by rfl, ?_⟩) HX2.out ?_
      · intro wx hSw
        have hSx : Bw F B m p ah (.slice ae bs.size ce) (.slice ab ms.length cb) bs ms wx ∧ Below w.heap.size w wx := hSw
        have xc := conv_cells hSx.1.oe
        go_simp
      simp only [Act.put, List.setIfInBounds_toArray, List.set_cons_zero, List.set_cons_succ]
      refine wpAnyH_take (i := 5) (v := .string pl) nat5 (by kernel_rfl) (by kernel_rfl) (by kernel_rfl) (fun _ _ _ h => False.elim h) (Or.inl ⟨by rfl, ?_⟩) HX2.out ?_
      · intro wx hSw
        go_simp
      simp only [Act.put, List.setIfInBounds_toArray, List.set_cons_zero, List.set_cons_succ]
      refine wpAnyH_take (i := 6) (v := .string (bs ++ pl)) nat6 (by kernel_rfl) (by kernel_rfl) (by kernel_rfl) (fun _ _ _ h => False.elim h) (Or.inl ⟨by rfl, ?_⟩) HX2.out ?_
      · intro wx hSw
        go_simp
      simp only [Act.put, List.setIfInBounds_toArray, List.set_cons_zero, List.set_cons_succ]
      refine wpAnyH_take (i := 7) (v := .pointer (some ⟨F, 0, none⟩)) nat7 (by kernel_rfl) (by kernel_rfl) (by kernel_rfl) (fun _ _ _ h => False.elim h) (Or.inl ⟨by rfl, ?_⟩) HX2.out ?_
      · intro wx hSw
        go_simp
      simp only [Act.put, List.setIfInBounds_toArray, List.set_cons_zero, List.set_cons_succ]
      refine wpAnyH_take (i := 8) (v := .pointer (some ⟨F, 0, none⟩)) nat8 (by kernel_rfl) (by kernel_rfl) (by kernel_rfl) (fun _ _ _ h => False.elim h) (Or.inl ⟨by rfl, ?_⟩) HX2.out ?_
      · intro wx hSw
        go_simp
      simp only [Act.put, List.setIfInBounds_toArray, List.set_cons_zero, List.set_cons_succ]
      refine wpAnyH_take (i := 9) (v := .pointer (some ⟨F, 4, none⟩)) nat9 (by kernel_rfl) (by kernel_rfl) (by kernel_rfl) (fun _ _ _ h => False.elim h) (Or.inl ⟨by rfl, ?_⟩) HX2.out ?_
      · intro wx hSw
        go_simp
      simp only [Act.put, List.setIfInBounds_toArray, List.set_cons_zero, List.set_cons_succ]
      refine wpAnyH_take (i := 10) (v := (.slice ab ms.length cb)) nat10 (by kernel_rfl) (by kernel_rfl) (by kernel_rfl) (fun _ _ _ h => False.elim h) (Or.inl ⟨by rfl, ?_⟩) HX2.out ?_
      · intro wx hSw
        have hSx : Bw F B m p ah (.slice ae bs.size ce) (.slice ab ms.length cb) bs ms wx ∧ Below w.heap.size w wx := hSw
        have xl : wx.cell? ⟨F, 4, none⟩ = some (.slice ab ms.length cb) := hSx.1.bx.cell 4
        go_simp
      simp only [Act.put, List.setIfInBounds_toArray, List.set_cons_zero, List.set_cons_succ]
      refine wpAnyH_take (i := 11) (v := .int .i64 (ms.length : Int)) nat11 (by kernel_rfl) (by kernel_rfl) (by kernel_rfl) (fun _ _ _ h => False.elim h) (Or.inl ⟨by rfl, ?_⟩) HX2.out ?_
      · intro wx hSw
        go_simp
      simp only [Act.put, List.setIfInBounds_toArray, List.set_cons_zero, List.set_cons_succ]
      refine wpAnyH_take (i := 12) (v := .int .u32 (ms.length : Int)) nat12 (by kernel_rfl) (by kernel_rfl) (by kernel_rfl) (fun _ _ _ h => False.elim h) (Or.inl ⟨by rfl, ?_⟩) HX2.out ?_
      · intro wx hSw
        go_simp
      simp only [Act.put, List.setIfInBounds_toArray, List.set_cons_zero, List.set_cons_succ]
      refine wpAnyH_take (i := 15) (v := .pointer (some ⟨F, 0, none⟩)) nat15 (by kernel_rfl) (by kernel_rfl) (by kernel_rfl) (fun _ _ _ h => False.elim h) (Or.inl ⟨by rfl, ?_⟩) HX2.out ?_
      · intro wx hSw
        go_simp
      simp only [Act.put, List.setIfInBounds_toArray, List.set_cons_zero, List.set_cons_succ]
      refine wpAnyH_take (i := 16) (v := .pointer (some ⟨F, 0, none⟩)) nat16 (by kernel_rfl) (by kernel_rfl) (by kernel_rfl) (fun _ _ _ h => False.elim h) (Or.inl ⟨by rfl, ?_⟩) HX2.out ?_
      · intro wx hSw
        go_simp
      simp only [Act.put, List.setIfInBounds_toArray, List.set_cons_zero, List.set_cons_succ]
      refine wpAnyH_take (i := 17) (v := .pointer (some ⟨F, 0, none⟩)) nat17 (by kernel_rfl) (by kernel_rfl) (by kernel_rfl) (fun _ _ _ h => False.elim h) (Or.inl ⟨by rfl, ?_⟩) HX2.out ?_
      · intro wx hSw
        go_simp
      simp only [Act.put, List.setIfInBounds_toArray, List.set_cons_zero, List.set_cons_succ]
      refine wpAnyH_take (i := 18) (v := .pointer (some ⟨F, 0, none⟩)) nat18 (by kernel_rfl) (by kernel_rfl) (by kernel_rfl) (fun _ _ _ h => False.elim h) (Or.inl ⟨by rfl, ?_⟩) HX2.out ?_
      · intro wx hSw
        go_simp
      simp only [Act.put, List.setIfInBounds_toArray, List.set_cons_zero, List.set_cons_succ]
      refine wpAnyH_take (i := 19) (v := .int .i64 (m : Int)) nat19 (by kernel_rfl) (by kernel_rfl) (by kernel_rfl) (fun _ _ _ h => False.elim h) (Or.inl ⟨by rfl, ?_⟩) HX2.out ?_
      · intro wx hSw
        have hSx : Bw F B m p ah (.slice ae bs.size ce) (.slice ab ms.length cb) bs ms wx ∧ Below w.heap.size w wx := hSw
        have xl : wx.cell? ⟨F, 0, none⟩ = some (.int .i64 m) := hSx.1.bx.cell 0
        go_simp
      simp only [Act.put, List.setIfInBounds_toArray, List.set_cons_zero, List.set_cons_succ]
      refine wpAnyH_take (i := 20) (v := .int .u32 (m : Int)) nat20 (by kernel_rfl) (by kernel_rfl) (by kernel_rfl) (fun _ _ _ h => False.elim h) (Or.inl ⟨by rfl, ?_⟩) HX2.out ?_
      · intro wx hSw
        go_simp
      simp only [Act.put, List.setIfInBounds_toArray, List.set_cons_zero, List.set_cons_succ]
      refine wpAnyH_ready (rs := [13]) (by kernel_rfl) (by simp) ?_
      refine AllReadyH.cons nat13 (fun K hK => ?_) AllReadyH.nil
      go_simp
      go_at_call 61
      refine (impl_PutFixed (ms.length : Int) _).mono ?_
      rintro e wq0 ⟨rfl, hb0⟩
      have H0 := hide (And.intro (HX2.out.1.next hb0) (HX2.out.2.trans (hb0.mono HX2.out.2.size)))
      refine hK.out _ _ H0.out (fun _ => ?_)
      clear hK K hb0 HX2
      refine wpAnyH_take (i := 14) (v := .string (bs ++ pl ++ fx4 ms.length)) nat14 (by kernel_rfl) (by kernel_rfl) (by kernel_rfl) (fun _ _ _ h => False.elim h) (Or.inl ⟨by rfl, ?_⟩) H0.out ?_
      · intro wx hSw
        go_simp
      simp only [Act.put, List.setIfInBounds_toArray, List.set_cons_zero, List.set_cons_succ]
      refine wpAnyH_ready (rs := [21]) (by kernel_rfl) (by simp) ?_
      refine AllReadyH.cons nat21 (fun K hK => ?_) AllReadyH.nil
      go_simp
      go_at_call 61
      refine (impl_PutFixed (m : Int) _).mono ?_
      rintro e wq1 ⟨rfl, hb1⟩
      have H1 := hide (And.intro (H0.out.1.next hb1) (H0.out.2.trans (hb1.mono H0.out.2.size)))
      refine hK.out _ _ H1.out (fun _ => ?_)
      clear hK K hb1 H0
      refine wpAnyH_take (i := 22) (v := .string (bs ++ pl ++ fx4 ms.length ++ fx4 m)) nat22 (by kernel_rfl) (by kernel_rfl) (by kernel_rfl) (fun _ _ _ h => False.elim h) (Or.inl ⟨by rfl, ?_⟩) H1.out ?_
      · intro wx hSw
        go_simp
      simp only [Act.put, List.setIfInBounds_toArray, List.set_cons_zero, List.set_cons_succ]
      refine wpAnyH_take (i := 23) (v := .string (bs ++ pl ++ fx4 ms.length ++ fx4 m)) nat23 (by kernel_rfl) (by kernel_rfl) (by kernel_rfl) (fun _ _ _ h => False.elim h) (Or.inl ⟨by rfl, ?_⟩) H1.out ?_
      · intro wx hSw
        go_simp
      simp only [Act.put, List.setIfInBounds_toArray, List.set_cons_zero, List.set_cons_succ]
      refine wpAnyH_done (by kernel_rfl) ?_ _
      refine NoPanic.normal ?_
      go_wp2
      go_ret
      exact ⟨ret_strB HV.out, H1.out.2⟩

end Go.Proofs.Ytljmfdcilnbjaac
