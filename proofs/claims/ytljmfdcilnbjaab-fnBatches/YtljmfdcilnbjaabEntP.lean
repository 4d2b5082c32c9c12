/- BatchEntries of the program: the entries of the ops, in the order of their keys. -/
import Derived.Test.YtljmfdcilnbjaabSortE
import Derived.Test.YtljmfdcilnbjaabCpE
import Derived.Test.YtljmfdcilnbjaabBatch
import Derived.Test.YtljmfdcilnbjaabRdB
namespace Go.Proofs.Ytljmfdcilnbjaab
set_option maxRecDepth 100000
open Go.RowKit Go.Deep Go.Sort

/-- A row of entries of one's own, maybe nil. -/
def OwnV (w : World) (B : Nat) (v : Value) (es : List En) : Prop := w.ownsRow B 52 4 v es.length (cellsE es)

theorem OwnV.lies {w : World} {B : Nat} {v : Value} {es : List En} (h : OwnV w B v es) (h0 : 0 < es.length) : ∃ g cap, v = .slice (some ⟨g, 0, none⟩) es.length cap ∧ OwnE w B g cap es := by
  rcases h.2 with ⟨_, hn⟩ | ⟨g, cap, cur, hv, r⟩
  · omega
  · refine ⟨g, cap, hv, ?_⟩
    subst hv
    exact h

/-- 'append(v, u...)', u entries that lie at ad. -/
theorem wpList_append_ev {w : World} {ops : Array Oper} {rest : List Oper} {o : Oper} {a : Act} {Q : Exit → Act → World → Prop} (hgd : o.guard = none) (s x : Operand) (t : TypeId)
    (ho : o.op = .call { callee := .builtin .append, args := #[s, x], argTypes := #[t, t] }) (ht : Try.prog.underlying t = some (.slice 52))
    (B : Nat) (v : Value) (es news : List En) (hs : a.eval s = v) (hown : OwnV w B v es) (ad : Addr) (m c : Nat) (hx : a.eval x = .slice (some ad) m c) (hm : news.length = m)
    (hnews : ∀ j u, (cellsE news)[j]? = some u → w.cell? (ad.add j) = some u) (hB : B ≤ w.heap.size) (hlen : es.length + m ≤ 1000)
    (h : ∀ v' w', OwnV w' B v' (es ++ news) → Below B w w' → wpList Try.prog ops Q rest (a.put o.dst v') w') : wpList Try.prog ops Q (o :: rest) a w := by
  obtain ⟨i0, hi', hz0, hs0, hb0⟩ := info_parts entry_info
  refine wpList_append_own w hgd s x t ho B 52 i0 _ 4 48 ht hi' hz0 hs0 hb0 rfl (by decide) _ es.length (cellsE es) hs hown ad m c (cellsE news) hx (by rw [cellsE_len, hm]) hnews (cellsE_one news) (by unfold maxLen; omega) (by omega) hB ?_
  intro v' w' h1 h2 h3
  refine h v' w' ?_ ((Below.refl B w).grown h2 hB fun k hk => (World.ownsRow.lt hown k hk).1)
  unfold OwnV
  rw [List.length_append, hm, cellsE_append]
  exact h1

theorem ents_snoc (O : Ops) (q : Int) (k : Nat) : (List.range (k + 1)).map (opEn O q) = (List.range k).map (opEn O q) ++ [⟨O.U k, q + (k : Int), O.K k, O.X k⟩] := by
  rw [List.range_succ, List.map_append]; rfl

theorem batchOk_sz {q : Int} {len : Nat} {O : Ops} (h : batchOkB q len O = true) (i : Nat) (hi : i < len) : (O.U i).size ≤ 281474976710656 ∧ (O.X i).size ≤ 281474976710656 := by
  have h := (batchOk_out h).2 i hi
  have h' : entryOkB (O.U i) (q + (i : Int)) (O.K i) (O.X i) = true := h
  unfold entryOkB keyOkB at h'
  rw [Bool.and_eq_true, Bool.and_eq_true, decide_eq_true_iff, decide_eq_true_iff] at h'
  omega

set_option maxHeartbeats 2000000 in
theorem impl_BatchEntries (q : Int) (a : Option Addr) (len cap : Nat) (O : Ops) (w : World) (hl : len ≤ 1048576) (hS : OpAt w w.heap.size a len O) (hok : batchOkB q len O = true) :
    Calls Try.prog 11 #[.agg #[.int .i64 q, .slice a len cap]] w fun e w' => (∃ g cap', e = .returned (.slice (some ⟨g, 0, none⟩) len cap') ∧ OwnE w' w.heap.size g cap' ((sortB O q (List.range len)).map (opEn O q))) ∧ Below w.heap.size w w' := by
  obtain ⟨⟨r1, r2, r3, r4⟩, _⟩ := batchOk_out hok
  have hsz := batchOk_sz hok
  have HS : Hid (OpAt w w.heap.size a len O) := hS
  have cb := fun wx h => hok ▸ impl_BatchOk q a len cap O wx hl h
  have HX0 := hide (BoxIs.new w #[.int .i64 q, .slice a len cap] 26 rfl)
  have HS0 := hide ((hS.below ((Below.refl w.heap.size w).alloc (Nat.le_refl _) (.cells #[.int .i64 q, .slice a len cap] 26))).mono (B' := (w.alloc (.cells #[.int .i64 q, .slice a len cap] 26)).heap.size) (by simp))
  have HL0 : Hid (Below w.heap.size w (w.alloc (.cells #[.int .i64 q, .slice a len cap] 26))) := (Below.refl w.heap.size w).alloc (Nat.le_refl _) _
  have hz0 : (w.alloc (.cells #[.int .i64 q, .slice a len cap] 26)).heap.size = w.heap.size + 1 := by simp
  clear hS hok
  go_enter Try.func11, Try.ntmps11
  go_wp2_with fail
  refine (cb _ HS0.out).mono ?_
  rintro e w1 ⟨rfl, hb1⟩
  have HX1 := hide (HX0.out.next hb1)
  have HL1 := hide (HL0.out.trans (hb1.mono HL0.out.size))
  have hz1 : w.heap.size + 1 ≤ w1.heap.size := by have := hb1.size; omega
  clear hb1 cb HX0 HS0 HL0 hz0
  obtain ⟨x0, x1⟩ : w1.cell? ⟨w.heap.size, 0, none⟩ = some (.int .i64 q) ∧ w1.cell? ⟨w.heap.size, 1, none⟩ = some (.slice a len cap) := ⟨HX1.out.cell 0, HX1.out.cell 1⟩
  go_wp2
  clear x0 x1
  go_loopw [11, 3] (fun i v wr => ∃ k : Nat, i = .int .i64 k ∧ k ≤ len ∧ Hid (OwnV wr (w.heap.size + 1) v ((List.range k).map (opEn O q))) ∧ Hid (BoxIs wr w.heap.size #[.int .i64 q, .slice a len cap] 26) ∧ Hid (Below w.heap.size w wr ∧ w.heap.size + 1 ≤ wr.heap.size)) (fun i _ _ => len - (intOf i).toNat)
  case atStart => exact ⟨0, rfl, by omega, World.ownsRow_nil _ _ _ _, HX1, ⟨HL1.out, hz1⟩⟩
  case round =>
    obtain ⟨k, rfl, hk, HO, HX, HW⟩ := hrel
    clear HX1 HL1 hz1
    by_cases hlt : k < len
    · obtain ⟨hu, hx⟩ := hsz k hlt
      obtain ⟨x0, x1⟩ : wr.cell? ⟨w.heap.size, 0, none⟩ = some (.int .i64 q) ∧ wr.cell? ⟨w.heap.size, 1, none⟩ = some (.slice a len cap) := ⟨HX.out.cell 0, HX.out.cell 1⟩
      have hzr := HW.out.2
      go_wp2_with fail
      refine (impl_entryAt q a len cap O k _ hlt hl ⟨by omega, by omega⟩ ((HS.out.below HW.out.1).mono HW.out.1.size)).mono ?_
      rintro e w2 ⟨rfl, hb2⟩
      unfold entOut
      go_wp2_with fail
      refine (impl_copyEntry _ _ _ _ _ hu hx).mono ?_
      rintro e w3 ⟨rfl, hb3⟩
      have hb3' := hb2.trans (hb3.mono hb2.size)
      have hO3 := own_next HO.out hb3'
      have hX3 := HX.out.next hb3'
      have hW3 := HW.out.1.trans (hb3'.mono HW.out.1.size)
      have hz3 : w.heap.size + 1 ≤ w3.heap.size := Nat.le_trans hzr hb3'.size
      have hb4 := below_one w3 (.cells #[.string (O.U k), .int .i64 (q + (k : Int)), .int .i64 (O.K k), .string (O.X k)] 52)
      have HO4 := hide (own_next hO3 hb4)
      have HX4 := hide (hX3.next hb4)
      have HW4 := hide (hW3.trans (hb4.mono hW3.size))
      have hz4 : w.heap.size + 1 ≤ (w3.alloc (.cells #[.string (O.U k), .int .i64 (q + (k : Int)), .int .i64 (O.K k), .string (O.X k)] 52)).heap.size := Nat.le_trans hz3 hb4.size
      have hsrc := srcOne w3 (O.U k) (q + (k : Int)) (O.K k) (O.X k)
      clear hb2 hb3 hb3' hO3 hX3 hW3 hb4 x0 x1 HO HX HW
      go_wp2_with (at_builtin; refine wpList_append_ev rfl _ _ 33 rfl Try.underlying33 (w.heap.size + 1) _ ((List.range k).map (opEn O q)) [⟨O.U k, q + (k : Int), O.K k, O.X k⟩] (by rfl) HO4.out ⟨w3.heap.size, 0, none⟩ 1 1 (by rfl) rfl hsrc hz4 ?c3 ?_)
      case c3 => simp; omega
      intro v' w5 hO5 hb5
      rw [← ents_snoc] at hO5
      have HO5 := hide hO5
      have HX5 := hide (HX4.out.below hb5 (Nat.lt_succ_self _))
      have HW5 : Hid (Below w.heap.size w w5 ∧ w.heap.size + 1 ≤ w5.heap.size) := ⟨HW4.out.trans (hb5.mono (Nat.le_succ _)), Nat.le_trans hz4 hb5.size⟩
      clear hO5 hb5 HO4 HX4 HW4 hz4 hz3 hsrc
      go_wp2
      exact ⟨⟨k + 1, by go_num, by omega, HO5, HX5, HW5⟩, by simp [intOf]; omega⟩
    · obtain rfl : k = len := by omega
      obtain ⟨g, cp, rfl, hE⟩ := HO.out.lies (by simp; omega)
      rw [List.length_map, List.length_range] at *
      have HE := hide hE
      clear hE HO
      go_wp2_with fail
      refine (sort_entries O q (List.range k) k (w.heap.size + 1) g cp _ List.length_range HE.out (by omega)).mono ?_
      rintro e w2 ⟨rfl, hO2, hb2⟩
      have HO2 := hide (hO2.mono (Nat.le_succ _))
      have HW2 := hide (HW.out.1.trans (hb2.mono (Nat.le_succ _)))
      clear hO2 hb2 HE HX HW
      go_wp2
      go_ret
      exact ⟨⟨g, cp, rfl, HO2.out⟩, HW2.out⟩

end Go.Proofs.Ytljmfdcilnbjaab
