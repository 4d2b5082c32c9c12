/- neededBy and its closure; Needed of the program. (By gen_need.py.) -/
import Derived.Test.YtapajchnfjjipaaLEntsOk
import Derived.Test.YtapajchnfjjipaaSnaps
import Derived.Test.YtapajchnfjjipaaVis
import Derived.Deep.RegionLaw
namespace Go.Proofs.Ytapajchnfjjipaa
set_option maxRecDepth 100000
open Go.RowKit Go.Deep

/-- Blocks of another type than t0 are as they were. -/
def Keep (t0 : TypeId) (w w' : World) : Prop := ∀ (k : Nat) (cs : Array Value) (t : TypeId), t ≠ t0 → w.heap[k]? = some (.cells cs t) → w'.heap[k]? = some (.cells cs t)
theorem BoxIs.keep {t0 : TypeId} {w w' : World} {F : Nat} {cs : Array Value} {t : TypeId} (h : BoxIs w F cs t) (hk : Keep t0 w w') (ht : t ≠ t0) : BoxIs w' F cs t := hk F cs t ht h
theorem keep_next {t0 : TypeId} {w w' : World} (hb : Below w.heap.size w w') : Keep t0 w w' := fun k _ _ _ hh => (hb.block k (Array.getElem?_eq_some_iff.1 hh).1).trans hh
theorem keep_set {t0 : TypeId} {w : World} {x o : Nat} {cs : Array Value} {v : Value} (h : BoxIs w x cs t0) : Keep t0 w (w.setCell ⟨x, o, none⟩ v) := fun k cs' t ht hh => by
  by_cases e : k = x
  · subst e
    have h' : w.heap[k]? = some (.cells cs t0) := h
    rw [h'] at hh
    simp only [Option.some.injEq, Obj.cells.injEq] at hh
    exact absurd hh.2.1.symm ht
  · rw [Below.heap_setCell _ _ _ _ (by simpa using e)]; exact hh
theorem keep_grown {t0 : TypeId} {w w' : World} {B : Nat} {v : Value} {xs : List Value} (h : Own w B t0 v xs) (hg : w.grownBy w' v.ownBlock) : Keep t0 w w' := fun k cs t ht hh => by
  refine (hg.block k (Array.getElem?_eq_some_iff.1 hh).1 (fun e => ?_)).trans hh
  rcases h.2 with ⟨rfl, _⟩ | ⟨g, cap, cur, rfl, _, hc, _⟩
  · cases e
  · have e' : k = g := by simpa [Value.ownBlock] using e
    subst e'
    rw [hc] at hh
    simp only [Option.some.injEq, Obj.cells.injEq] at hh
    exact ht hh.2.1.symm
theorem Own.keep {t0 : TypeId} {w w' : World} {B : Nat} {e : TypeId} {v : Value} {xs : List Value} (h : Own w B e v xs) (hk : Keep t0 w w') (ht : e ≠ t0) : Own w' B e v xs := by
  refine ⟨h.1, ?_⟩
  rcases h.2 with hn | ⟨g, cap, cur, hv, hg, hh, r⟩
  · exact .inl hn
  · exact .inr ⟨g, cap, cur, hv, hg, hk g cur e ht hh, r⟩
theorem Own.grownBelow {w w' : World} {B : Nat} {e : TypeId} {v : Value} {xs : List Value} (h : Own w B e v xs) (hB : B ≤ w.heap.size) (hg : w.grownBy w' v.ownBlock) : Below B w w' :=
  (Below.refl B w).grown hg hB fun k hk => (World.ownsRow.lt h k hk).1
theorem Own.shape {w : World} {B : Nat} {e : TypeId} {v : Value} {xs : List Value} (h : Own w B e v xs) (h0 : xs ≠ []) : ∃ r p, v = .slice (some ⟨r, 0, none⟩) xs.length p := by
  rcases h.2 with ⟨_, h1⟩ | ⟨g, cap, cur, rfl, _⟩
  · exact absurd (List.length_eq_zero_iff.1 h1) h0
  · exact ⟨g, cap, rfl⟩

/-- AT A STEP OF A REGION: one cell is appended to a row of one's own. -/
theorem step_append_one {w : World} {ops : Array Oper} {o : Oper} {a : Act} {K : Act → World → Prop} {Q : Exit → Act → World → Prop} {C : Prop} (hgd : o.guard = none) (s x : Operand) (t : TypeId)
    (ho : o.op = .call { callee := .builtin .append, args := #[s, x], argTypes := #[t, t] }) (e : TypeId) (ht : Try.prog.underlying t = some (.slice e)) {z : Value} {bytes : Nat} (hi : (Try.prog.info? e).map (fun i => (i.zero, i.size, i.bytes)) = some (some z, 1, bytes)) (hz1 : z.cells.size = 1) (hby : bytes ≤ 1024)
    (B : Nat) (v : Value) (xs : List Value) (hs : a.eval s = v) (hown : Own w B e v xs) (ad : Nat) (c : Nat) (u : Value) (hx : a.eval x = .slice (some ⟨ad, 0, none⟩) 1 c) (hu : u.oneCell' = true)
    (hc : w.cell? ⟨ad, 0, none⟩ = some u) (hB : B ≤ w.heap.size) (hlen : xs.length ≤ 1000000)
    (h : ∀ v' w', Own w' B e v' (xs ++ [u]) → w.grownBy w' v.ownBlock → K (a.put o.dst v') w') :
    if Region.wanted o (yielded ops a.tmps) = true then Oper.wp Try.prog o a w K Q else C := by
  have hw : Region.wanted o (yielded ops a.tmps) = true := by simp [Region.wanted, hgd]
  rw [if_pos hw]
  obtain ⟨i0, hi', hz0, hs0, hb0⟩ := info_parts hi
  have hnews : ∀ j y, ([u] : List Value)[j]? = some y → w.cell? ((⟨ad, 0, none⟩ : Addr).add j) = some y := by
    intro j y hy
    match j, hy with
    | 0, hy => simp at hy; subst hy; simpa [Addr.add] using hc
  obtain ⟨v', w', hr, h2, h3, _⟩ := run_append_own (P := Try.prog) (w := w) B t o.type e i0 _ 1 bytes ht hi' hz0 hs0 hb0 hz1 (by decide) v xs.length xs hown ⟨ad, 0, none⟩ 1 c [u] rfl hnews (by intro y hy; simp at hy; subst hy; exact hu) (by unfold maxLen; omega) (by have : (xs.length + 1) * bytes ≤ 100000000 * 1024 := Nat.mul_le_mul (by omega) hby; omega) hB
  unfold Oper.wp execOp
  simp only [ho, resolve, invoke, builtin, Sem.run_bind, Sem.run_pure, Result.andThen_ok, List.map_toArray, List.map_cons, List.map_nil, hs, hx, hr]
  refine h v' w' ?_ h3
  unfold Own
  rw [List.length_append]
  exact h2

/-- A closure of lookedAt: where its variables lie, the last user, the number. -/
structure Cl where
  g : Nat
  b : Nat
  p : ByteArray
  s : Int
def Cl.f (c : Cl) : Value := lookF c.g c.b
def Cl.step (u : ByteArray) (q : Int) (c : Cl) : Cl := ⟨c.g, c.b, lkp c.s c.p u q, c.s⟩
def Cl.sees (u : ByteArray) (q : Int) (c : Cl) : Bool := lk c.s c.p u q
/-- The closures lie in memory, from block B on, each with a text of its own. -/
structure ClsIs (w : World) (B : Nat) (fs : List Cl) : Prop where
  at' : ∀ c ∈ fs, B ≤ c.g ∧ BoxIs w c.g #[.string c.p] 9 ∧ BoxIs w c.b #[.int .i64 c.s] 2
  dis : fs.Pairwise fun a b => a.g ≠ b.g
theorem ClsIs.keep {t0 : TypeId} {w w' : World} {B : Nat} {fs : List Cl} (h : ClsIs w B fs) (hk : Keep t0 w w') (h1 : 9 ≠ t0) (h2 : 2 ≠ t0) : ClsIs w' B fs :=
  ⟨fun c hc => ⟨(h.at' c hc).1, (h.at' c hc).2.1.keep hk h1, (h.at' c hc).2.2.keep hk h2⟩, h.dis⟩
theorem ClsIs.next {w w' : World} {B : Nat} {fs : List Cl} (h : ClsIs w B fs) (hb : Below w.heap.size w w') : ClsIs w' B fs :=
  ⟨fun c hc => ⟨(h.at' c hc).1, (h.at' c hc).2.1.next hb, (h.at' c hc).2.2.next hb⟩, h.dis⟩
theorem ClsIs.more {w : World} {B : Nat} {fs : List Cl} (h : ClsIs w B fs) {c : Cl} (hB : B ≤ c.g) (hg : BoxIs w c.g #[.string c.p] 9) (hb : BoxIs w c.b #[.int .i64 c.s] 2) (hn : ∀ d ∈ fs, d.g ≠ c.g) : ClsIs w B (fs ++ [c]) :=
  ⟨fun d hd => by
    rcases List.mem_append.1 hd with h1 | h1
    · exact h.at' d h1
    · obtain rfl : d = c := by simpa using h1
      exact ⟨hB, hg, hb⟩, by
    rw [List.pairwise_append]
    refine ⟨h.dis, List.pairwise_singleton _ _, fun a ha b hb => ?_⟩
    obtain rfl : b = c := by simpa using hb
    exact hn a ha⟩
theorem ClsIs.turn {w w' : World} {B : Nat} {pre post : List Cl} {c : Cl} (h : ClsIs w B (pre ++ c :: post)) (hm : Mv c.g w w') {p : ByteArray} (hp : BoxIs w' c.g #[.string p] 9) : ClsIs w' B (pre ++ ⟨c.g, c.b, p, c.s⟩ :: post) := by
  have hd := h.dis
  rw [List.pairwise_append] at hd
  obtain ⟨hd1, hd2, hd3⟩ := hd
  rw [List.pairwise_cons] at hd2
  have hcm := h.at' c (by simp)
  have old : ∀ d ∈ pre ++ c :: post, d.g ≠ c.g → B ≤ d.g ∧ BoxIs w' d.g #[.string d.p] 9 ∧ BoxIs w' d.b #[.int .i64 d.s] 2 := fun d hd hn =>
    ⟨(h.at' d hd).1, (h.at' d hd).2.1.mv hm hn, (h.at' d hd).2.2.mv hm ((h.at' d hd).2.2.ne hcm.2.1 (by decide))⟩
  refine ⟨fun d hd => ?_, ?_⟩
  · rcases List.mem_append.1 hd with h1 | h1
    · exact old d (by simp [h1]) (hd3 d h1 c (by simp))
    · rcases List.mem_cons.1 h1 with h2 | h2
      · subst h2
        exact ⟨hcm.1, hp, hcm.2.2.mv hm (hcm.2.2.ne hcm.2.1 (by decide))⟩
      · exact old d (by simp [h2]) (fun e => hd2.1 d h2 e.symm)
  · rw [List.pairwise_append]
    refine ⟨hd1, ?_, fun a ha b hb => ?_⟩
    · rw [List.pairwise_cons]; exact hd2
    · rcases List.mem_cons.1 hb with h2 | h2
      · subst h2; exact hd3 a ha c (by simp)
      · exact hd3 a ha b (by simp [h2])

/-- The closures of neededBy and the row that names them, in the box x. -/
structure NdIs (w : World) (B x : Nat) (fs : List Cl) : Prop where
  hB : B ≤ w.heap.size
  hx : B ≤ x
  row : ∃ r p, BoxIs w x #[.slice (some ⟨r, 0, none⟩) fs.length p] 80 ∧ Own w B 56 (.slice (some ⟨r, 0, none⟩) fs.length p) (fs.map Cl.f)
  cls : ClsIs w B fs
theorem NdIs.next {w w' : World} {B x : Nat} {fs : List Cl} (h : NdIs w B x fs) (hb : Below w.heap.size w w') : NdIs w' B x fs := by
  obtain ⟨r, p, h1, h2⟩ := h.row
  exact ⟨Nat.le_trans h.hB hb.size, h.hx, ⟨r, p, h1.next hb, h2.below hb (Nat.le_refl _)⟩, h.cls.next hb⟩
theorem NdIs.keep {t0 : TypeId} {w w' : World} {B x : Nat} {fs : List Cl} (h : NdIs w B x fs) (hz : w.heap.size ≤ w'.heap.size) (hk : Keep t0 w w') (h1 : 9 ≠ t0) (h2 : 2 ≠ t0) (h3 : 56 ≠ t0) (h4 : 80 ≠ t0) : NdIs w' B x fs := by
  obtain ⟨r, p, k1, k2⟩ := h.row
  exact ⟨Nat.le_trans h.hB hz, h.hx, ⟨r, p, k1.keep hk h4, k2.keep hk h3⟩, h.cls.keep hk h1 h2⟩

theorem cls_step_f (u : ByteArray) (q : Int) (fs : List Cl) : (fs.map (Cl.step u q)).map Cl.f = fs.map Cl.f := by
  rw [List.map_map]; rfl

set_option linter.unusedVariables false in
set_option maxHeartbeats 1000000 in
theorem impl_needs (u : ByteArray) (q k : Int) (w : World) (B x : Nat) (fs : List Cl) (hn : NdIs w B x fs) (hl : fs.length ≤ 1000) :
    Calls Try.prog 56 #[.agg #[.string u, .int .i64 q, .int .i64 k], .pointer (some ⟨x, 0, none⟩)] w fun e w' =>
      e = .returned (.bool (fs.any (Cl.sees u q))) ∧ Sm B w w' ∧ NdIs w' B x (fs.map (Cl.step u q)) := by
  obtain ⟨r, cp, hbx, hro⟩ := hn.row
  have hb1 := below_one w (.cells #[.string u, .int .i64 q, .int .i64 k] 43)
  have HBX := (hbx.next hb1).hid
  have HRO := hide (hro.below hb1 (Nat.le_refl _))
  have HC0 : Hid (ClsIs (w.alloc (.cells #[.string u, .int .i64 q, .int .i64 k] 43)) B ([].map (Cl.step u q) ++ fs)) := hn.cls.next hb1
  have HS0 := hide (Sm.of_below (B := B) hb1 hn.hB)
  have HX := (BoxIs.new w #[.string u, .int .i64 q, .int .i64 k] 43 rfl).hid
  have hxB := hn.hx
  have hBw := hn.hB
  have hxl := hbx.lt
  have hxn : x ≠ w.heap.size := by omega
  have c0 : (w.alloc (.cells #[.string u, .int .i64 q, .int .i64 k] 43)).cell? ⟨x, 0, none⟩ = some (.slice (some ⟨r, 0, none⟩) fs.length cp) := (hbx.next hb1).cell 0
  clear hb1 hbx hro hn
  go_enter Try.func56, Try.ntmps56
  go_wp2
  generalize w.alloc (.cells #[.string u, .int .i64 q, .int .i64 k] 43) = W0 at HBX HRO HC0 HS0 HX c0 ⊢
  clear c0
  go_loopw [4, 9] (fun nd i wr => ∃ (pre post : List Cl) (b : Bool), nd = .bool b ∧ i = .int .i64 (pre.length : Nat) ∧ Hid (fs = pre ++ post) ∧ Hid (b = pre.any (Cl.sees u q)) ∧ Hid (ClsIs wr B (pre.map (Cl.step u q) ++ post)) ∧ Hid (Sm B W0 wr)) (fun _ i _ => fs.length - (intOf i).toNat)
  case atStart => exact ⟨[], fs, false, rfl, rfl, rfl, rfl, HC0, Sm.refl _ _⟩
  case round =>
    obtain ⟨pre, post, b, rfl, rfl, HFS, HNB, HC, HSM⟩ := hrel
    clear HC0
    rcases post with _ | ⟨c, post⟩
    · have hfs := HFS.out
      have hpl : pre.length = fs.length := by rw [hfs, List.append_nil]
      have hpi : ¬ ((pre.length : Int) < (fs.length : Int)) := by omega
      have HV : Hid (b = fs.any (Cl.sees u q)) := by show _ = _; rw [hfs, List.append_nil]; exact HNB.out
      have hs := HS0.out.trans HSM.out
      have HF : Hid (Sm B w wr) := hs
      have HN : Hid (NdIs wr B x (fs.map (Cl.step u q))) := by
        refine ⟨Nat.le_trans hBw hs.size, hxB, ⟨r, cp, ?_, ?_⟩, ?_⟩
        · rw [List.length_map]; exact HBX.out.sm HSM.out (by decide)
        · rw [cls_step_f, List.length_map]; exact ownsRow_sm HRO.out HSM.out (by decide)
        · have := HC.out; rw [List.append_nil] at this; rw [hfs, List.append_nil]; exact this
      clear hfs HFS HNB HC HSM hs hpl
      go_wp2
      go_ret
      exact ⟨ret_boolE HV.out, HF.out, HN.out⟩
    · have hfs := HFS.out
      have hll : pre.length < fs.length := by rw [hfs]; simp
      have hpi : (pre.length : Int) < (fs.length : Int) := by omega
      have hcm := HC.out.at' c (by simp)
      have HROw : Own wr B 56 (.slice (some ⟨r, 0, none⟩) fs.length cp) (fs.map Cl.f) := ownsRow_sm HRO.out HSM.out (by decide)
      have hrow : wr.cell? ⟨r, pre.length, none⟩ = some (lookF c.g c.b) := by
        have := World.ownsRow.cells (w := wr) HROw (g := r) rfl pre.length (lookF c.g c.b) (by rw [hfs]; simp [Cl.f])
        rw [Addr.add_lit] at this
        simpa using this
      have hxk := HX.out.sm HSM.out (by decide)
      have x0 : wr.cell? ⟨w.heap.size, 0, none⟩ = some (.string u) := hxk.cell 0
      have x1 : wr.cell? ⟨w.heap.size, 1, none⟩ = some (.int .i64 q) := hxk.cell 1
      have x2 : wr.cell? ⟨w.heap.size, 2, none⟩ = some (.int .i64 k) := hxk.cell 2
      have hwz := HSM.out.size
      have hz0 := HX.out.lt
      have hc := impl_look c.p u q k c.s wr B c.g c.b hcm.1 (by omega) hcm.2.1 hcm.2.2
      have hc1 : (pre ++ [c]).length = pre.length + 1 := by simp
      have HFS2 : Hid (fs = (pre ++ [c]) ++ post) := by show _ = _; rw [hfs, List.append_assoc]; rfl
      clear hcm HROw hxk
      cases hv : lk c.s c.p u q with
      | true =>
        rw [hv] at hc
        have HNB2 : Hid (true = (pre ++ [c]).any (Cl.sees u q)) := by show _ = _; rw [List.any_append]; simp [Cl.sees, hv]
        clear hfs HFS hll
        go_wp2_with fail
        refine hc.mono ?_
        rintro e w3 ⟨rfl, hs, hm, hg3⟩
        have HC3 : Hid (ClsIs w3 B ((pre ++ [c]).map (Cl.step u q) ++ post)) := by
          have := HC.out.turn hm hg3
          show ClsIs _ _ _
          rw [List.map_append, List.append_assoc]
          exact this
        have HSM3 := hide (HSM.out.trans hs)
        clear hs hm hg3 HC hv hc x0 x1 x2 hrow
        go_wp2
        exact ⟨⟨pre ++ [c], post, true, rfl, by rw [hc1]; go_num, HFS2, HNB2, HC3, HSM3⟩, by simp [intOf]; omega⟩
      | false =>
        rw [hv] at hc
        have HNB2 : Hid (b = (pre ++ [c]).any (Cl.sees u q)) := by show _ = _; rw [List.any_append, ← HNB.out]; simp [Cl.sees, hv]
        clear hfs HFS hll
        go_wp2_with fail
        refine hc.mono ?_
        rintro e w3 ⟨rfl, hs, hm, hg3⟩
        have HC3 : Hid (ClsIs w3 B ((pre ++ [c]).map (Cl.step u q) ++ post)) := by
          have := HC.out.turn hm hg3
          show ClsIs _ _ _
          rw [List.map_append, List.append_assoc]
          exact this
        have HSM3 := hide (HSM.out.trans hs)
        clear hs hm hg3 HC hv hc x0 x1 x2 hrow
        go_wp2
        exact ⟨⟨pre ++ [c], post, b, rfl, by rw [hc1]; go_num, HFS2, HNB2, HC3, HSM3⟩, by simp [intOf]; omega⟩

/-- The numbers that are asked of: the greatest, then the snapshots. -/
def seqsL (S : Nat → Int) (n : Nat) : List Int := 1000000000000 :: (List.range n).map S
theorem seqsL_succ (S : Nat → Int) (k : Nat) : seqsL S (k + 1) = seqsL S k ++ [S k] := by simp [seqsL, List.range_succ]
theorem seqsL_len (S : Nat → Int) (k : Nat) : (seqsL S k).length = k + 1 := by simp [seqsL]

set_option linter.unusedVariables false in
set_option maxHeartbeats 1000000 in
theorem impl_neededBy (a : Option Addr) (len cap : Nat) (S : Nat → Int) (w : World) (hl : len ≤ 20) (hS : IntAt w w.heap.size a len S) :
    Calls Try.prog 36 #[.slice a len cap] w fun e w' => (∃ x fs, e = .returned (.func (.func 56) #[] #[.pointer (some ⟨x, 0, none⟩)]) ∧ NdIs w' w.heap.size x fs ∧ fs.map Cl.s = seqsL S len ∧ ∀ c ∈ fs, c.p = ⟨#[]⟩) ∧ Below w.heap.size w w' := by
  have hi57 : (Try.prog.info? 56).map (fun i => (i.zero, i.size, i.bytes)) = some (some .nilFunc, 1, 8) := by kernel_rfl
  have hmf : ∀ (fn : Fn) (first cap : Array Value) (w : World), (Instr.makeFunc fn first cap).run Try.prog w = .ok (.func fn first cap) w := fun _ _ _ _ => rfl
  have HS : Hid (IntAt w w.heap.size a len S) := hS
  clear hS
  go_enter Try.func36, Try.ntmps36
  go_wp2_with fail
  refine (impl_lookedAt 1000000000000 w).mono ?_
  rintro e w1 ⟨⟨g, b, rfl, hg, hG, hQ⟩, hb⟩
  have hb1 := below_one w1 (.cells #[Value.func (.func 63) #[] #[.pointer (some ⟨g, 0, none⟩), .pointer (some ⟨b, 0, none⟩)]] 56)
  have hR := BoxIs.new w1 #[Value.func (.func 63) #[] #[.pointer (some ⟨g, 0, none⟩), .pointer (some ⟨b, 0, none⟩)]] 56 rfl
  have hR2 : Own (w1.alloc (.cells #[Value.func (.func 63) #[] #[.pointer (some ⟨g, 0, none⟩), .pointer (some ⟨b, 0, none⟩)]] 56)) w.heap.size 56 (.slice (some ⟨w1.heap.size, 0, none⟩) 1 1) [Value.func (.func 63) #[] #[.pointer (some ⟨g, 0, none⟩), .pointer (some ⟨b, 0, none⟩)]] := Own.lit w1 _ _ [Value.func (.func 63) #[] #[.pointer (some ⟨g, 0, none⟩), .pointer (some ⟨b, 0, none⟩)]] 1 rfl hb.size (by decide)
  have hz1 : (w1.alloc (.cells #[Value.func (.func 63) #[] #[.pointer (some ⟨g, 0, none⟩), .pointer (some ⟨b, 0, none⟩)]] 56)).heap.size = w1.heap.size + 1 := by simp
  have hb2 := below_one (w1.alloc (.cells #[Value.func (.func 63) #[] #[.pointer (some ⟨g, 0, none⟩), .pointer (some ⟨b, 0, none⟩)]] 56)) (.cells #[.slice (some ⟨w1.heap.size, 0, none⟩) 1 1] 80)
  have hX := BoxIs.new (w1.alloc (.cells #[Value.func (.func 63) #[] #[.pointer (some ⟨g, 0, none⟩), .pointer (some ⟨b, 0, none⟩)]] 56)) #[.slice (some ⟨w1.heap.size, 0, none⟩) 1 1] 80 (g := w1.heap.size + 1) (by simp)
  have HW0 : Hid (Below w.heap.size w ((w1.alloc (.cells #[Value.func (.func 63) #[] #[.pointer (some ⟨g, 0, none⟩), .pointer (some ⟨b, 0, none⟩)]] 56)).alloc (.cells #[.slice (some ⟨w1.heap.size, 0, none⟩) 1 1] 80))) := (hb.trans (hb1.mono hb.size)).trans (hb2.mono (Nat.le_trans hb.size hb1.size))
  have HN0 : Hid (NdIs ((w1.alloc (.cells #[Value.func (.func 63) #[] #[.pointer (some ⟨g, 0, none⟩), .pointer (some ⟨b, 0, none⟩)]] 56)).alloc (.cells #[.slice (some ⟨w1.heap.size, 0, none⟩) 1 1] 80)) w.heap.size (w1.heap.size + 1) [⟨g, b, ⟨#[]⟩, 1000000000000⟩]) :=
    ⟨HW0.out.size, by have := hb.size; omega, ⟨w1.heap.size, 1, hX, hR2.below hb2 (Nat.le_refl _)⟩, ⟨fun c hc => by
      obtain rfl := List.mem_singleton.1 hc
      exact ⟨hg, (hG.next hb1).next hb2, (hQ.next hb1).next hb2⟩, List.pairwise_singleton _ _⟩⟩
  have HQ0 : Hid (([⟨g, b, ⟨#[]⟩, 1000000000000⟩] : List Cl).map Cl.s = seqsL S 0 ∧ ∀ c ∈ ([⟨g, b, ⟨#[]⟩, 1000000000000⟩] : List Cl), c.p = ⟨#[]⟩) := ⟨rfl, fun c hc => by obtain rfl := List.mem_singleton.1 hc; rfl⟩
  have hxB : w.heap.size ≤ w1.heap.size + 1 := by have := hb.size; omega
  clear hG hQ hb1 hR hR2 hz1 hb2 hX hb hg
  go_wp2
  generalize (w1.alloc (.cells #[Value.func (.func 63) #[] #[.pointer (some ⟨g, 0, none⟩), .pointer (some ⟨b, 0, none⟩)]] 56)).alloc (.cells #[.slice (some ⟨w1.heap.size, 0, none⟩) 1 1] 80) = W0 at HW0 HN0 ⊢
  generalize w1.heap.size + 1 = x at HN0 hxB ⊢
  go_loopw [10] (fun i wr => ∃ (k : Nat) (fs : List Cl), i = .int .i64 k ∧ k ≤ len ∧ Hid (NdIs wr w.heap.size x fs) ∧ Hid (fs.map Cl.s = seqsL S k ∧ ∀ c ∈ fs, c.p = ⟨#[]⟩) ∧ Hid (Below w.heap.size w wr)) (fun i _ => len - (intOf i).toNat)
  case atStart => exact ⟨0, _, rfl, by omega, HN0, HQ0, HW0⟩
  case round =>
    obtain ⟨k, fs, rfl, hk, HN, HQ, HW⟩ := hrel
    clear HN0 HQ0 HW0
    by_cases hlt : k < len
    · have hki : (k : Int) < (len : Int) := by omega
      obtain ⟨bS, off, rfl, hbS, c0⟩ := (HS.out.below HW.out).at hlt
      have hfl : fs.length ≤ 30 := by
        have h := congrArg List.length HQ.out.1
        rw [List.length_map, seqsL_len] at h
        omega
      go_wp2_with fail
      obtain ⟨r, cp, XB, RW⟩ := HN.out.row
      have CL := HN.out.cls
      have EW := HW.out
      clear HW c0
      refine wp_region_noPanic ?_
      have hb0 : Below wr.heap.size wr wr.drew := (Below.refl _ _).drew
      have EW_0 := EW.trans (hb0.mono EW.size)
      have XB_0 := XB.next hb0
      have RW_0 := RW.below hb0 (Nat.le_refl _)
      have CL_0 := CL.next hb0
      refine wp_region_held_drew (S := fun _ => True) (by kernel_rfl) trivial (fun _ => ?_)
      clear CL EW RW XB
      generalize wr.drew = wq0 at hb0 EW_0 XB_0 RW_0 CL_0 ⊢
      clear hb0
      refine wpAnyH_take (i := 1) (v := .int .i64 (S k)) nat1 (by kernel_rfl) (by kernel_rfl) (by kernel_rfl) (fun _ _ _ h => False.elim h) (Or.inl ⟨by rfl, ?_⟩) trivial ?_
      · intro wx hSw
        go_simp
      simp only [Act.put, List.setIfInBounds_toArray, List.set_cons_zero, List.set_cons_succ]
      refine wpAnyH_ready (rs := [0, 2]) (by kernel_rfl) (by simp) ?_
      refine AllReadyH.cons nat0 (fun K hK => ?_) (AllReadyH.cons nat2 (fun K hK => ?_) AllReadyH.nil)
      · skip
        have yl : wq0.cell? ⟨x, 0, none⟩ = some (.slice (some ⟨r, 0, none⟩) fs.length cp) := XB_0.cell 0
        go_simp
        refine hK.out _ _ trivial (fun _ => ?_)
        clear hK K yl
        refine wpAnyH_ready (rs := [2]) (by kernel_rfl) (by simp) ?_
        refine AllReadyH.cons nat2 (fun K hK => ?_) AllReadyH.nil
        go_simp
        go_at_call 50
        refine ((impl_lookedAt (S k) _)).mono ?_
        rintro e wq2 ⟨⟨gn2, bn2, rfl, hgn2, hGn2, hQn2⟩, hb2⟩
        have hdn2 : ∀ d ∈ fs, d.g ≠ gn2 := fun d hd => by
                have := (CL_0.at' d hd).2.1.lt
                omega
        have hbn2 : w.heap.size ≤ gn2 := by have := EW_0.size; omega
        have EW_2 := EW_0.trans (hb2.mono EW_0.size)
        have XB_2 := XB_0.next hb2
        have RW_2 := RW_0.below hb2 (Nat.le_refl _)
        have CL_2 := CL_0.next hb2
        have GN_2 := hGn2
        have QN_2 := hQn2
        have DN_2 := (⟨hbn2, hdn2⟩ : w.heap.size ≤ gn2 ∧ ∀ d ∈ fs, d.g ≠ gn2)
        refine hK.out _ _ trivial (fun _ => ?_)
        clear hK K hb2 CL_0 EW_0 RW_0 XB_0
        refine wpAnyH_ready (rs := [3]) (by kernel_rfl) (by simp) ?_
        refine AllReadyH.cons nat3 (fun K hK => ?_) AllReadyH.nil
        go_simp
        have hb3 := below_one wq2 (.cells #[Value.func (.func 63) #[] #[.pointer (some ⟨gn2, 0, none⟩), .pointer (some ⟨bn2, 0, none⟩)]] 56)
        have EW_3 := EW_2.trans (hb3.mono EW_2.size)
        have XB_3 := XB_2.next hb3
        have RW_3 := RW_2.below hb3 (Nat.le_refl _)
        have CL_3 := CL_2.next hb3
        have GN_3 := GN_2.next hb3
        have QN_3 := QN_2.next hb3
        have DN_3 := DN_2
        have NB_3 := BoxIs.new wq2 #[Value.func (.func 63) #[] #[.pointer (some ⟨gn2, 0, none⟩), .pointer (some ⟨bn2, 0, none⟩)]] 56 rfl
        refine hK.out _ _ trivial (fun _ => ?_)
        clear hK K CL_2 DN_2 EW_2 GN_2 QN_2 RW_2 XB_2
        obtain ⟨G3, hG3⟩ : ∃ G, G = wq2.heap.size := ⟨_, rfl⟩
        rw [← hG3] at NB_3 ⊢
        generalize wq2.alloc (.cells #[Value.func (.func 63) #[] #[.pointer (some ⟨gn2, 0, none⟩), .pointer (some ⟨bn2, 0, none⟩)]] 56) = wq3 at hb3 EW_3 XB_3 RW_3 CL_3 GN_3 QN_3 DN_3 NB_3 ⊢
        clear hG3 hb3
        refine wpAnyH_ready (rs := [4]) (by kernel_rfl) (by simp) ?_
        refine AllReadyH.cons nat4 (fun K hK => ?_) AllReadyH.nil
        skip
        have hB4 : w.heap.size ≤ wq3.heap.size := EW_3.size
        refine step_append_one rfl (.tmp 14) (.tmp 17) 80 rfl 56 Try.underlying80 hi57 rfl (by decide) w.heap.size (.slice (some ⟨r, 0, none⟩) fs.length cp) (fs.map Cl.f) (by rfl) RW_3 G3 1 (Value.func (.func 63) #[] #[.pointer (some ⟨gn2, 0, none⟩), .pointer (some ⟨bn2, 0, none⟩)]) (by rfl) rfl (NB_3.cell 0) hB4 (by rw [List.length_map]; omega) ?_
        intro v' wq4 h1 h2
        have hgb := RW_3.grownBelow hB4 h2
        have hkg := keep_grown RW_3 h2
        obtain ⟨r4, p4, rfl⟩ := h1.shape (by simp)
        rw [show (fs.map Cl.f ++ [Value.func (.func 63) #[] #[.pointer (some ⟨gn2, 0, none⟩), .pointer (some ⟨bn2, 0, none⟩)]]).length = fs.length + 1 by simp] at h1 ⊢
        have EW_4 := EW_3.trans hgb
        have XB_4 := XB_3.keep hkg (by decide)
        have RW_4 := h1
        have CL_4 := CL_3.keep hkg (by decide) (by decide)
        have GN_4 := GN_3.keep hkg (by decide)
        have QN_4 := QN_3.keep hkg (by decide)
        have DN_4 := DN_3
        refine hK.out _ _ trivial (fun _ => ?_)
        clear hK K CL_3 DN_3 EW_3 GN_3 NB_3 QN_3 RW_3 XB_3
        refine wpAnyH_ready (rs := [5]) (by kernel_rfl) (by simp) ?_
        refine AllReadyH.cons nat5 (fun K hK => ?_) AllReadyH.nil
        skip
        have yl : wq4.cell? ⟨x, 0, none⟩ = some (.slice (some ⟨r, 0, none⟩) fs.length cp) := XB_4.cell 0
        have yf := XB_4.free 0
        go_simp
        have EW_5 := EW_4.setCell (p := ⟨x, 0, none⟩) hxB (.slice (some ⟨r4, 0, none⟩) (fs.length + 1) p4)
        have XB_5 := XB_4.set 0 (.slice (some ⟨r4, 0, none⟩) (fs.length + 1) p4)
        have RW_5 := RW_4.keep (keep_set (o := 0) (v := .slice (some ⟨r4, 0, none⟩) (fs.length + 1) p4) XB_4) (by decide)
        have CL_5 := CL_4.keep (keep_set (o := 0) (v := .slice (some ⟨r4, 0, none⟩) (fs.length + 1) p4) XB_4) (by decide) (by decide)
        have GN_5 := GN_4.keep (keep_set (o := 0) (v := .slice (some ⟨r4, 0, none⟩) (fs.length + 1) p4) XB_4) (by decide)
        have QN_5 := QN_4.keep (keep_set (o := 0) (v := .slice (some ⟨r4, 0, none⟩) (fs.length + 1) p4) XB_4) (by decide)
        have DN_5 := DN_4
        refine hK.out _ _ trivial (fun _ => ?_)
        clear hK K yl yf CL_4 DN_4 EW_4 GN_4 QN_4 RW_4 XB_4
        generalize wq4.setCell ⟨x, 0, none⟩ (.slice (some ⟨r4, 0, none⟩) (fs.length + 1) p4) = wq5 at EW_5 XB_5 RW_5 CL_5 GN_5 QN_5 DN_5 ⊢
        refine wpAnyH_done (by kernel_rfl) ?_ _
        refine NoPanic.normal ?_
        have HN2 : Hid (NdIs wq5 w.heap.size x (fs ++ [(⟨gn2, bn2, ⟨#[]⟩, S k⟩ : Cl)])) := by
          refine ⟨EW_5.size, hxB, ⟨r4, p4, ?_, ?_⟩, CL_5.more DN_5.1 GN_5 QN_5 DN_5.2⟩
          · rw [List.length_append]; exact XB_5
          · rw [List.length_append, List.map_append]; exact RW_5
        have HQ2 : Hid ((fs ++ [(⟨gn2, bn2, ⟨#[]⟩, S k⟩ : Cl)]).map Cl.s = seqsL S (k + 1) ∧ ∀ c ∈ fs ++ [(⟨gn2, bn2, ⟨#[]⟩, S k⟩ : Cl)], c.p = ⟨#[]⟩) := by
          refine ⟨?_, fun c hc => ?_⟩
          · rw [List.map_append, HQ.out.1, seqsL_succ]; rfl
          · rcases List.mem_append.1 hc with h | h
            · exact HQ.out.2 c h
            · obtain rfl := List.mem_singleton.1 h; rfl
        have HW2 := hide EW_5
        clear CL_5 DN_5 EW_5 GN_5 QN_5 RW_5 XB_5 HQ HN
        go_wp2
        exact ⟨⟨k + 1, _, by go_num, by omega, HN2, HQ2, HW2⟩, by simp [intOf]; omega⟩
      · go_simp
        go_at_call 50
        refine ((impl_lookedAt (S k) _)).mono ?_
        rintro e wq6 ⟨⟨gn6, bn6, rfl, hgn6, hGn6, hQn6⟩, hb6⟩
        have hdn6 : ∀ d ∈ fs, d.g ≠ gn6 := fun d hd => by
                have := (CL_0.at' d hd).2.1.lt
                omega
        have hbn6 : w.heap.size ≤ gn6 := by have := EW_0.size; omega
        have EW_6 := EW_0.trans (hb6.mono EW_0.size)
        have XB_6 := XB_0.next hb6
        have RW_6 := RW_0.below hb6 (Nat.le_refl _)
        have CL_6 := CL_0.next hb6
        have GN_6 := hGn6
        have QN_6 := hQn6
        have DN_6 := (⟨hbn6, hdn6⟩ : w.heap.size ≤ gn6 ∧ ∀ d ∈ fs, d.g ≠ gn6)
        refine hK.out _ _ trivial (fun _ => ?_)
        clear hK K hb6 CL_0 EW_0 RW_0 XB_0
        refine wpAnyH_ready (rs := [0, 3]) (by kernel_rfl) (by simp) ?_
        refine AllReadyH.cons nat0 (fun K hK => ?_) (AllReadyH.cons nat3 (fun K hK => ?_) AllReadyH.nil)
        · skip
          have yl : wq6.cell? ⟨x, 0, none⟩ = some (.slice (some ⟨r, 0, none⟩) fs.length cp) := XB_6.cell 0
          go_simp
          refine hK.out _ _ trivial (fun _ => ?_)
          clear hK K yl
          refine wpAnyH_ready (rs := [3]) (by kernel_rfl) (by simp) ?_
          refine AllReadyH.cons nat3 (fun K hK => ?_) AllReadyH.nil
          go_simp
          have hb8 := below_one wq6 (.cells #[Value.func (.func 63) #[] #[.pointer (some ⟨gn6, 0, none⟩), .pointer (some ⟨bn6, 0, none⟩)]] 56)
          have EW_8 := EW_6.trans (hb8.mono EW_6.size)
          have XB_8 := XB_6.next hb8
          have RW_8 := RW_6.below hb8 (Nat.le_refl _)
          have CL_8 := CL_6.next hb8
          have GN_8 := GN_6.next hb8
          have QN_8 := QN_6.next hb8
          have DN_8 := DN_6
          have NB_8 := BoxIs.new wq6 #[Value.func (.func 63) #[] #[.pointer (some ⟨gn6, 0, none⟩), .pointer (some ⟨bn6, 0, none⟩)]] 56 rfl
          refine hK.out _ _ trivial (fun _ => ?_)
          clear hK K CL_6 DN_6 EW_6 GN_6 QN_6 RW_6 XB_6
          obtain ⟨G8, hG8⟩ : ∃ G, G = wq6.heap.size := ⟨_, rfl⟩
          rw [← hG8] at NB_8 ⊢
          generalize wq6.alloc (.cells #[Value.func (.func 63) #[] #[.pointer (some ⟨gn6, 0, none⟩), .pointer (some ⟨bn6, 0, none⟩)]] 56) = wq8 at hb8 EW_8 XB_8 RW_8 CL_8 GN_8 QN_8 DN_8 NB_8 ⊢
          clear hG8 hb8
          refine wpAnyH_ready (rs := [4]) (by kernel_rfl) (by simp) ?_
          refine AllReadyH.cons nat4 (fun K hK => ?_) AllReadyH.nil
          skip
          have hB9 : w.heap.size ≤ wq8.heap.size := EW_8.size
          refine step_append_one rfl (.tmp 14) (.tmp 17) 80 rfl 56 Try.underlying80 hi57 rfl (by decide) w.heap.size (.slice (some ⟨r, 0, none⟩) fs.length cp) (fs.map Cl.f) (by rfl) RW_8 G8 1 (Value.func (.func 63) #[] #[.pointer (some ⟨gn6, 0, none⟩), .pointer (some ⟨bn6, 0, none⟩)]) (by rfl) rfl (NB_8.cell 0) hB9 (by rw [List.length_map]; omega) ?_
          intro v' wq9 h1 h2
          have hgb := RW_8.grownBelow hB9 h2
          have hkg := keep_grown RW_8 h2
          obtain ⟨r9, p9, rfl⟩ := h1.shape (by simp)
          rw [show (fs.map Cl.f ++ [Value.func (.func 63) #[] #[.pointer (some ⟨gn6, 0, none⟩), .pointer (some ⟨bn6, 0, none⟩)]]).length = fs.length + 1 by simp] at h1 ⊢
          have EW_9 := EW_8.trans hgb
          have XB_9 := XB_8.keep hkg (by decide)
          have RW_9 := h1
          have CL_9 := CL_8.keep hkg (by decide) (by decide)
          have GN_9 := GN_8.keep hkg (by decide)
          have QN_9 := QN_8.keep hkg (by decide)
          have DN_9 := DN_8
          refine hK.out _ _ trivial (fun _ => ?_)
          clear hK K CL_8 DN_8 EW_8 GN_8 NB_8 QN_8 RW_8 XB_8
          refine wpAnyH_ready (rs := [5]) (by kernel_rfl) (by simp) ?_
          refine AllReadyH.cons nat5 (fun K hK => ?_) AllReadyH.nil
          skip
          have yl : wq9.cell? ⟨x, 0, none⟩ = some (.slice (some ⟨r, 0, none⟩) fs.length cp) := XB_9.cell 0
          have yf := XB_9.free 0
          go_simp
          have EW_10 := EW_9.setCell (p := ⟨x, 0, none⟩) hxB (.slice (some ⟨r9, 0, none⟩) (fs.length + 1) p9)
          have XB_10 := XB_9.set 0 (.slice (some ⟨r9, 0, none⟩) (fs.length + 1) p9)
          have RW_10 := RW_9.keep (keep_set (o := 0) (v := .slice (some ⟨r9, 0, none⟩) (fs.length + 1) p9) XB_9) (by decide)
          have CL_10 := CL_9.keep (keep_set (o := 0) (v := .slice (some ⟨r9, 0, none⟩) (fs.length + 1) p9) XB_9) (by decide) (by decide)
          have GN_10 := GN_9.keep (keep_set (o := 0) (v := .slice (some ⟨r9, 0, none⟩) (fs.length + 1) p9) XB_9) (by decide)
          have QN_10 := QN_9.keep (keep_set (o := 0) (v := .slice (some ⟨r9, 0, none⟩) (fs.length + 1) p9) XB_9) (by decide)
          have DN_10 := DN_9
          refine hK.out _ _ trivial (fun _ => ?_)
          clear hK K yl yf CL_9 DN_9 EW_9 GN_9 QN_9 RW_9 XB_9
          generalize wq9.setCell ⟨x, 0, none⟩ (.slice (some ⟨r9, 0, none⟩) (fs.length + 1) p9) = wq10 at EW_10 XB_10 RW_10 CL_10 GN_10 QN_10 DN_10 ⊢
          refine wpAnyH_done (by kernel_rfl) ?_ _
          refine NoPanic.normal ?_
          have HN2 : Hid (NdIs wq10 w.heap.size x (fs ++ [(⟨gn6, bn6, ⟨#[]⟩, S k⟩ : Cl)])) := by
            refine ⟨EW_10.size, hxB, ⟨r9, p9, ?_, ?_⟩, CL_10.more DN_10.1 GN_10 QN_10 DN_10.2⟩
            · rw [List.length_append]; exact XB_10
            · rw [List.length_append, List.map_append]; exact RW_10
          have HQ2 : Hid ((fs ++ [(⟨gn6, bn6, ⟨#[]⟩, S k⟩ : Cl)]).map Cl.s = seqsL S (k + 1) ∧ ∀ c ∈ fs ++ [(⟨gn6, bn6, ⟨#[]⟩, S k⟩ : Cl)], c.p = ⟨#[]⟩) := by
            refine ⟨?_, fun c hc => ?_⟩
            · rw [List.map_append, HQ.out.1, seqsL_succ]; rfl
            · rcases List.mem_append.1 hc with h | h
              · exact HQ.out.2 c h
              · obtain rfl := List.mem_singleton.1 h; rfl
          have HW2 := hide EW_10
          clear CL_10 DN_10 EW_10 GN_10 QN_10 RW_10 XB_10 HQ HN
          go_wp2
          exact ⟨⟨k + 1, _, by go_num, by omega, HN2, HQ2, HW2⟩, by simp [intOf]; omega⟩
        · go_simp
          have hb11 := below_one wq6 (.cells #[Value.func (.func 63) #[] #[.pointer (some ⟨gn6, 0, none⟩), .pointer (some ⟨bn6, 0, none⟩)]] 56)
          have EW_11 := EW_6.trans (hb11.mono EW_6.size)
          have XB_11 := XB_6.next hb11
          have RW_11 := RW_6.below hb11 (Nat.le_refl _)
          have CL_11 := CL_6.next hb11
          have GN_11 := GN_6.next hb11
          have QN_11 := QN_6.next hb11
          have DN_11 := DN_6
          have NB_11 := BoxIs.new wq6 #[Value.func (.func 63) #[] #[.pointer (some ⟨gn6, 0, none⟩), .pointer (some ⟨bn6, 0, none⟩)]] 56 rfl
          refine hK.out _ _ trivial (fun _ => ?_)
          clear hK K CL_6 DN_6 EW_6 GN_6 QN_6 RW_6 XB_6
          obtain ⟨G11, hG11⟩ : ∃ G, G = wq6.heap.size := ⟨_, rfl⟩
          rw [← hG11] at NB_11 ⊢
          generalize wq6.alloc (.cells #[Value.func (.func 63) #[] #[.pointer (some ⟨gn6, 0, none⟩), .pointer (some ⟨bn6, 0, none⟩)]] 56) = wq11 at hb11 EW_11 XB_11 RW_11 CL_11 GN_11 QN_11 DN_11 NB_11 ⊢
          clear hG11 hb11
          refine wpAnyH_ready (rs := [0]) (by kernel_rfl) (by simp) ?_
          refine AllReadyH.cons nat0 (fun K hK => ?_) AllReadyH.nil
          skip
          have yl : wq11.cell? ⟨x, 0, none⟩ = some (.slice (some ⟨r, 0, none⟩) fs.length cp) := XB_11.cell 0
          go_simp
          refine hK.out _ _ trivial (fun _ => ?_)
          clear hK K yl
          refine wpAnyH_ready (rs := [4]) (by kernel_rfl) (by simp) ?_
          refine AllReadyH.cons nat4 (fun K hK => ?_) AllReadyH.nil
          skip
          have hB13 : w.heap.size ≤ wq11.heap.size := EW_11.size
          refine step_append_one rfl (.tmp 14) (.tmp 17) 80 rfl 56 Try.underlying80 hi57 rfl (by decide) w.heap.size (.slice (some ⟨r, 0, none⟩) fs.length cp) (fs.map Cl.f) (by rfl) RW_11 G11 1 (Value.func (.func 63) #[] #[.pointer (some ⟨gn6, 0, none⟩), .pointer (some ⟨bn6, 0, none⟩)]) (by rfl) rfl (NB_11.cell 0) hB13 (by rw [List.length_map]; omega) ?_
          intro v' wq13 h1 h2
          have hgb := RW_11.grownBelow hB13 h2
          have hkg := keep_grown RW_11 h2
          obtain ⟨r13, p13, rfl⟩ := h1.shape (by simp)
          rw [show (fs.map Cl.f ++ [Value.func (.func 63) #[] #[.pointer (some ⟨gn6, 0, none⟩), .pointer (some ⟨bn6, 0, none⟩)]]).length = fs.length + 1 by simp] at h1 ⊢
          have EW_13 := EW_11.trans hgb
          have XB_13 := XB_11.keep hkg (by decide)
          have RW_13 := h1
          have CL_13 := CL_11.keep hkg (by decide) (by decide)
          have GN_13 := GN_11.keep hkg (by decide)
          have QN_13 := QN_11.keep hkg (by decide)
          have DN_13 := DN_11
          refine hK.out _ _ trivial (fun _ => ?_)
          clear hK K CL_11 DN_11 EW_11 GN_11 NB_11 QN_11 RW_11 XB_11
          refine wpAnyH_ready (rs := [5]) (by kernel_rfl) (by simp) ?_
          refine AllReadyH.cons nat5 (fun K hK => ?_) AllReadyH.nil
          skip
          have yl : wq13.cell? ⟨x, 0, none⟩ = some (.slice (some ⟨r, 0, none⟩) fs.length cp) := XB_13.cell 0
          have yf := XB_13.free 0
          go_simp
          have EW_14 := EW_13.setCell (p := ⟨x, 0, none⟩) hxB (.slice (some ⟨r13, 0, none⟩) (fs.length + 1) p13)
          have XB_14 := XB_13.set 0 (.slice (some ⟨r13, 0, none⟩) (fs.length + 1) p13)
          have RW_14 := RW_13.keep (keep_set (o := 0) (v := .slice (some ⟨r13, 0, none⟩) (fs.length + 1) p13) XB_13) (by decide)
          have CL_14 := CL_13.keep (keep_set (o := 0) (v := .slice (some ⟨r13, 0, none⟩) (fs.length + 1) p13) XB_13) (by decide) (by decide)
          have GN_14 := GN_13.keep (keep_set (o := 0) (v := .slice (some ⟨r13, 0, none⟩) (fs.length + 1) p13) XB_13) (by decide)
          have QN_14 := QN_13.keep (keep_set (o := 0) (v := .slice (some ⟨r13, 0, none⟩) (fs.length + 1) p13) XB_13) (by decide)
          have DN_14 := DN_13
          refine hK.out _ _ trivial (fun _ => ?_)
          clear hK K yl yf CL_13 DN_13 EW_13 GN_13 QN_13 RW_13 XB_13
          generalize wq13.setCell ⟨x, 0, none⟩ (.slice (some ⟨r13, 0, none⟩) (fs.length + 1) p13) = wq14 at EW_14 XB_14 RW_14 CL_14 GN_14 QN_14 DN_14 ⊢
          refine wpAnyH_done (by kernel_rfl) ?_ _
          refine NoPanic.normal ?_
          have HN2 : Hid (NdIs wq14 w.heap.size x (fs ++ [(⟨gn6, bn6, ⟨#[]⟩, S k⟩ : Cl)])) := by
            refine ⟨EW_14.size, hxB, ⟨r13, p13, ?_, ?_⟩, CL_14.more DN_14.1 GN_14 QN_14 DN_14.2⟩
            · rw [List.length_append]; exact XB_14
            · rw [List.length_append, List.map_append]; exact RW_14
          have HQ2 : Hid ((fs ++ [(⟨gn6, bn6, ⟨#[]⟩, S k⟩ : Cl)]).map Cl.s = seqsL S (k + 1) ∧ ∀ c ∈ fs ++ [(⟨gn6, bn6, ⟨#[]⟩, S k⟩ : Cl)], c.p = ⟨#[]⟩) := by
            refine ⟨?_, fun c hc => ?_⟩
            · rw [List.map_append, HQ.out.1, seqsL_succ]; rfl
            · rcases List.mem_append.1 hc with h | h
              · exact HQ.out.2 c h
              · obtain rfl := List.mem_singleton.1 h; rfl
          have HW2 := hide EW_14
          clear CL_14 DN_14 EW_14 GN_14 QN_14 RW_14 XB_14 HQ HN
          go_wp2
          exact ⟨⟨k + 1, _, by go_num, by omega, HN2, HQ2, HW2⟩, by simp [intOf]; omega⟩
    · obtain rfl : k = len := by omega
      go_wp2
      go_ret
      exact ⟨⟨_, _, rfl, HN.out, HQ.out⟩, HW.out⟩

/-- Is place k needed. -/
def needA (E : Ents) (SL : List Int) (k : Nat) : Bool := SL.any fun s => lkA E s k
/-- The places that are needed, of the first k. -/
def needL (E : Ents) (SL : List Int) : Nat → List Int
  | 0 => []
  | k + 1 => needL E SL k ++ (if needA E SL k = true then [(k : Int)] else [])
def needed (E : Ents) (len : Nat) (S : Nat → Int) (n : Nat) : List Int := if rowOkB E len = true ∧ snapsB S n = true then needL E (seqsL S n) len else []
theorem needL_len (E : Ents) (SL : List Int) : ∀ k, (needL E SL k).length ≤ k
  | 0 => by simp [needL]
  | k + 1 => by
    have := needL_len E SL k
    rw [needL, List.length_append]
    split <;> simp <;> omega
theorem needed_len {E : Ents} {len : Nat} {S : Nat → Int} {n : Nat} : (needed E len S n).length ≤ len := by
  unfold needed; split
  · exact needL_len _ _ _
  · simp
theorem sees_any (E : Ents) (k : Nat) : ∀ fs : List Cl, (∀ c ∈ fs, c.p = lastA E c.s k) → fs.any (Cl.sees (E.U k) (E.Q k)) = needA E (fs.map Cl.s) k
  | [], _ => rfl
  | c :: fs, h => by
    have ih := sees_any E k fs fun d hd => h d (by simp [hd])
    unfold needA at ih ⊢
    simp only [List.any_cons, List.map_cons, ih]
    rw [show Cl.sees (E.U k) (E.Q k) c = lkA E c.s k by unfold Cl.sees lkA; rw [h c (by simp)]]
theorem sees_step {E : Ents} {k : Nat} {fs : List Cl} (h : ∀ c ∈ fs, c.p = lastA E c.s k) : ∀ c ∈ fs.map (Cl.step (E.U k) (E.Q k)), c.p = lastA E c.s (k + 1) := fun c hc => by
  obtain ⟨d, hd, rfl⟩ := List.mem_map.1 hc
  show lkp d.s d.p _ _ = lkp d.s (lastA E d.s k) _ _
  rw [h d hd]
theorem step_s (u : ByteArray) (q : Int) (fs : List Cl) : (fs.map (Cl.step u q)).map Cl.s = fs.map Cl.s := by rw [List.map_map]; rfl
theorem needL_yes {E : Ents} {SL : List Int} {k : Nat} (h : needA E SL k = true) : needL E SL (k + 1) = needL E SL k ++ [(k : Int)] := by rw [needL, if_pos h]
theorem needL_no {E : Ents} {SL : List Int} {k : Nat} (h : needA E SL k = false) : needL E SL (k + 1) = needL E SL k := by rw [needL, if_neg (by rw [h]; decide), List.append_nil]

/-- The closures of neededBy, all below block T. -/
structure NdT (w : World) (B T x : Nat) (fs : List Cl) : Prop where
  hB : B ≤ w.heap.size
  hx : B ≤ x
  hT : x < T
  hTw : T ≤ w.heap.size
  row : ∃ r p, r < T ∧ BoxIs w x #[.slice (some ⟨r, 0, none⟩) fs.length p] 80 ∧ Own w B 56 (.slice (some ⟨r, 0, none⟩) fs.length p) (fs.map Cl.f)
  cls : ClsIs w B fs
  low : ∀ c ∈ fs, c.g < T ∧ c.b < T
theorem NdIs.low {w : World} {B B' x : Nat} {fs : List Cl} (h : NdIs w B x fs) (hB : B' ≤ B) : NdT w B' w.heap.size x fs := by
  obtain ⟨r, p, h1, h2⟩ := h.row
  refine ⟨Nat.le_trans hB h.hB, Nat.le_trans hB h.hx, h1.lt, Nat.le_refl _, ⟨r, p, (World.ownsRow.lt h2 r rfl).2, h1, ?_⟩, ⟨fun c hc => ⟨Nat.le_trans hB (h.cls.at' c hc).1, (h.cls.at' c hc).2⟩, h.cls.dis⟩, fun c hc => ⟨(h.cls.at' c hc).2.1.lt, (h.cls.at' c hc).2.2.lt⟩⟩
  refine ⟨h2.1, ?_⟩
  rcases h2.2 with hn | ⟨g, cap, cur, hv, hg, r'⟩
  · exact .inl hn
  · exact .inr ⟨g, cap, cur, hv, Nat.le_trans hB hg, r'⟩
theorem NdT.nd {w : World} {B T x : Nat} {fs : List Cl} (h : NdT w B T x fs) : NdIs w B x fs := by
  obtain ⟨r, p, _, h1, h2⟩ := h.row
  exact ⟨h.hB, h.hx, ⟨r, p, h1, h2⟩, h.cls⟩
theorem NdT.below {w w' : World} {B T x : Nat} {fs : List Cl} (h : NdT w B T x fs) (hb : Below T w w') : NdT w' B T x fs := by
  obtain ⟨r, p, hr, h1, h2⟩ := h.row
  refine ⟨Nat.le_trans h.hB hb.size, h.hx, h.hT, Nat.le_trans h.hTw hb.size, ⟨r, p, hr, h1.below hb h.hT, h2.1, ?_⟩, ⟨fun c hc => ⟨(h.cls.at' c hc).1, (h.cls.at' c hc).2.1.below hb (h.low c hc).1, (h.cls.at' c hc).2.2.below hb (h.low c hc).2⟩, h.cls.dis⟩, h.low⟩
  rcases h2.2 with hn | ⟨g, cap, cur, hv, hg, hh, r'⟩
  · exact .inl hn
  · have e : r = g := congrArg (fun v => match v with | Value.slice (some a) _ _ => a.block | _ => 0) hv
    exact .inr ⟨g, cap, cur, hv, hg, (hb.block g (e ▸ hr)).trans hh, r'⟩
theorem NdT.next {w w' : World} {B T x : Nat} {fs : List Cl} (h : NdT w B T x fs) (hb : Below w.heap.size w w') : NdT w' B T x fs := h.below (hb.mono h.hTw)
theorem NdT.sm {w w' : World} {B T x : Nat} {fs : List Cl} {u : ByteArray} {q : Int} (h : NdT w B T x fs) (hs : Sm B w w') (hc : ClsIs w' B (fs.map (Cl.step u q))) : NdT w' B T x (fs.map (Cl.step u q)) := by
  obtain ⟨r, p, hr, h1, h2⟩ := h.row
  refine ⟨Nat.le_trans h.hB hs.size, h.hx, h.hT, Nat.le_trans h.hTw hs.size, ⟨r, p, hr, ?_, ?_⟩, hc, fun c hc => ?_⟩
  · rw [List.length_map]; exact h1.sm hs (by decide)
  · rw [cls_step_f, List.length_map]; exact ownsRow_sm h2 hs (by decide)
  · obtain ⟨d, hd, rfl⟩ := List.mem_map.1 hc
    exact h.low d hd
theorem Own.base {w : World} {B B' : Nat} {e : TypeId} {v : Value} {xs : List Value} (h : Own w B e v xs) (hB : B' ≤ B) : Own w B' e v xs := by
  refine ⟨h.1, ?_⟩
  rcases h.2 with hn | ⟨g, cap, cur, hv, hg, r⟩
  · exact .inl hn
  · exact .inr ⟨g, cap, cur, hv, Nat.le_trans hB hg, r⟩

set_option linter.unusedVariables false in
set_option maxHeartbeats 1000000 in
theorem impl_Needed (a : Option Addr) (len cap : Nat) (E : Ents) (b : Option Addr) (n ncap : Nat) (S : Nat → Int) (w : World) (hl : len ≤ 1048576) (hn : n ≤ 1048576) (hS : EntAt w w.heap.size a len E) (hI : IntAt w w.heap.size b n S) :
    Calls Try.prog 15 #[.slice a len cap, .slice b n ncap] w fun e w' => (∃ v, e = .returned v ∧ OwnI w' w.heap.size v (needed E len S n)) ∧ Below w.heap.size w w' := by
  have HS : Hid (EntAt w w.heap.size a len E) := hS
  have HI : Hid (IntAt w w.heap.size b n S) := hI
  cases hok : rowOkB E len with
  | false =>
    have HV : Hid (needed E len S n = []) := by show _ = _; unfold needed; rw [if_neg (by rw [hok]; simp)]
    go_enter Try.func15, Try.ntmps15
    go_wp2_with fail
    refine (hok ▸ impl_EntriesOk a len cap E w hl hS).mono ?_
    rintro e w1 ⟨rfl, hB⟩
    clear hok
    go_wp2
    go_ret
    exact ⟨⟨_, rfl, by rw [HV.out]; exact OwnI.nil _ _⟩, hB⟩
  | true =>
    obtain ⟨h4, hsz⟩ := rowOk_out hok
    clear hsz
    cases sok : snapsB S n with
    | false =>
      have HV : Hid (needed E len S n = []) := by show _ = _; unfold needed; rw [if_neg (by rw [sok]; simp)]
      go_enter Try.func15, Try.ntmps15
      go_wp2_with fail
      refine (hok ▸ impl_EntriesOk a len cap E w hl hS).mono ?_
      rintro e w1 ⟨rfl, hB⟩
      clear hok hS hI
      go_wp2_with fail
      refine (sok ▸ impl_SnapsOk b n ncap S w1 hn (HI.out.next hB)).mono ?_
      rintro e w2 ⟨rfl, hB2⟩
      have HB := hide (hB.trans (hB2.mono hB.size))
      clear hB hB2 sok
      go_wp2
      go_ret
      exact ⟨⟨_, rfl, by rw [HV.out]; exact OwnI.nil _ _⟩, HB.out⟩
    | true =>
      have HV : Hid (needed E len S n = needL E (seqsL S n) len) := by show _ = _; unfold needed; rw [if_pos ⟨hok, sok⟩]
      have hi5 : (Try.prog.info? 2).map (fun i => (i.zero, i.size, i.bytes)) = some (some (.int .i64 0), 1, 8) := by kernel_rfl
      have hn20 := (snapsB_out sok).1
      go_enter Try.func15, Try.ntmps15
      go_wp2_with fail
      refine (hok ▸ impl_EntriesOk a len cap E w hl hS).mono ?_
      rintro e w1 ⟨rfl, hB⟩
      clear hok hS hI
      go_wp2_with fail
      refine (sok ▸ impl_SnapsOk b n ncap S w1 hn (HI.out.next hB)).mono ?_
      rintro e w2 ⟨rfl, hB2⟩
      have hB12 := hB.trans (hB2.mono hB.size)
      clear hB hB2 sok
      go_wp2_with fail
      refine (impl_neededBy b n ncap S w2 hn20 (HI.out.next hB12)).mono ?_
      rintro e w3 ⟨⟨x, fs, rfl, hnd, hq1, hq2⟩, hB3⟩
      obtain ⟨T, hT⟩ : ∃ T, w3.heap.size = T := ⟨_, rfl⟩
      have HN0 : Hid (NdT w3 w.heap.size T x fs) := hT ▸ hnd.low hB12.size
      have HQ0 : Hid (fs.map Cl.s = seqsL S n ∧ ∀ c ∈ fs, c.p = lastA E c.s 0) := ⟨hq1, hq2⟩
      have HW0 := hide (hB12.trans (hB3.mono hB12.size))
      have HO0 : Hid (OwnI w3 T (.slice none 0 0) (needL E (seqsL S n) 0)) := OwnI.nil _ _
      have hwT : w.heap.size ≤ T := by have := HW0.out.size; omega
      clear hnd hq1 hq2 hB12 hB3 hT
      go_wp2
      go_loopw [5, 21] (fun v i wr => ∃ (k : Nat) (fs : List Cl), i = .int .i64 k ∧ k ≤ len ∧ Hid (NdT wr w.heap.size T x fs) ∧ Hid (fs.map Cl.s = seqsL S n ∧ ∀ c ∈ fs, c.p = lastA E c.s k) ∧ Hid (OwnI wr T v (needL E (seqsL S n) k)) ∧ Hid (Below w.heap.size w wr)) (fun _ i _ => len - (intOf i).toNat)
      case atStart => exact ⟨0, _, rfl, by omega, HN0, HQ0, HO0, HW0⟩
      case round =>
        obtain ⟨k, fs, rfl, hk, HN, HQ, HO, HW⟩ := hrel
        clear HN0 HQ0 HO0 HW0
        by_cases hlt : k < len
        · have hki : (k : Int) < (len : Int) := by omega
          obtain ⟨bE, off, rfl, hbE, c0, c1, c2, c3⟩ := (HS.out.below HW.out).at hlt
          have hfl : fs.length ≤ 1000 := by
            have h := congrArg List.length HQ.out.1
            rw [List.length_map, seqsL_len] at h
            omega
          have hwz := HW.out.size
          have hnl := needL_len E (seqsL S n) k
          have hb1 := below_one wr (.cells #[.string (E.U k), .int .i64 (E.Q k), .int .i64 (E.K k), .string (E.X k)] 45)
          have HN1 := hide (HN.out.next hb1)
          have HO1 := hide (HO.out.next hb1)
          have HW1 := hide (HW.out.trans (hb1.mono hwz))
          clear HN HO HW hb1
          go_wp2_with fail
          generalize wr.alloc (.cells #[.string (E.U k), .int .i64 (E.Q k), .int .i64 (E.K k), .string (E.X k)] 45) = W2 at HN1 HO1 HW1 ⊢
          have hc := impl_needs (E.U k) (E.Q k) (E.K k) W2 w.heap.size x fs HN1.out.nd hfl
          have HQ2 : Hid ((fs.map (Cl.step (E.U k) (E.Q k))).map Cl.s = seqsL S n ∧ ∀ c ∈ fs.map (Cl.step (E.U k) (E.Q k)), c.p = lastA E c.s (k + 1)) := ⟨(step_s _ _ _).trans HQ.out.1, sees_step HQ.out.2⟩
          rw [sees_any E k fs HQ.out.2, HQ.out.1] at hc
          clear hfl HQ
          cases hv : needA E (seqsL S n) k with
          | false =>
            rw [hv] at hc
            refine hc.mono ?_
            rintro e w4 ⟨rfl, hs, hnd⟩
            have HN4 := hide (HN1.out.sm hs hnd.cls)
            have HO4 : Hid (OwnI w4 T u5 (needL E (seqsL S n) (k + 1))) := by show OwnI _ _ _ _; rw [needL_no hv]; exact ownsRow_sm HO1.out hs (by decide)
            have HW4 := hide (HW1.out.trans hs.below)
            clear hs hnd HN1 HO1 HW1 hv hc c0 c1 c2 c3
            go_wp2
            exact ⟨⟨k + 1, _, by go_num, by omega, HN4, HQ2, HO4, HW4⟩, by simp [intOf]; omega⟩
          | true =>
            rw [hv] at hc
            refine hc.mono ?_
            rintro e w4 ⟨rfl, hs, hnd⟩
            have HN4 := hide (HN1.out.sm hs hnd.cls)
            have hown : Own w4 T 2 u5 ((needL E (seqsL S n) k).map (Value.int .i64)) := ownsRow_sm HO1.out hs (by decide)
            have HW4 := hide (HW1.out.trans hs.below)
            have hsz4 := HN4.out.hTw
            have HU := hide (needL_yes hv)
            clear hs hnd HN1 HO1 HW1 hv hc c0 c1 c2 c3
            go_wp2_with (first
              | (at_builtin; refine wpList_append_one rfl _ _ 22 rfl 2 Try.underlying22 hi5 rfl (by decide) T _ _ ((needL E (seqsL S n) k).map (Value.int .i64)) (by rfl) (by rfl) hown rfl hsz4 ?c1 ?_))
            case c1 => first | omega | (simp; omega)
            intro v' w6 hown' hb6
            have HN6 := hide (HN4.out.below hb6)
            have HO6 : Hid (OwnI w6 T v' (needL E (seqsL S n) (k + 1))) := by
              rw [HU.out]
              show Own _ _ _ _ _
              rw [List.map_append]
              exact hown'
            have HW6 := hide (HW4.out.trans (hb6.mono hwT))
            clear hown hown' hb6 HN4 HW4
            go_wp2
            exact ⟨⟨k + 1, _, by go_num, by omega, HN6, HQ2, HO6, HW6⟩, by simp [intOf]; omega⟩
        · obtain rfl : k = len := by omega
          have HOv : Hid (OwnI wr w.heap.size u5 (needed E k S n)) := by show OwnI _ _ _ _; rw [HV.out]; exact Own.base HO.out hwT
          go_wp2
          go_ret
          exact ⟨⟨_, rfl, HOv.out⟩, HW.out⟩

end Go.Proofs.Ytapajchnfjjipaa
