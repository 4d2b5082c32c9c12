/- The closure of staying. -/
import Derived.Test.YtapajchnfjjipaaLook
namespace Go.Proofs.Ytapajchnfjjipaa
set_option maxRecDepth 100000
open Go.RowKit Go.Deep

/-- Does a key of user u and kind k stay, when the last one that stayed was of user p. -/
def st (bottom : Bool) (p u : ByteArray) (k : Int) : Bool := !(bottom && decide (k = 0) && decide (u ≠ p))
def stp (bottom : Bool) (p u : ByteArray) (k : Int) : ByteArray := if st bottom p u k = true then u else p
theorem st_not (p u : ByteArray) (k : Int) : st false p u k = true := rfl
theorem st_kind {b : Bool} {p u : ByteArray} {k : Int} (h : ¬ k = 0) : st b p u k = true := by unfold st; rw [decide_eq_false h]; cases b <;> rfl
theorem st_same {b : Bool} {p u : ByteArray} {k : Int} (h : u = p) : st b p u k = true := by unfold st; subst h; simp
theorem st_no {p u : ByteArray} {k : Int} (h : k = 0) (h2 : u ≠ p) : st true p u k = false := by unfold st; rw [decide_eq_true h, decide_eq_true h2]; rfl
abbrev stayF (bb g : Nat) : Value := .func (.func 58) #[] #[.pointer (some ⟨bb, 0, none⟩), .pointer (some ⟨g, 0, none⟩)]

set_option maxHeartbeats 400000 in
theorem impl_stay (bottom : Bool) (p u : ByteArray) (q k : Int) (w : World) (B g bb : Nat) (hB : B ≤ g) (hBw : B ≤ w.heap.size) (hg : BoxIs w g #[.string p] 9) (hb : BoxIs w bb #[.bool bottom] 4) :
    Calls Try.prog 58 #[.agg #[.string u, .int .i64 q, .int .i64 k], .pointer (some ⟨bb, 0, none⟩), .pointer (some ⟨g, 0, none⟩)] w fun e w' =>
      e = .returned (.bool (st bottom p u k)) ∧ Sm B w w' ∧ Mv g w w' ∧ BoxIs w' g #[.string (stp bottom p u k)] 9 := by
  have hb1 := below_one w (.cells #[.string u, .int .i64 q, .int .i64 k] 43)
  have hg1 := hg.next hb1
  have hb2 := hb.next hb1
  have HS1 := hide (Sm.of_below (B := B) hb1 hBw)
  have HM1 := hide (Mv.of_below (g := g) hb1)
  have HG1 := hg1.hid
  have c0 : (w.alloc (.cells #[.string u, .int .i64 q, .int .i64 k] 43)).cell? ⟨g, 0, none⟩ = some (.string p) := hg1.cell 0
  have c1 : (w.alloc (.cells #[.string u, .int .i64 q, .int .i64 k] 43)).cell? ⟨bb, 0, none⟩ = some (.bool bottom) := hb2.cell 0
  have f0 := hg1.free 0
  have hgl := hg.lt
  have hbl := hb.lt
  have hgn : g ≠ w.heap.size := by omega
  have hbn : bb ≠ w.heap.size := by omega
  have HG0 := hg.hid
  have hz : (w.setCell ⟨g, 0, none⟩ (.string u)).heap.size = w.heap.size := by simp [World.setCell]
  have hb3 := below_one (w.setCell ⟨g, 0, none⟩ (.string u)) (.cells #[.string u, .int .i64 q, .int .i64 k] 43)
  have HS2 := hide ((Sm.set HG0.out hB 0 (.string u)).trans (Sm.of_below (B := B) hb3 (by omega)))
  have HM2 := hide (((Mv.refl g w).setCell (o := 0) (.string u)).trans (Mv.of_below hb3))
  have HG2 : Hid (BoxIs ((w.setCell ⟨g, 0, none⟩ (.string u)).alloc (.cells #[.string u, .int .i64 q, .int .i64 k] 43)) g #[.string u] 9) := (HG0.out.set 0 (.string u)).next hb3
  clear hz hb3 hb1 hg1 hb2 hg hb HG0
  cases bottom with
  | false =>
    have HV : Hid (st false p u k = true) := rfl
    have HP : Hid (stp false p u k = u) := rfl
    clear HS1 HM1 HG1
    go_enter Try.func58, Try.ntmps58
    go_wp2
    go_ret
    exact ⟨ret_boolE HV.out.symm, HS2.out, HM2.out, by rw [HP.out]; exact HG2.out⟩
  | true =>
    by_cases hk : k = 0
    · have hk1 : (k == 0) = true := by simp [hk]
      have HK := hide hk
      clear hk
      by_cases hu : u = p
      · have hu1 : (u.toList == p.toList) = true := by simp [hu]
        have hu2 : u.toList = p.toList := by rw [hu]
        have HV : Hid (st true p u k = true) := st_same hu
        have HP : Hid (stp true p u k = u) := by show _ = _; unfold stp; rw [HV.out]; rfl
        clear HS1 HM1 HG1 hu
        go_enter Try.func58, Try.ntmps58
        go_wp2
        go_ret
        exact ⟨ret_boolE HV.out.symm, HS2.out, HM2.out, by rw [HP.out]; exact HG2.out⟩
      · have hu2 := toList_neL hu
        have hu1 : (u.toList == p.toList) = false := by simpa using hu2
        have HV : Hid (st true p u k = false) := st_no HK.out hu
        have HP : Hid (stp true p u k = p) := by show _ = _; unfold stp; rw [HV.out]; rfl
        clear HS2 HM2 HG2 hu
        go_enter Try.func58, Try.ntmps58
        go_wp2
        go_ret
        exact ⟨ret_boolE HV.out.symm, HS1.out, HM1.out, by rw [HP.out]; exact HG1.out⟩
    · have hk1 : (k == 0) = false := by simp [hk]
      have HV : Hid (st true p u k = true) := st_kind hk
      have HP : Hid (stp true p u k = u) := by show _ = _; unfold stp; rw [HV.out]; rfl
      clear HS1 HM1 HG1
      go_enter Try.func58, Try.ntmps58
      go_wp2
      go_ret
      exact ⟨ret_boolE HV.out.symm, HS2.out, HM2.out, by rw [HP.out]; exact HG2.out⟩

/-- staying: a closure with two blocks of its own. -/
theorem impl_staying (bottom : Bool) (w : World) :
    Calls Try.prog 40 #[.bool bottom] w fun e w' => (∃ bb g, e = .returned (stayF bb g) ∧ w.heap.size ≤ g ∧ BoxIs w' g #[.string ⟨#[]⟩] 9 ∧ BoxIs w' bb #[.bool bottom] 4) ∧ Below w.heap.size w w' := by
  have hmf : ∀ (fn : Fn) (first cap : Array Value) (w : World), (Instr.makeFunc fn first cap).run Try.prog w = .ok (.func fn first cap) w := fun _ _ _ _ => rfl
  have hb1 := below_one w (.cells #[.bool bottom] 4)
  have HX := (BoxIs.new w #[.bool bottom] 4 rfl).hid
  have hb2 := below_one (w.alloc (.cells #[.bool bottom] 4)) (.cells #[.string ⟨#[]⟩] 9)
  have HY := (BoxIs.new (w.alloc (.cells #[.bool bottom] 4)) #[.string ⟨#[]⟩] 9 (g := w.heap.size + 1) (by simp)).hid
  have HX2 := (HX.out.next hb2).hid
  have HB := hide (hb1.trans (hb2.mono hb1.size))
  clear hb1 hb2 HX
  go_enter Try.func40, Try.ntmps40
  go_wp2
  go_ret
  exact ⟨⟨_, _, rfl, by simp, HY.out, HX2.out⟩, HB.out⟩

end Go.Proofs.Ytapajchnfjjipaa
