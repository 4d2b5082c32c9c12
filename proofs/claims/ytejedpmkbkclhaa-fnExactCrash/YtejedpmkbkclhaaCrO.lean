/- Crash of both sides, as the law on it asks. -/
import Derived.Test.YtejedpmkbkclhaaCrQ
import Derived.Test.YtejedpmkbkclhaaSyO
namespace Go.Proofs.Ytejedpmkbkclhaa
set_option maxRecDepth 100000
open Go.RowKit Go.Deep

theorem Mine3.mv {w w' : World} {B x : Nat} {a0 : Option Addr} {p0 : Nat} {a1 : Option Addr} {p1 : Nat} {a2 : Option Addr} {p2 : Nat} {c : DiskC} (h : Mine3 w B a0 p0 a1 p1 a2 p2 c) (hm : Mv x w w') (hx : x < B) : Mine3 w' B a0 p0 a1 p1 a2 p2 c := ⟨h.m0.mv hm hx, h.m1.mv hm hx, h.m2.mv hm hx, h.ap⟩
def crC (c : DiskC) (K : Nat → Int) (n : Nat) (t : Int) : DiskC := dc (crL c K n t) (crL c K n t) []
theorem crL_fit (c : DiskC) (K : Nat → Int) (n : Nat) (t : Int) : fitL (crL c K n t) := by
  cases h : crB c K n t with
  | false => unfold crL; rw [h]; exact fitL_nil
  | true =>
    have e : crL c K n t = crS (filesL c.r1 c.n1) c.r2 K n t n := by unfold crL; rw [h]; rfl
    unfold crB at h
    simp only [Bool.and_eq_true, decide_eq_true_eq] at h
    obtain ⟨⟨⟨hd, hu⟩, ht⟩, hfi⟩ := h
    obtain ⟨_, hl1, h200⟩ := dB_parts hd
    have hse := dB_see hd
    have hcr : ∀ k, k ≤ n → CrF (crS (filesL c.r1 c.n1) c.r2 K n t k) k := by
      intro k
      induction k with
      | zero => intro _; exact CrF.start hl1
      | succ k ih =>
        intro hk
        obtain ⟨h0, h1⟩ := ups_at hu (show k < n by omega)
        obtain ⟨h2, h3⟩ := opC_ok hse (K := K) (n := n) t (k := k) h0 (by omega)
        exact (ih (by omega)).step h2 h3
    have hc := hcr n (Nat.le_refl _)
    obtain ⟨h1, h2⟩ := fits_sizes hfi
    rw [e]
    refine ⟨by omega, fun x hx => ⟨?_, ?_⟩⟩
    · have := nameB_size (hc.nm x hx); omega
    · have := sizeF_mem hx; omega
theorem crC_fit {c : DiskC} (_hf : c.Fit) (K : Nat → Int) (n : Nat) (t : Int) : (crC c K n t).Fit := dc_fit (crL_fit c K n t) (crL_fit c K n t) fitQ_nil
theorem spec_CrashO (v : Value) (c : DiskC) (ka : Option Addr) (n kc : Nat) (K : Nat → Int) (t : Int) (w : World) (hf : c.Fit) (ht : (Lit.int .i64 t).wf = true) (hv : DiskIs w v c) (hn : n ≤ 1048576) (hK : IntAt w w.heap.size ka n K) :
    Calls Try.prog 25 #[v, .slice ka n kc, .int .i64 t] w fun e w' => (∃ u, e = .returned (.tuple #[u, .bool (crB c K n t)]) ∧ DiskOwn w' w.heap.size u (crC c K n t)) ∧ Below w.heap.size w w' :=
  (spec_Crash v c ka n kc K t w hf (by simp [Lit.wf, IntKind.min, IntKind.max, IntKind.signed, IntKind.bits] at ht; omega) hv hn hK).mono (by rintro e w' ⟨⟨u, hu, ho⟩, hb⟩; exact ⟨⟨u, hu, ho.own⟩, hb⟩)
theorem impl_CrashO (v : Value) (c : DiskC) (ka : Option Addr) (n kc : Nat) (K : Nat → Int) (t : Int) (w : World) (hf : c.Fit) (ht : (Lit.int .i64 t).wf = true) (hv : DiskIs w v c) (hn : n ≤ 1048576) (hK : IntAt w w.heap.size ka n K) :
    Calls Try.prog 27 #[v, .slice ka n kc, .int .i64 t] w fun e w' => (∃ u, e = .returned (.tuple #[u, .bool (crB c K n t)]) ∧ DiskOwn w' w.heap.size u (crC c K n t)) ∧ Below w.heap.size w w' :=
  (impl_Crash v c ka n kc K t w hf (by simp [Lit.wf, IntKind.min, IntKind.max, IntKind.signed, IntKind.bits] at ht; omega) hv hn hK).mono (by rintro e w' ⟨⟨u, hu, ho⟩, hb⟩; exact ⟨⟨u, hu, ho.own⟩, hb⟩)

end Go.Proofs.Ytejedpmkbkclhaa
