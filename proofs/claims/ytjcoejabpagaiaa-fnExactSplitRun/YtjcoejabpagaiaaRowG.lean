/- Rows of one's own beside boxes of one's own: what stays where one of them grows or is written. No program in sight but its table of types. -/
import Derived.Test.YtjcoejabpagaiaaOwn
import Derived.Test.YtjcoejabpagaiaaBox
import Derived.Laws.AppendOwn
namespace Go.Proofs.Ytjcoejabpagaiaa
set_option maxRecDepth 100000
open Go.RowKit

theorem rg_block {w w' : World} {B n size : Nat} {e : TypeId} {v : Value} {xs : List Value} (h : w.ownsRow B e size v n xs) (hb : ∀ g, g < w.heap.size → B ≤ g → v.ownBlock = some g → w'.heap[g]? = w.heap[g]?) : w'.ownsRow B e size v n xs := by
  refine ⟨h.1, ?_⟩
  rcases h.2 with hn | ⟨g, cap, cur, rfl, hg, hh, r⟩
  · exact .inl hn
  · exact .inr ⟨g, cap, cur, rfl, hg, by rw [hb g (Array.getElem?_eq_some_iff.1 hh).1 hg rfl]; exact hh, r⟩
theorem rg_next {w w' : World} {B n size : Nat} {e : TypeId} {v : Value} {xs : List Value} (h : w.ownsRow B e size v n xs) (hb : Below w.heap.size w w') : w'.ownsRow B e size v n xs := rg_block h fun g hg _ _ => hb.block g hg
theorem rg_mv {w w' : World} {B n r size : Nat} {e : TypeId} {v : Value} {xs : List Value} (h : w.ownsRow B e size v n xs) (hm : Mv r w w') (hr : r < B) : w'.ownsRow B e size v n xs := rg_block h fun g hg hB _ => hm.block g hg (by omega)
theorem rg_base {w : World} {B B' n size : Nat} {e : TypeId} {v : Value} {xs : List Value} (h : w.ownsRow B e size v n xs) (hB : B' ≤ B) : w.ownsRow B' e size v n xs := by
  refine ⟨h.1, ?_⟩
  rcases h.2 with hn | ⟨g, cap, cur, hv, hg, r⟩
  · exact .inl hn
  · exact .inr ⟨g, cap, cur, hv, Nat.le_trans hB hg, r⟩
/-- The block of a row is of the row's type. -/
theorem rg_type {w : World} {B n size g : Nat} {e : TypeId} {v : Value} {xs : List Value} (h : w.ownsRow B e size v n xs) (hg : v.ownBlock = some g) : ∃ cur, w.heap[g]? = some (.cells cur e) := by
  rcases h.2 with ⟨rfl, _⟩ | ⟨g', cap, cur, rfl, _, hh, _⟩
  · simp [Value.ownBlock] at hg
  · have : g' = g := by simpa [Value.ownBlock] using hg
    subst this
    exact ⟨cur, hh⟩
theorem rg_far {w : World} {B n size g : Nat} {e t : TypeId} {v : Value} {xs : List Value} {cs : Array Value} (h : w.ownsRow B e size v n xs) (hb : BoxIs w g cs t) (ht : e ≠ t) : some g ≠ v.ownBlock := by
  intro hg
  obtain ⟨cur, hc⟩ := rg_type h hg.symm
  have h2 : w.heap[g]? = some (.cells cs t) := hb
  rw [hc] at h2
  injection h2 with h2
  injection h2 with _ h2
  exact ht h2
/-- A row grows: a box of another type stays. -/
theorem rg_box {w w' : World} {B n size F : Nat} {e t : TypeId} {v : Value} {xs : List Value} {cs : Array Value} (h : w.ownsRow B e size v n xs) (hg : w.grownBy w' v.ownBlock) (hb : BoxIs w F cs t) (ht : e ≠ t) : BoxIs w' F cs t :=
  (hg.block F hb.lt (rg_far h hb ht)).trans hb
/-- .. and a row of another type. -/
theorem rg_row {w w' : World} {B B' n n' size size' : Nat} {e e' : TypeId} {v v' : Value} {xs xs' : List Value} (h : w.ownsRow B e size v n xs) (hg : w.grownBy w' v.ownBlock) (h' : w.ownsRow B' e' size' v' n' xs') (ht : e ≠ e') : w'.ownsRow B' e' size' v' n' xs' :=
  rg_block h' fun g hl _ hv => by
    obtain ⟨cur, hc⟩ := rg_type h' hv
    exact hg.block g hl (rg_far h (show BoxIs w g cur e' from hc) ht)
/-- A cell of a box is written: a row of another type stays. -/
theorem rg_set {w : World} {B n size F o : Nat} {e t : TypeId} {v : Value} {xs : List Value} {cs : Array Value} (h : w.ownsRow B e size v n xs) (hb : BoxIs w F cs t) (ht : e ≠ t) (x : Value) : (w.setCell ⟨F, o, none⟩ x).ownsRow B e size v n xs :=
  rg_block h fun g _ _ hv => Below.heap_setCell _ _ _ _ (by
    intro hF
    have hF2 : g = F := hF
    subst hF2
    exact rg_far h hb ht hv.symm)
theorem rg_low {w w' : World} {B n size : Nat} {e : TypeId} {v : Value} {xs : List Value} (h : w.ownsRow B e size v n xs) (hB : B ≤ w.heap.size) (hg : w.grownBy w' v.ownBlock) : Below B w w' :=
  (Below.refl B w).grown hg hB fun k hk => (World.ownsRow.lt h k hk).1
theorem rg_some {w : World} {B n size : Nat} {e : TypeId} {v : Value} {xs : List Value} (h : w.ownsRow B e size v n xs) (hn : n ≠ 0) : ∃ g cap, v = .slice (some ⟨g, 0, none⟩) n cap := by
  rcases h.2 with ⟨rfl, h0⟩ | ⟨g, cap, cur, rfl, r⟩
  · exact absurd h0 hn
  · exact ⟨g, cap, rfl⟩
theorem rg_shape {w : World} {B n size : Nat} {e : TypeId} {v : Value} {xs : List Value} (h : w.ownsRow B e size v n xs) : ∃ a cap, v = .slice a n cap := by
  rcases h.2 with ⟨rfl, h0⟩ | ⟨g, cap, cur, rfl, r⟩
  · exact ⟨_, _, by rw [h0]⟩
  · exact ⟨_, _, rfl⟩

/-- AT A STEP OF A REGION: 'append(v, u...)' to a row of one's own. -/
theorem step_append_row {P : Program} {w : World} {ops : Array Oper} {o : Oper} {a : Act} {K : Act → World → Prop} {Q : Exit → Act → World → Prop} {C : Prop} (hgd : o.guard = none) (s x : Operand) (t : TypeId)
    (ho : o.op = .call { callee := .builtin .append, args := #[s, x], argTypes := #[t, t] }) (e : TypeId) (ht : P.underlying t = some (.slice e)) {z : Value} (size bytes : Nat) (hi : (P.info? e).map (fun i => (i.zero, i.size, i.bytes)) = some (some z, size, bytes)) (hz1 : z.cells.size = size) (hsz : 0 < size) (hby : bytes ≤ 1024)
    (B : Nat) (v : Value) (n : Nat) (xs : List Value) (hs : a.eval s = v) (hown : w.ownsRow B e size v n xs) (ad : Addr) (m c : Nat) (us : List Value) (hx : a.eval x = .slice (some ad) m c) (hm : us.length = m * size)
    (hu : ∀ y ∈ us, y.oneCell' = true) (hc : ∀ j y, us[j]? = some y → w.cell? (ad.add j) = some y) (hB : B ≤ w.heap.size) (hlen : n + m ≤ 1000000)
    (h : ∀ v' w', w'.ownsRow B e size v' (n + m) (xs ++ us) → w.grownBy w' v.ownBlock → K (a.put o.dst v') w') :
    if Region.wanted o (yielded ops a.tmps) = true then Oper.wp P o a w K Q else C := by
  have hw : Region.wanted o (yielded ops a.tmps) = true := by simp [Region.wanted, hgd]
  rw [if_pos hw]
  obtain ⟨i0, hi', hz0, hs0, hb0⟩ := info_parts hi
  obtain ⟨v', w', hr, h2, h3, _⟩ := run_append_own (P := P) (w := w) B t o.type e i0 _ size bytes ht hi' hz0 hs0 hb0 hz1 hsz v n xs hown ad m c us hm hc hu (by unfold maxLen; omega) (by have : (n + m) * bytes ≤ 100000000 * 1024 := Nat.mul_le_mul (by omega) hby; omega) hB
  unfold Oper.wp execOp
  simp only [ho, resolve, invoke, builtin, Sem.run_bind, Sem.run_pure, Result.andThen_ok, List.map_toArray, List.map_cons, List.map_nil, hs, hx, hr]
  exact h v' w' h2 h3

/-- In a region in order: the same. -/
theorem wpList_append_row {P : Program} {w : World} {ops : Array Oper} {rest : List Oper} {o : Oper} {a : Act} {Q : Exit → Act → World → Prop} (hgd : o.guard = none) (s x : Operand) (t : TypeId)
    (ho : o.op = .call { callee := .builtin .append, args := #[s, x], argTypes := #[t, t] }) (e : TypeId) (ht : P.underlying t = some (.slice e)) {z : Value} (size bytes : Nat) (hi : (P.info? e).map (fun i => (i.zero, i.size, i.bytes)) = some (some z, size, bytes)) (hz1 : z.cells.size = size) (hsz : 0 < size) (hby : bytes ≤ 1024)
    (B : Nat) (v : Value) (n : Nat) (xs : List Value) (hs : a.eval s = v) (hown : w.ownsRow B e size v n xs) (ad : Addr) (m c : Nat) (us : List Value) (hx : a.eval x = .slice (some ad) m c) (hm : us.length = m * size)
    (hu : ∀ y ∈ us, y.oneCell' = true) (hc : ∀ j y, us[j]? = some y → w.cell? (ad.add j) = some y) (hB : B ≤ w.heap.size) (hlen : n + m ≤ 1000000)
    (h : ∀ v' w', w'.ownsRow B e size v' (n + m) (xs ++ us) → w.grownBy w' v.ownBlock → wpList P ops Q rest (a.put o.dst v') w') : wpList P ops Q (o :: rest) a w := by
  obtain ⟨i0, hi', hz0, hs0, hb0⟩ := info_parts hi
  exact wpList_append_own w hgd s x t ho B e i0 _ size bytes ht hi' hz0 hs0 hb0 hz1 hsz v n xs hs hown ad m c us hx hm hc hu (by unfold maxLen; omega) (by have : (n + m) * bytes ≤ 100000000 * 1024 := Nat.mul_le_mul (by omega) hby; omega) hB fun v' w' h1 h2 _ => h v' w' h1 h2

/-- The cells of a box as what is appended. -/
theorem rg_news {w : World} {g : Nat} {t : TypeId} {us : List Value} (h : BoxIs w g us.toArray t) : ∀ j y, us[j]? = some y → w.cell? ((⟨g, 0, none⟩ : Addr).add j) = some y := fun j y hy => by
  rw [Addr.add_lit]
  show w.cell? ⟨g, 0 + j, none⟩ = some y
  rw [Nat.zero_add, h.cell j]
  simpa using hy

end Go.Proofs.Ytjcoejabpagaiaa
