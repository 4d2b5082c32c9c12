/- Rows that a call makes itself: appending one cell, turning bytes into a text. No program in sight. -/
import Derived.Test.YtjcoejabpagaiaaBase
import Derived.OwnWalk
import Derived.WalkSmall
import Derived.Laws.AppendOwn
namespace Go.Proofs.Ytjcoejabpagaiaa
set_option maxRecDepth 100000
open Go.RowKit

/-- v is a slice of one-cell elements xs, in memory that was laid from block B on. -/
def Own (w : World) (B : Nat) (e : TypeId) (v : Value) (xs : List Value) : Prop := w.ownsRow B e 1 v xs.length xs

theorem Own.nil (w : World) (B : Nat) (e : TypeId) : Own w B e (.slice none 0 0) [] := World.ownsRow_nil _ _ _ _

/-- A literal that was just laid. -/
theorem Own.lit (w : World) (B : Nat) (e : TypeId) (xs : List Value) (n : Nat) (hn : xs.length = n) (hB : B ≤ w.heap.size) (hl : n ≤ maxLen) : Own (w.alloc (.cells xs.toArray e)) B e (.slice (some ⟨w.heap.size, 0, none⟩) n n) xs := by
  subst hn
  refine ⟨by simp, .inr ⟨w.heap.size, xs.length, xs.toArray, rfl, hB, heap_alloc_new w _, Nat.le_refl _, hl, by simp, by simp⟩⟩

theorem Own.alloc {w : World} {B : Nat} {e : TypeId} {v : Value} {xs : List Value} (h : Own w B e v xs) (o : Obj) : Own (w.alloc o) B e v xs := World.ownsRow.alloc h o

theorem Own.drewN {w : World} {B : Nat} {e : TypeId} {v : Value} {xs : List Value} (h : Own w B e v xs) (n : Nat) : Own (w.drewN n) B e v xs := h

/-- What happens to blocks that the row isn't in leaves it. -/
theorem Own.below {w w' : World} {B B' : Nat} {e : TypeId} {v : Value} {xs : List Value} (h : Own w B e v xs) (hb : Below B' w w') (hB : w.heap.size ≤ B') : Own w' B e v xs := by
  refine ⟨h.1, ?_⟩
  rcases h.2 with hn | ⟨g, cap, cur, rfl, hg, hh, r⟩
  · exact .inl hn
  · refine .inr ⟨g, cap, cur, rfl, hg, ?_, r⟩
    rw [hb.block g (Nat.lt_of_lt_of_le (Array.getElem?_eq_some_iff.1 hh).1 hB)]
    exact hh

/-- 'append(v, u)', u one cell that was just laid. -/
theorem wpList_append_one {P : Program} {w : World} {ops : Array Oper} {rest : List Oper} {o : Oper} {a : Act} {Q : Exit → Act → World → Prop} (hgd : o.guard = none) (s x : Operand) (t : TypeId)
    (ho : o.op = .call { callee := .builtin .append, args := #[s, x], argTypes := #[t, t] })
    (e : TypeId) (ht : P.underlying t = some (.slice e)) {z : Value} {bytes : Nat} (hi : (P.info? e).map (fun i => (i.zero, i.size, i.bytes)) = some (some z, 1, bytes)) (hz1 : z.cells.size = 1) (hby : bytes ≤ 1024)
    (B : Nat) (v u : Value) (xs : List Value) (hs : a.eval s = v) (hx : a.eval x = .slice (some ⟨w.heap.size, 0, none⟩) 1 1) (hown : Own w B e v xs) (hu : u.oneCell' = true)
    (hB : B ≤ w.heap.size) (hlen : xs.length < 100000000)
    (h : ∀ v' w', Own w' B e v' (xs ++ [u]) → Below B w w' → wpList P ops Q rest (a.put o.dst v') w') : wpList P ops Q (o :: rest) a (w.alloc (.cells #[u] e)) := by
  obtain ⟨i0, hi', hz0, hs0, hb0⟩ := info_parts hi
  refine wpList_append_own (w.alloc (.cells #[u] e)) hgd s x t ho B e i0 z 1 bytes ht hi' hz0 hs0 hb0 hz1 (by decide) v xs.length xs hs (Own.alloc hown _) ⟨w.heap.size, 0, none⟩ 1 1 [u] hx rfl ?_ ?_ (by unfold maxLen; omega) ?_ (by simp; omega) ?_
  · intro j y hy
    match j, hy with
    | 0, hy => simp at hy; subst hy; simp [Addr.add]
  · intro y hy; simp at hy; subst hy; exact hu
  · have : (xs.length + 1) * bytes ≤ 100000000 * 1024 := Nat.mul_le_mul (by omega) hby
    omega
  · intro v' w' h1 h2 _
    refine h v' w' (by simpa [Own] using h1) (((Below.refl _ _).alloc hB _).grown h2 (by simp; omega) fun k hk => (World.ownsRow.lt hown k hk).1)

/-- 'append(v, u)', u one cell that lies anywhere. -/
theorem wpList_append_cell {P : Program} {w : World} {ops : Array Oper} {rest : List Oper} {o : Oper} {a : Act} {Q : Exit → Act → World → Prop} (hgd : o.guard = none) (s x : Operand) (t : TypeId)
    (ho : o.op = .call { callee := .builtin .append, args := #[s, x], argTypes := #[t, t] })
    (e : TypeId) (ht : P.underlying t = some (.slice e)) {z : Value} {bytes : Nat} (hi : (P.info? e).map (fun i => (i.zero, i.size, i.bytes)) = some (some z, 1, bytes)) (hz1 : z.cells.size = 1) (hby : bytes ≤ 1024)
    (B : Nat) (v u : Value) (xs : List Value) (hs : a.eval s = v) (ad : Addr) (hx : a.eval x = .slice (some ad) 1 1) (hc : w.cell? ad = some u) (hown : Own w B e v xs) (hu : u.oneCell' = true)
    (hB : B ≤ w.heap.size) (hlen : xs.length < 100000000)
    (h : ∀ v' w', Own w' B e v' (xs ++ [u]) → Below B w w' → wpList P ops Q rest (a.put o.dst v') w') : wpList P ops Q (o :: rest) a w := by
  obtain ⟨i0, hi', hz0, hs0, hb0⟩ := info_parts hi
  refine wpList_append_own w hgd s x t ho B e i0 z 1 bytes ht hi' hz0 hs0 hb0 hz1 (by decide) v xs.length xs hs hown ad 1 1 [u] hx rfl ?_ ?_ (by unfold maxLen; omega) ?_ hB ?_
  · intro j y hy
    match j, hy with
    | 0, hy => simp at hy; subst hy; simpa [Addr.add] using hc
  · intro y hy; simp at hy; subst hy; exact hu
  · have : (xs.length + 1) * bytes ≤ 100000000 * 1024 := Nat.mul_le_mul (by omega) hby
    omega
  · intro v' w' h1 h2 _
    exact h v' w' (by simpa [Own] using h1) ((Below.refl _ _).grown h2 hB fun k hk => (World.ownsRow.lt hown k hk).1)

/-- 'string(v)' of bytes of one's own. -/
theorem conv_own {P : Program} (src e dst : TypeId) (hs : P.underlying src = some (.slice e)) (he : P.underlying e = some (.int .u8)) (hd : P.underlying dst = some .string) (w : World) (B : Nat) (v : Value) (xs : List Int) (hown : Own w B e v (xs.map (Value.int .u8))) :
    (convert src dst v).run P w = .ok (.string (strOfNums xs)) w := by
  rcases hown.2 with ⟨rfl, h0⟩ | ⟨g, cap, cur, rfl, hg, hh, hle, hcap, hsz, htake⟩
  · have : xs = [] := by simpa using h0
    subst this
    rw [run_convert_bytes_nil w src e hs he 0 0 dst hd]
    rfl
  · have hl : (xs.map (Value.int .u8)).length = xs.length := by simp
    refine run_convert_bytes_arg (P := P) w src e hs he g 0 _ cap xs hl.symm (fun i hi => ?_) dst hd
    have hc := World.ownsRow.cells hown (g := g) rfl i (.int .u8 (xs.getD i 0)) (by
      rw [List.getElem?_map, List.getD]
      have : i < xs.length := by omega
      simp [List.getElem?_eq_getElem this])
    have e : (⟨g, 0, none⟩ : Addr).add i = ⟨g, 0 + i, none⟩ := by unfold Addr.add; split <;> simp_all
    rw [e] at hc
    exact hc

end Go.Proofs.Ytjcoejabpagaiaa
