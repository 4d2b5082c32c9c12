/- Rows of entries of one's own: appending some. -/
import Derived.Test.YtjcoejabpagaiaaDrawE2
import Derived.Test.YtjcoejabpagaiaaEnts
namespace Go.Proofs.Ytjcoejabpagaiaa
set_option maxRecDepth 100000
open Go.RowKit Go.Deep

structure En where
  u : ByteArray
  q : Int
  k : Int
  x : ByteArray

def cellsE : List En → List Value
  | [] => []
  | e :: es => .string e.u :: .int .i64 e.q :: .int .i64 e.k :: .string e.x :: cellsE es

theorem cellsE_append : ∀ a b : List En, cellsE (a ++ b) = cellsE a ++ cellsE b
  | [], _ => rfl
  | e :: es, b => by simp [cellsE, cellsE_append es b]
theorem cellsE_len : ∀ es : List En, (cellsE es).length = es.length * 4
  | [] => rfl
  | e :: es => by simp [cellsE, cellsE_len es]; omega
theorem cellsE_one : ∀ (es : List En) (v : Value), v ∈ cellsE es → v.oneCell' = true
  | [], _, h => by simp [cellsE] at h
  | e :: es, v, h => by
    simp only [cellsE, List.mem_cons] at h
    rcases h with rfl | rfl | rfl | rfl | h
    · rfl
    · rfl
    · rfl
    · rfl
    · exact cellsE_one es v h
theorem cellsE_get : ∀ (es : List En) (i : Nat) (e : En), es[i]? = some e → (cellsE es)[i * 4]? = some (.string e.u) ∧ (cellsE es)[i * 4 + 1]? = some (.int .i64 e.q) ∧ (cellsE es)[i * 4 + 2]? = some (.int .i64 e.k) ∧ (cellsE es)[i * 4 + 3]? = some (.string e.x)
  | [], _, _, h => by simp at h
  | a :: es, 0, e, h => by
    obtain rfl : a = e := by simpa using h
    exact ⟨rfl, rfl, rfl, rfl⟩
  | a :: es, i + 1, e, h => by
    have := cellsE_get es i e (by simpa using h)
    have h0 : (i + 1) * 4 = i * 4 + 4 := by omega
    rw [h0]
    exact this

theorem cellsE_take {es : List En} {k i : Nat} {v : Value} (h : (cellsE (es.take k))[i]? = some v) : (cellsE es)[i]? = some v := by
  have he : cellsE es = cellsE (es.take k) ++ cellsE (es.drop k) := by rw [← cellsE_append, List.take_append_drop]
  rw [he, List.getElem?_append_left (List.getElem?_eq_some_iff.1 h).1]; exact h
theorem cellsE_drop {es : List En} {k i : Nat} {v : Value} (hk : k ≤ es.length) (h : (cellsE (es.drop k))[i]? = some v) : (cellsE es)[k * 4 + i]? = some v := by
  have he : cellsE es = cellsE (es.take k) ++ cellsE (es.drop k) := by rw [← cellsE_append, List.take_append_drop]
  have hl : (cellsE (es.take k)).length = k * 4 := by rw [cellsE_len, List.length_take, Nat.min_eq_left hk]
  rw [he, List.getElem?_append_right (by omega), hl, Nat.add_sub_cancel_left]; exact h

/-- A row of entries of one's own, in block g. -/
def OwnE (w : World) (B g cap : Nat) (es : List En) : Prop := w.ownsRow B 43 4 (.slice (some ⟨g, 0, none⟩) es.length cap) es.length (cellsE es)

theorem OwnE.lit (w : World) (B : Nat) (hB : B ≤ w.heap.size) : OwnE (w.alloc (.cells #[] 43)) B w.heap.size 0 [] :=
  ⟨by simp [cellsE], .inr ⟨w.heap.size, 0, #[], rfl, hB, heap_alloc_new w _, Nat.le_refl _, by decide, by simp, by simp [cellsE]⟩⟩

theorem OwnE.lt {w : World} {B g cap : Nat} {es : List En} (h : OwnE w B g cap es) : B ≤ g ∧ g < w.heap.size := World.ownsRow.lt h g rfl
theorem OwnE.cap {w : World} {B g cap : Nat} {es : List En} (h : OwnE w B g cap es) : es.length ≤ cap ∧ cap ≤ maxLen := by
  rcases h.2 with ⟨hn, h0⟩ | ⟨g', cap', cur, hv, hg, hh, hle, hcap, hsz, htake⟩
  · cases hn
  · cases hv
    exact ⟨hle, hcap⟩
theorem OwnE.cell {w : World} {B g cap : Nat} {es : List En} (h : OwnE w B g cap es) {j : Nat} {v : Value} (hv : (cellsE es)[j]? = some v) : w.cell? ⟨g, j, none⟩ = some v := by
  have hc := World.ownsRow.cells h (g := g) rfl j v hv
  have e : (⟨g, 0, none⟩ : Addr).add j = ⟨g, j, none⟩ := by unfold Addr.add; split <;> simp_all
  rwa [e] at hc
theorem OwnE.block {w w' : World} {B g cap : Nat} {es : List En} (h : OwnE w B g cap es) (hb : w'.heap[g]? = w.heap[g]?) : OwnE w' B g cap es := by
  refine ⟨h.1, ?_⟩
  rcases h.2 with hn | ⟨g', cap', cur, hv, hg, hh, r⟩
  · exact .inl hn
  · refine .inr ⟨g', cap', cur, hv, hg, ?_, r⟩
    cases hv
    rw [hb]; exact hh
theorem OwnE.below {w w' : World} {B B' g cap : Nat} {es : List En} (h : OwnE w B g cap es) (hb : Below B' w w') (hg : g < B') : OwnE w' B g cap es := h.block (hb.block g hg)
theorem OwnE.mv {w w' : World} {B g cap r : Nat} {es : List En} (h : OwnE w B g cap es) (hm : Mv r w w') (hr : r < B) : OwnE w' B g cap es := h.block (hm.block g h.lt.2 (by have := h.lt.1; omega))
theorem OwnE.mono {w : World} {B B' g cap : Nat} {es : List En} (h : OwnE w B g cap es) (hB : B' ≤ B) : OwnE w B' g cap es := by
  refine ⟨h.1, ?_⟩
  rcases h.2 with hn | ⟨g', cap', cur, hv, hg, r⟩
  · exact .inl hn
  · exact .inr ⟨g', cap', cur, hv, by omega, r⟩

theorem entry_info : (Try.prog.info? 43).map (fun i => (i.zero, i.size, i.bytes)) = some (some (.agg #[.string ⟨#[]⟩, .int .i64 0, .int .i64 0, .string ⟨#[]⟩]), 4, 48) := by kernel_rfl

/-- 'append(v, u...)', u entries that lie at ad. -/
theorem wpList_append_es {w : World} {ops : Array Oper} {rest : List Oper} {o : Oper} {a : Act} {Q : Exit → Act → World → Prop} (hgd : o.guard = none) (s x : Operand) (t : TypeId)
    (ho : o.op = .call { callee := .builtin .append, args := #[s, x], argTypes := #[t, t] }) (ht : Try.prog.underlying t = some (.slice 43))
    (B g cap : Nat) (es news : List En) (hs : a.eval s = .slice (some ⟨g, 0, none⟩) es.length cap) (hown : OwnE w B g cap es) (ad : Addr) (m c : Nat) (hx : a.eval x = .slice (some ad) m c) (hm : news.length = m)
    (hnews : ∀ j u, (cellsE news)[j]? = some u → w.cell? (ad.add j) = some u) (hB : B ≤ w.heap.size) (hlen : es.length + m ≤ 1000)
    (h : ∀ g' cap' w', OwnE w' B g' cap' (es ++ news) → Below B w w' → wpList Try.prog ops Q rest (a.put o.dst (.slice (some ⟨g', 0, none⟩) (es.length + m) cap')) w') : wpList Try.prog ops Q (o :: rest) a w := by
  obtain ⟨i0, hi', hz0, hs0, hb0⟩ := info_parts entry_info
  refine wpList_append_own w hgd s x t ho B 43 i0 _ 4 48 ht hi' hz0 hs0 hb0 rfl (by decide) _ es.length (cellsE es) hs hown ad m c (cellsE news) hx (by rw [cellsE_len, hm]) hnews (cellsE_one news) (by unfold maxLen; omega) (by omega) hB ?_
  intro v' w' h1 h2 h3
  have hne : ¬ v' = .slice none 0 0 := fun e => by have := (h3.1 e).1; cases this
  have hl : (es ++ news).length = es.length + m := by simp [hm]
  obtain ⟨g', cap', rfl⟩ : ∃ g' cap', v' = .slice (some ⟨g', 0, none⟩) (es.length + m) cap' := by
    rcases h1.2 with ⟨hn, _⟩ | ⟨g', cap', cur, hv, _⟩
    · exact absurd hn hne
    · exact ⟨g', cap', hv⟩
  refine h g' cap' w' ?_ ((Below.refl B w).grown h2 hB fun k hk => (World.ownsRow.lt hown k hk).1)
  unfold OwnE
  rw [hl, cellsE_append]
  exact h1

theorem addr_add (g o i : Nat) : (⟨g, o, none⟩ : Addr).add i = ⟨g, o + i, none⟩ := by unfold Addr.add; split <;> simp_all

theorem OwnE.srcTake {w : World} {B g cap : Nat} {es : List En} (h : OwnE w B g cap es) (k : Nat) : ∀ i u, (cellsE (es.take k))[i]? = some u → w.cell? ((⟨g, 0, none⟩ : Addr).add i) = some u := fun i u hu => by
  rw [addr_add, Nat.zero_add]; exact h.cell (cellsE_take hu)
theorem OwnE.srcDrop {w : World} {B g cap : Nat} {es : List En} (h : OwnE w B g cap es) (k : Nat) (hk : k ≤ es.length) : ∀ i u, (cellsE (es.drop k))[i]? = some u → w.cell? ((⟨g, k * 4, none⟩ : Addr).add i) = some u := fun i u hu => by
  rw [addr_add]; exact h.cell (cellsE_drop hk hu)
theorem srcNone {w : World} {es : List En} {k : Nat} (hk : es.length ≤ k) (ad : Addr) : ∀ i u, (cellsE (es.drop k))[i]? = some u → w.cell? (ad.add i) = some u := fun i u hu => by
  rw [List.drop_of_length_le hk] at hu; simp [cellsE] at hu
theorem srcOne (w : World) (u : ByteArray) (q k : Int) (x : ByteArray) : ∀ i v, (cellsE [⟨u, q, k, x⟩])[i]? = some v → (w.alloc (.cells #[.string u, .int .i64 q, .int .i64 k, .string x] 43)).cell? ((⟨w.heap.size, 0, none⟩ : Addr).add i) = some v := fun i v hv => by
  rw [addr_add, Nat.zero_add, World.cell?_alloc_at _ _ _ _ rfl]
  match i, hv with
  | 0, hv => exact hv
  | 1, hv => exact hv
  | 2, hv => exact hv
  | 3, hv => exact hv
  | i + 4, hv => simp [cellsE] at hv

theorem if_key {A B C : Prop} [Decidable A] [Decidable B] [Decidable C] {T : Type} {x y : T} (h : ¬ (A ∧ B ∧ C)) : (if A then if B then if C then x else y else y else y) = y := by
  by_cases a : A
  · by_cases b : B
    · by_cases c : C
      · exact absurd ⟨a, b, c⟩ h
      · simp [a, b, c]
    · simp [a, b]
  · simp [a]

end Go.Proofs.Ytjcoejabpagaiaa
