/- The marks that the laws lay into an answer, and look for. -/
import Derived.Test.YtjcoejabpagaiaaReg
import Derived.Test.YtjcoejabpagaiaaRows
import Derived.Test.YtjcoejabpagaiaaMv
namespace Go.Proofs.Ytjcoejabpagaiaa
set_option maxRecDepth 100000
open Go.RowKit

/-- The digits of k, ahead of acc. -/
def decA : Nat → Nat → ByteArray → ByteArray
  | 0, _, acc => acc
  | f + 1, k, acc => if k = 0 then acc else decA f (k / 10) (strOfNums [48 + (k : Int) % 10] ++ acc)
theorem decA_zero (f : Nat) (acc : ByteArray) : decA f 0 acc = acc := by
  cases f with
  | zero => rfl
  | succ f => rw [decA, if_pos rfl]
/-- Mark number k. -/
def mk (k : Nat) : ByteArray := ⟨#[109]⟩ ++ decA k k ⟨#[]⟩

theorem ret_strM {a b : ByteArray} (h : a = b) : Ending.returned (.string a) = .returned (.string b) := by rw [h]

set_option maxHeartbeats 1000000 in
theorem laws_markText (n : Int) (k : Nat) (hn : n = k) (hk : 1 ≤ k) (hk2 : k ≤ 100000000) (w : World) :
    Calls Try.prog 24 #[.int .i64 n] w fun e w' => e = .returned (.string (mk k)) ∧ Below w.heap.size w w' := by
  subst hn
  have HB0 : Hid (Below w.heap.size w w) := Below.refl _ _
  have h0 : ¬ ((k : Int) ≤ 0) := by omega
  have HK : Hid (mk k = ⟨#[109]⟩ ++ decA k k ⟨#[]⟩) := rfl
  have HD : Hid (decA k k ⟨#[]⟩ = decA k k ⟨#[]⟩) := rfl
  generalize hD : decA k k ⟨#[]⟩ = D at HK HD
  have HD0 : Hid (decA k k ⟨#[]⟩ = D) := hD
  clear hD HD
  go_enter Try.func24, Try.ntmps24
  go_wp2
  go_loopw [0, 3] (fun kk o wr => ∃ (j f : Nat) (acc : ByteArray), kk = .int .i64 j ∧ o = .string acc ∧ j ≤ f ∧ acc.size + f ≤ k ∧ Hid (decA f j acc = D) ∧ Hid (Below w.heap.size w wr)) (fun kk _ _ => (intOf kk).toNat)
  case atStart => exact ⟨k, k, ⟨#[]⟩, rfl, rfl, Nat.le_refl _, (by show 0 + k ≤ k; omega), HD0, HB0⟩
  case round =>
    obtain ⟨j, f, acc, rfl, rfl, hjf, hacc, HD, HB⟩ := hrel
    clear HB0 HD0
    by_cases hj : 0 < j
    · obtain ⟨f, rfl⟩ : ∃ f', f = f' + 1 := ⟨f - 1, by omega⟩
      have hj0 : (0 : Int) < (j : Int) := by omega
      have hj1 : (j : Int) ≤ 100000000 := by omega
      have HD2 : Hid (decA f (j / 10) (strOfNums [48 + (j : Int) % 10] ++ acc) = D) := by
        have := HD.out
        rw [decA, if_neg (by omega)] at this
        exact this
      have hm0 : 0 ≤ (j : Int) % 10 := by omega
      have hm1 : (j : Int) % 10 ≤ 9 := by omega
      have z1 : (strOfNums [48 + (j : Int) % 10]).size = 1 := by rw [strOfNums_size]; rfl
      have hw8 : IntKind.u8.wrap (48 + (j : Int) % 10) = 48 + (j : Int) % 10 := by rw [IntKind.wrap_u8]; omega
      have ha : ∀ wx : World, (Op.stringOp .add (strOfNums [48 + (j : Int) % 10]) acc).run Try.prog wx = .ok (.string (strOfNums [48 + (j : Int) % 10] ++ acc)) wx := fun wx => run_string_add_sum wx _ _ (by omega)
      have hcv : ∀ wx : World, (convert 33 9 (.slice (some ⟨wx.heap.size, 0, none⟩) 1 1)).run Try.prog (wx.alloc (.cells #[.int .u8 (48 + (j : Int) % 10)] 5)) = .ok (.string (strOfNums [48 + (j : Int) % 10])) (wx.alloc (.cells #[.int .u8 (48 + (j : Int) % 10)] 5)) := fun wx =>
        conv_one (P := Try.prog) 33 5 9 Try.underlying33 Try.underlying5 Try.underlying9 _ _ _ (by simp)
      have hjq : IntKind.i64.wrap ((j : Int).tdiv 10) = ((j / 10 : Nat) : Int) := by rw [Int.tdiv_eq_ediv_of_nonneg (by omega), IntKind.wrap_i64]; omega
      have HB2 : Hid (Below w.heap.size w (wr.alloc (.cells #[.int .u8 (48 + (j : Int) % 10)] 5))) := HB.out.alloc HB.out.size _
      have HS : Hid ((strOfNums [48 + (j : Int) % 10] ++ acc).size + f ≤ k) := by show _ ≤ k; rw [ByteArray.size_append]; omega
      clear HD HB
      go_wp2
      exact ⟨⟨j / 10, f, _, rfl, rfl, by omega, HS.out, HD2, HB2⟩, by simp [intOf]; omega⟩
    · obtain rfl : j = 0 := by omega
      have he := HD.out
      rw [decA_zero] at he
      have HE : Hid (acc = D) := he
      have hs : acc.size ≤ 100000000 := by omega
      clear he HD
      go_wp2
      go_ret
      exact ⟨ret_strM (by rw [HE.out, HK.out]), HB.out⟩

/-- What mark number K + j looks like in a cell: a number where kd says so, else a text. -/
def mkCell (kd : Nat → Bool) (K j : Nat) : Value := if kd j then .int .i64 ((K + j : Nat) : Int) else .string (mk (K + j))

/-- The first c of the n cells of block g are marked; nothing else has turned. -/
structure Mk (kd : Nat → Bool) (g n K c : Nat) (w x : World) : Prop where
  mv : Mv g w x
  wr : ∀ j, j < n → (∃ v, x.cell? ⟨g, j, none⟩ = some v) ∧ x.frozen? ⟨g, j, none⟩ = false
  ok : ∀ j, j < c → x.cell? ⟨g, j, none⟩ = some (mkCell kd K j)

theorem Mk.start {kd : Nat → Bool} {g n K : Nat} {w : World} (h : ∀ j, j < n → (∃ v, w.cell? ⟨g, j, none⟩ = some v) ∧ w.frozen? ⟨g, j, none⟩ = false) : Mk kd g n K 0 w w := ⟨Mv.refl _ _, h, fun _ h => absurd h (by omega)⟩
theorem Mk.step {kd : Nat → Bool} {g n K c : Nat} {w x : World} (h : Mk kd g n K c w x) (hc : c < n) {v : Value} (hv : v = mkCell kd K c) : Mk kd g n K (c + 1) w (x.setCell ⟨g, c, none⟩ v) := by
  subst hv
  obtain ⟨⟨v0, h0⟩, _⟩ := h.wr c hc
  have hsame := World.cell?_setCell_same x ⟨g, c, none⟩ (mkCell kd K c) h0
  refine ⟨h.mv.setCell _, fun j hj => ?_, fun j hj => ?_⟩
  · by_cases e : j = c
    · subst e; exact ⟨⟨_, hsame⟩, by simpa using (h.wr j hj).2⟩
    · exact ⟨by obtain ⟨v, hv⟩ := (h.wr j hj).1; exact ⟨v, by rw [World.cell?_setCell_other]; exact hv; simp <;> omega⟩, by simpa using (h.wr j hj).2⟩
  · by_cases e : j = c
    · subst e; exact hsame
    · rw [World.cell?_setCell_other]
      · exact h.ok j (by omega)
      · simp <;> omega
theorem Mk.next {kd : Nat → Bool} {g n K c : Nat} {w x y : World} (h : Mk kd g n K c w x) (hb : Below x.heap.size x y) : Mk kd g n K c w y := by
  refine ⟨h.mv.trans (Mv.of_below hb), fun j hj => ?_, fun j hj => keepc hb (h.ok j hj)⟩
  obtain ⟨⟨v, hv⟩, hf⟩ := h.wr j hj
  exact ⟨⟨v, keepc hb hv⟩, (hb.frozen (p := ⟨g, j, none⟩) (World.block_lt_of_cell? _ ⟨g, j, none⟩ hv)).trans hf⟩

theorem mk_int {kd : Nat → Bool} {K j : Nat} {n : Int} (h : kd j = true) (hn : n = ((K + j : Nat) : Int)) : Value.int .i64 n = mkCell kd K j := by rw [mkCell, h, hn]; rfl
theorem mk_str {kd : Nat → Bool} {K j k : Nat} (h : kd j = false) (hk : k = K + j) : Value.string (mk k) = mkCell kd K j := by rw [mkCell, h, hk]; rfl

end Go.Proofs.Ytjcoejabpagaiaa
