/- The reader of drawn bytes: what it hands out, and what it leaves as it was. -/
import Derived.Test.YtjcoejabpagaiaaRows
import Derived.Test.YtjcoejabpagaiaaOwn
import Derived.Test.YtjcoejabpagaiaaMv
namespace Go.Proofs.Ytjcoejabpagaiaa
set_option maxRecDepth 100000
open Go.RowKit

/-- The bytes that came in: none, or a row of bytes of old memory. -/
def IsCode (W : World) (a : Option Addr) (len : Nat) : Prop :=
  len = 0 ∨ ∃ b off, a = some ⟨b, off, none⟩ ∧ b < W.heap.size ∧ ∀ i, i < len → ∃ x : Int, 0 ≤ x ∧ x ≤ 255 ∧ W.cell? ⟨b, off + i, none⟩ = some (.int .u8 x)

/-- The reader lies in block g, over the bytes that came in at W. -/
structure Rd (W w : World) (g : Nat) (a : Option Addr) (len cap : Nat) : Prop where
  new : W.heap.size ≤ g
  lt : g < w.heap.size
  low : Below W.heap.size W w
  b : w.cell? ⟨g, 0, none⟩ = some (.slice a len cap)
  p : ∃ p : Nat, p ≤ len ∧ w.cell? ⟨g, 1, none⟩ = some (.int .i64 p)
  free : w.frozen? ⟨g, 1, none⟩ = false

theorem Rd.drewN {W w : World} {g : Nat} {a : Option Addr} {len cap : Nat} (h : Rd W w g a len cap) (n : Nat) : Rd W (w.drewN n) g a len cap :=
  ⟨h.new, h.lt, below_drewN h.low n, h.b, h.p, h.free⟩

/-- What else a caller lays or writes leaves the reader as it was. -/
theorem Rd.keep {W w w' : World} {g B : Nat} {a : Option Addr} {len cap : Nat} (h : Rd W w g a len cap) (hb : Below B w w') (hg : g < B) : Rd W w' g a len cap :=
  ⟨h.new, Nat.lt_of_lt_of_le h.lt hb.size, h.low.trans (hb.mono (by have := h.new; omega)), (hb.cell (p := ⟨g, 0, none⟩) hg).trans h.b, by obtain ⟨p, h1, h2⟩ := h.p; exact ⟨p, h1, (hb.cell (p := ⟨g, 1, none⟩) hg).trans h2⟩, (hb.frozen (p := ⟨g, 1, none⟩) hg).trans h.free⟩

set_option maxHeartbeats 400000 in
theorem rd_next (W w : World) (g : Nat) (a : Option Addr) (len cap : Nat) (hc : IsCode W a len) (hl : len ≤ 1048576) (h : Rd W w g a len cap) :
    Calls Try.prog 47 #[.pointer (some ⟨g, 0, none⟩)] w fun e w' => ∃ x : Int, e = .returned (.int .i64 x) ∧ 0 ≤ x ∧ x ≤ 255 ∧ Rd W w' g a len cap ∧ Mv g w w' := by
  obtain ⟨hnew, hlt, hlow, h0, ⟨p, hp, h1⟩, hf⟩ := h
  by_cases hpl : p < len
  · rcases hc with hz | ⟨b, off, rfl, hb, hx⟩
    · omega
    obtain ⟨x, hx0, hx1, hx2⟩ := hx p hpl
    have hbg : b ≠ g := by omega
    have hcell : w.cell? ⟨b, off + p, none⟩ = some (.int .u8 x) := by
      rw [hlow.cell (p := ⟨b, off + p, none⟩) hb]; exact hx2
    have hnew' : Hid (W.heap.size ≤ g) := hnew
    have hp1 : ¬ ((len : Int) ≤ (p : Int)) := by omega
    have hlow' : Hid (Below W.heap.size W w) := hlow
    clear hx hx2 hlow hb hnew
    go_enter Try.func47, Try.ntmps47
    go_wp2
    go_quiet (fail)
    go_wp2
    go_quiet (fail)
    go_wp2
    go_ret
    refine ⟨x, rfl, hx0, hx1, Rd.drewN ⟨hnew'.out, by simpa [World.setCell] using hlt, Below.setCell (below_drewN hlow'.out _) hnew'.out _, ?_, ⟨p + 1, by omega, ?_⟩, ?_⟩ _, (((Mv.refl _ _).drewN _).setCell _).drewN _⟩
    · rw [World.cell?_setCell_other]
      · exact h0
      · simp
    · apply World.cell?_setCell_same; exact h1
    · simpa using hf
  · have hp1 : (len : Int) ≤ (p : Int) := by omega
    go_enter Try.func47, Try.ntmps47
    go_wp2
    go_quiet (fail)
    go_wp2
    go_ret
    exact ⟨0, rfl, by omega, by omega, Rd.drewN ⟨hnew, hlt, hlow, h0, ⟨p, hp, h1⟩, hf⟩ _, (Mv.refl _ _).drewN _⟩

theorem or_u64_bd (a b : Int) (h0 : 0 ≤ a) (h1 : a ≤ 18446744073709551615) (h2 : 0 ≤ b) (h3 : b ≤ 18446744073709551615) : 0 ≤ bits .or .u64 a b ∧ bits .or .u64 a b ≤ 18446744073709551615 := by
  rw [u64_or a b h0 (by omega) h2 (by omega)]
  have : a.toNat ||| b.toNat < 2 ^ 64 := Nat.or_lt_two_pow (by omega) (by omega)
  omega

/-- A drawn number below n. -/
theorem rd_below (W w : World) (g : Nat) (a : Option Addr) (len cap : Nat) (n : Int) (hn : 1 ≤ n) (hn2 : n ≤ 1000000) (hc : IsCode W a len) (hl : len ≤ 1048576) (h : Rd W w g a len cap) :
    Calls Try.prog 37 #[.pointer (some ⟨g, 0, none⟩), .int .i64 n] w fun e w' => ∃ x : Int, e = .returned (.int .i64 x) ∧ 0 ≤ x ∧ x < n ∧ Rd W w' g a len cap ∧ Mv g w w' := by
  by_cases h1 : n ≤ 1
  · go_enter Try.func37, Try.ntmps37
    go_wp2
    go_ret
    exact ⟨0, rfl, by omega, by omega, h, Mv.refl _ _⟩
  · by_cases h2 : n ≤ 256
    · go_enter Try.func37, Try.ntmps37
      go_wp2_with fail
      refine (rd_next W _ g a len cap hc hl h).mono ?_
      rintro e w1 ⟨x, rfl, hx0, hx1, hr, hm⟩
      go_wp2
      go_ret
      exact ⟨_, rfl, Int.emod_nonneg _ (by omega), Int.emod_lt_of_pos _ (by omega), hr, hm⟩
    · go_enter Try.func37, Try.ntmps37
      go_wp2_with fail
      refine (rd_next W _ g a len cap hc hl h).mono ?_
      rintro e w1 ⟨x, rfl, hx0, hx1, hr, hm⟩
      go_wp2_with fail
      refine (rd_next W _ g a len cap hc hl hr).mono ?_
      rintro e w2 ⟨y, rfl, hy0, hy1, hr2, hm2⟩
      go_wp2
      go_ret
      exact ⟨_, rfl, Int.emod_nonneg _ (by omega), Int.emod_lt_of_pos _ (by omega), hr2, hm.trans hm2⟩

theorem rd_once (W w : World) (g : Nat) (a : Option Addr) (len cap : Nat) (n : Int) (hn : 1 ≤ n) (hn2 : n ≤ 1000000) (hc : IsCode W a len) (hl : len ≤ 1048576) (h : Rd W w g a len cap) :
    Calls Try.prog 39 #[.pointer (some ⟨g, 0, none⟩), .int .i64 n] w fun e w' => ∃ b : Bool, e = .returned (.bool b) ∧ Rd W w' g a len cap ∧ Mv g w w' := by
  go_enter Try.func39, Try.ntmps39
  go_wp2_with fail
  refine (rd_below W _ g a len cap n hn hn2 hc hl h).mono ?_
  rintro e w1 ⟨x, rfl, hx0, hx1, hr, hm⟩
  go_wp2
  go_ret
  exact ⟨_, rfl, hr, hm⟩

set_option maxHeartbeats 1000000 in
/-- A drawn word of 64 bits. -/
theorem rd_word (W w : World) (g : Nat) (a : Option Addr) (len cap : Nat) (hc : IsCode W a len) (hl : len ≤ 1048576) (h : Rd W w g a len cap) :
    Calls Try.prog 50 #[.pointer (some ⟨g, 0, none⟩)] w fun e w' => ∃ x : Int, e = .returned (.int .u64 x) ∧ 0 ≤ x ∧ x ≤ 18446744073709551615 ∧ Rd W w' g a len cap ∧ Mv g w w' := by
  go_enter Try.func50, Try.ntmps50
  go_wp2
  go_loopw [3, 4] (fun x i wr => ∃ (m : Int) (k : Nat), x = .int .u64 m ∧ 0 ≤ m ∧ m ≤ 18446744073709551615 ∧ i = .int .i64 k ∧ k ≤ 8 ∧ Hid (Rd W wr g a len cap) ∧ Hid (Mv g w wr))
    (fun _ i _ => 8 - (intOf i).toNat)
  case atStart => exact ⟨0, 0, rfl, by omega, by omega, rfl, by omega, h, Mv.refl _ _⟩
  case round =>
    obtain ⟨m, k, rfl, hm0, hm1, rfl, hk, HR, HM⟩ := hrel
    by_cases hlt : k < 8
    · go_wp2_with fail
      refine (rd_next W _ g a len cap hc hl HR.out).mono ?_
      rintro e w1 ⟨x, rfl, hx0, hx1, hr, hmv⟩
      have HR1 : Hid _ := hr
      have HM1 : Hid (Mv g w w1) := HM.out.trans hmv
      clear hr hmv HR HM
      go_wp2
      have hw : 0 ≤ IntKind.u64.wrap (m * 256) ∧ IntKind.u64.wrap (m * 256) ≤ 18446744073709551615 := by rw [IntKind.wrap_u64]; omega
      have hb := or_u64_bd (IntKind.u64.wrap (m * 256)) x hw.1 hw.2 hx0 (by omega)
      exact ⟨⟨_, k + 1, rfl, hb.1, hb.2, by go_num, by omega, HR1, HM1⟩, by simp [intOf]; omega⟩
    · go_wp2
      go_ret
      exact ⟨m, rfl, hm0, hm1, HR.out, HM.out⟩

theorem Rd.mv {W w w' : World} {g : Nat} {a : Option Addr} {len cap : Nat} (r : Rd W w g a len cap) (hm : Below w.heap.size w w') : Rd W w' g a len cap := r.keep hm r.lt

theorem pick_cell {g : Nat} {w w1 : World} {C : Array Value} {T : TypeId} (hm : Mv g (w.alloc (.cells C T)) w1) (hg : g < w.heap.size) (i : Nat) {v : Value} (hv : C[i]? = some v) : w1.cell? ⟨w.heap.size, i, none⟩ = some v := by
  rw [hm.cell (by simp) (by simp; omega), World.cell?_alloc_at _ _ _ _ rfl]
  exact hv

theorem mv_alloc {g : Nat} {w w1 : World} {o : Obj} (hm : Mv g (w.alloc o) w1) : Mv g w w1 :=
  (Mv.of_below ((Below.refl _ _).alloc (Nat.le_refl _) _)).trans hm

/-- The words that a text is drawn from. -/
def texts12 : Array Value := #[.string ⟨#[]⟩, .string ⟨#[97]⟩, .string ⟨#[98]⟩, .string ⟨#[97, 98]⟩, .string ⟨#[97, 98, 99]⟩, .string ⟨#[97, 98, 100]⟩, .string ⟨#[107, 101, 121]⟩, .string ⟨#[107, 101, 121, 49]⟩, .string ⟨#[107, 101, 121, 50]⟩, .string ⟨#[122, 122]⟩, .string ⟨#[0]⟩, .string ⟨#[97, 0]⟩]

theorem texts12_at (k : Nat) (h : k < 12) : ∃ s : ByteArray, texts12[k]? = some (.string s) ∧ s.size ≤ 4 := by
  have : k = 0 ∨ k = 1 ∨ k = 2 ∨ k = 3 ∨ k = 4 ∨ k = 5 ∨ k = 6 ∨ k = 7 ∨ k = 8 ∨ k = 9 ∨ k = 10 ∨ k = 11 := by omega
  rcases this with rfl | rfl | rfl | rfl | rfl | rfl | rfl | rfl | rfl | rfl | rfl | rfl <;> exact ⟨_, rfl, by decide⟩

theorem mv_below {g : Nat} {w w2 w3 : World} (hm : Mv g w w2) (hb : Below w.heap.size w2 w3) : Mv g w w3 :=
  ⟨hb.os.trans hm.os, hb.tape.trans hm.tape, hb.output.trans hm.output, Nat.le_trans hm.size hb.size, fun k hk hg => (hb.block k hk).trans (hm.block k hk hg)⟩

theorem own_mv {g : Nat} {w w' : World} {B : Nat} {e : TypeId} {v : Value} {xs : List Value} (h : Own w B e v xs) (hm : Mv g w w') (hg : g < B) : Own w' B e v xs := by
  refine ⟨h.1, ?_⟩
  rcases h.2 with hn | ⟨b, cap, cur, rfl, hb, hh, r⟩
  · exact .inl hn
  · refine .inr ⟨b, cap, cur, rfl, hb, ?_, r⟩
    rw [hm.block b (Array.getElem?_eq_some_iff.1 hh).1 (by omega)]
    exact hh

set_option maxHeartbeats 1000000 in
set_option maxRecDepth 100000 in
/-- A few drawn bytes. -/
theorem rd_bytes (W w : World) (g : Nat) (a : Option Addr) (len cap : Nat) (m : Int) (hm0 : 0 ≤ m) (hm1 : m ≤ 10000) (hc : IsCode W a len) (hl : len ≤ 1048576) (h : Rd W w g a len cap) :
    Calls Try.prog 57 #[.pointer (some ⟨g, 0, none⟩), .int .i64 m] w fun e w' => ∃ s : ByteArray, e = .returned (.string s) ∧ s.size ≤ m ∧ Rd W w' g a len cap ∧ Mv g w w' := by
  have hi5 : (Try.prog.info? 5).map (fun i => (i.zero, i.size, i.bytes)) = some (some (.int .u8 0), 1, 1) := by kernel_rfl
  have hconv := conv_own (P := Try.prog) 33 5 9 Try.underlying33 Try.underlying5 Try.underlying9
  have hg := h.lt
  go_enter Try.func57, Try.ntmps57
  go_wp2_with fail
  refine (rd_below W _ g a len cap (m + 1) (by omega) (by omega) hc hl (h.keep ((Below.refl _ _).alloc (Nat.le_refl _) _) h.lt)).mono ?_
  rintro e w1 ⟨x, rfl, hx0, hx1, hr, hmv⟩
  have hown : Own w1 w.heap.size 5 (.slice (some ⟨w.heap.size, 0, none⟩) 0 0) [] := own_mv (Own.lit w _ _ [] 0 rfl (Nat.le_refl _) (by decide)) hmv hg
  have HR1 : Hid _ := hr
  have HM1 : Hid _ := mv_alloc hmv
  have HO1 : Hid _ := hown
  clear hr hmv hown h
  go_wp2
  go_loopw [5, 6] (fun v i wr => ∃ (k : Nat) (xs : List Int), i = .int .i64 k ∧ (xs.length : Int) + k ≤ m ∧ Hid (Own wr w.heap.size 5 v (xs.map (Value.int .u8))) ∧ Hid (Rd W wr g a len cap) ∧ Hid (Mv g w wr))
    (fun _ i _ => (intOf i).toNat)
  case atStart =>
    obtain ⟨k, rfl⟩ := Int.eq_ofNat_of_zero_le hx0
    exact ⟨k, [], rfl, by simp; omega, HO1, HR1, HM1⟩
  case round =>
    obtain ⟨k, xs, rfl, hk, HO, HR, HM⟩ := hrel
    clear HR1 HM1 HO1
    by_cases hlt : (0 : Int) < (k : Int)
    · go_wp2_with fail
      refine (rd_below W _ g a len cap 256 (by omega) (by omega) hc hl HR.out).mono ?_
      rintro e w2 ⟨y, rfl, hy0, hy1, hr2, hmv2⟩
      have hown := own_mv HO.out hmv2 hg
      have HR2 : Hid _ := hr2
      have HM2 : Hid (Mv g w w2) := HM.out.trans hmv2
      have hsz : w.heap.size ≤ w2.heap.size := HM2.out.size
      clear hr2 hmv2 HR HM HO hconv
      go_wp2_with (first
        | (at_builtin; refine wpList_append_one rfl _ _ 33 rfl 5 Try.underlying33 hi5 rfl (by decide) w.heap.size _ _ (xs.map (Value.int .u8)) (by rfl) (by rfl) hown rfl hsz ?c1 ?_))
      case c1 => first | omega | (simp; omega)
      intro v' w3 hown' hb'
      have HR3 : Hid _ := HR2.out.keep hb' hg
      have HM3 : Hid _ := mv_below HM2.out hb'
      have HO3 : Hid _ := hown'
      clear HR2 HM2 hown hown' hb'
      go_wp2
      obtain ⟨j, rfl⟩ : ∃ j, k = j + 1 := ⟨k - 1, by omega⟩
      refine ⟨⟨j, xs ++ [y], by go_num, by simp; omega, by rw [List.map_append]; exact HO3, HR3, HM3⟩, by simp [intOf]⟩
    · have hk0 : k = 0 := by omega
      subst hk0
      have hcv := hconv _ w.heap.size _ xs HO.out
      clear hconv
      go_wp2
      go_ret
      exact ⟨_, rfl, by rw [strOfNums_size]; omega, HR.out, HM.out⟩

/-- The numbers that a number is drawn from. -/
def numbers9 : Array Value := #[.int .u64 0, .int .u64 1, .int .u64 127, .int .u64 128, .int .u64 16383, .int .u64 16384, .int .u64 9223372036854775807, .int .u64 9223372036854775808, .int .u64 18446744073709551615]

theorem numbers9_at (k : Nat) (h : k < 9) : ∃ n : Int, numbers9[k]? = some (.int .u64 n) ∧ 0 ≤ n ∧ n ≤ 18446744073709551615 := by
  have : k = 0 ∨ k = 1 ∨ k = 2 ∨ k = 3 ∨ k = 4 ∨ k = 5 ∨ k = 6 ∨ k = 7 ∨ k = 8 := by omega
  rcases this with rfl | rfl | rfl | rfl | rfl | rfl | rfl | rfl | rfl <;> exact ⟨_, rfl, by omega, by omega⟩

def IsBytes (W : World) (v : Value) : Prop := ∃ a len cap, v = .slice a len cap ∧ IsCode W a len ∧ len ≤ maxLen

theorem open_code {H : Type} {enc : TypeId × Value → H} {w : World} {r : Reach} {b0 base : Nat} {spare : Nat → Bool} {held : Bool} {v : Value} {d : DataW H} {p : List MemPlace}
    (hv : Value.okWide Try.prog w r b0 33 v) (h : DataW.Trod enc Try.prog w base spare held 33 v d p) : IsBytes w v := by
  obtain ⟨a, len, cap, rfl⟩ := WideShapes.okWide_slice Try.underlying33 hv
  obtain ⟨fuel, hf⟩ := h
  rcases ChangeShapes.open_ints Try.underlying33 Try.underlying5 (by kernel_rfl) hf with ⟨hcs, _⟩ | ⟨x, l, c, zs, hcs, _, hl, hm, hz, _, hcell, hwz⟩
  · simp [Value.cells] at hcs
    obtain ⟨rfl, rfl, rfl⟩ := hcs
    exact ⟨_, _, _, rfl, .inl rfl, Nat.zero_le _⟩
  · simp [Value.cells] at hcs
    obtain ⟨rfl, rfl, rfl⟩ := hcs
    refine ⟨_, _, _, rfl, ?_, by omega⟩
    have hz' : len ≤ zs.length := by rw [hz]; split <;> omega
    clear hz
    rcases Nat.eq_zero_or_pos len with h0 | h0
    · exact .inl h0
    · obtain ⟨b, off, spot⟩ := x
      have hc0 := hcell 0 (by omega)
      have hspot : spot = none := by simpa [Addr.add] using World.cell?_spot hc0
      subst hspot
      have hb : b < w.heap.size := World.block_lt_of_cell? w ⟨b, off, none⟩ (by simpa [Addr.add] using hc0)
      refine .inr ⟨b, off, rfl, hb, fun i hi => ⟨zs.getD i 0, ?_, ?_, ?_⟩⟩
      · have hw := hwz (zs.getD i 0) (by rw [List.getD, List.getElem?_eq_getElem (by omega)]; exact List.getElem_mem _)
        simp [Lit.wf, IntKind.min, IntKind.max, IntKind.signed, IntKind.bits] at hw
        simpa using hw.1
      · have hw := hwz (zs.getD i 0) (by rw [List.getD, List.getElem?_eq_getElem (by omega)]; exact List.getElem_mem _)
        simp [Lit.wf, IntKind.min, IntKind.max, IntKind.signed, IntKind.bits] at hw
        simpa using hw.2
      · have hci := hcell i (by omega)
        rwa [Addr.add_lit] at hci

end Go.Proofs.Ytjcoejabpagaiaa
