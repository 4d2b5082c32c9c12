/- WriteLog of the program. -/
import Derived.Test.YtonkjdjancnajaaShp
import Derived.Test.YtonkjdjancnajaaCrc
import Derived.Test.YtonkjdjancnajaaFixed
namespace Go.Proofs.Ytonkjdjancnajaa
set_option maxRecDepth 100000
open Go.RowKit

/-- What a sum is taken of: how many bytes, the kind, the bytes. -/
def fbody (k : Int) (p : ByteArray) : ByteArray := strOfNums [(p.size : Int), k] ++ p
/-- A fragment. -/
def frag (k : Int) (p : ByteArray) : ByteArray := fx4 (crc (fbody k p)) ++ fbody k p
theorem fbody_size (k : Int) (p : ByteArray) : (fbody k p).size = p.size + 2 := by
  rw [fbody, ByteArray.size_append, strOfNums_size]; simp only [List.length_cons, List.length_nil]; omega
theorem frag_size (k : Int) (p : ByteArray) : (frag k p).size = p.size + 6 := by
  rw [frag, ByteArray.size_append, fbody_size, fx4_size]; omega

/-- The fragments behind the first one. -/
def tl : Nat → ByteArray → ByteArray
  | 0, r => frag 4 r
  | f + 1, r => if r.size ≤ 58 then frag 4 r else frag 3 (r.extract 0 58) ++ tl f (r.extract 58 r.size)
theorem tl_last (f : Nat) {r : ByteArray} (h : r.size ≤ 58) : tl f r = frag 4 r := by
  cases f with
  | zero => rfl
  | succ f => rw [tl, if_pos h]
theorem tl_more (f : Nat) {r : ByteArray} (h : ¬ r.size ≤ 58) : tl (f + 1) r = frag 3 (r.extract 0 58) ++ tl f (r.extract 58 r.size) := by rw [tl, if_neg h]

def gapOf (p : Nat) : Nat := if 57 < p then 64 - p else 0
/-- How many bytes of the record the first fragment may take. -/
def roomOf (p : Nat) : Nat := if 57 < p then 58 else 58 - p
def firstOf (p : Nat) (r : ByteArray) : ByteArray := if r.size ≤ roomOf p then frag 1 r else frag 2 (r.extract 0 (roomOf p)) ++ tl 138 (r.extract (roomOf p) r.size)
def writeLog (at' : Int) (r : ByteArray) : ByteArray := if at' < 0 ∨ 8000 < r.size then ⟨#[]⟩ else zeros (gapOf (at' % 64).toNat) ++ firstOf (at' % 64).toNat r

theorem ret_strW {a b : ByteArray} (h : a = b) : Ending.returned (.string a) = .returned (.string b) := by rw [h]

/-- What a conversion of two byte cells gives. -/
theorem conv_two {P : Program} (src e dst : TypeId) (hs : P.underlying src = some (.slice e)) (he : P.underlying e = some (.int .u8)) (hd : P.underlying dst = some .string) (W : World) (g : Nat) (x y : Int) (h0 : W.cell? ⟨g, 0, none⟩ = some (.int .u8 x)) (h1 : W.cell? ⟨g, 1, none⟩ = some (.int .u8 y)) :
    (convert src dst (.slice (some ⟨g, 0, none⟩) 2 2)).run P W = .ok (.string (strOfNums [x, y])) W := by
  refine run_convert_bytes_arg (P := P) _ src e hs he g 0 2 2 [x, y] rfl (fun i hi => ?_) dst hd
  rcases i with _ | _ | i
  · simpa using h0
  · simpa using h1
  · omega

set_option maxHeartbeats 400000 in
theorem impl_writeFragment (b : Nat) (s : ByteArray) (k : Int) (hk : 0 ≤ k ∧ k ≤ 255) (p : ByteArray) (hp : p.size ≤ 255) (w : World) (h : Bld w b s) (hz : s.size ≤ 900000) :
    Calls Try.prog 58 #[.pointer (some ⟨b, 0, none⟩), .int .u8 k, .string p] w fun e w' => e = .returned (.tuple #[]) ∧ Bld w' b (s ++ frag k p) ∧ Below b w w' := by
  obtain ⟨hk0, hk1⟩ := hk
  have hw8 : IntKind.u8.wrap (p.size : Int) = (p.size : Int) := by rw [IntKind.wrap_u8]; omega
  have hcv : ∀ wx : World, (convert 67 9 (.slice (some ⟨wx.heap.size, 0, none⟩) 2 2)).run Try.prog (wx.alloc (.cells #[.int .u8 (p.size : Int), .int .u8 k] 5)) = .ok (.string (strOfNums [(p.size : Int), k])) (wx.alloc (.cells #[.int .u8 (p.size : Int), .int .u8 k] 5)) := fun wx =>
    conv_two (P := Try.prog) 67 5 9 Try.underlying67 Try.underlying5 Try.underlying9 _ _ _ _ (by simp) (by simp)
  have hsz2 : (strOfNums [(p.size : Int), k]).size = 2 := by rw [strOfNums_size]; rfl
  have ha : ∀ wx : World, (Op.stringOp .add (strOfNums [(p.size : Int), k]) p).run Try.prog wx = .ok (.string (fbody k p)) wx := fun wx => run_string_add_sum wx _ _ (by omega)
  have hb1 := below_one w (.cells #[.int .u8 (p.size : Int), .int .u8 k] 5)
  have hB1 := h.next hb1
  have hfs := fbody_size k p
  have hlt := h.2
  have HF : Hid (frag k p = fx4 (crc (fbody k p)) ++ fbody k p) := rfl
  go_enter Try.func58, Try.ntmps58
  go_wp2_with fail
  generalize w.alloc (.cells #[.int .u8 (p.size : Int), .int .u8 k] 5) = W at hb1 hB1 ⊢
  clear hcv ha hw8 hsz2 h
  generalize hfb : fbody k p = body at *
  clear hfb
  refine (impl_Crc body (by unfold maxLen; omega) _).mono ?_
  rintro e w1 ⟨rfl, rfl⟩
  have hB2 := hB1
  have hL2 := hb1
  clear hb1 hB1
  go_wp2_with fail
  refine (impl_PutFixed (crc body) _).mono ?_
  rintro e w2 ⟨rfl, hb3⟩
  have hB3 := hB2.next hb3
  have hL3 := hL2.trans (hb3.mono hL2.size)
  have hf4 := fx4_size (crc body)
  clear hb3 hB2 hL2
  go_wp2_with fail
  refine (bld_WriteString b s (fx4 (crc body)) _ hB3 (by omega)).mono ?_
  rintro e w3 ⟨rfl, hB4, hb4⟩
  have hL4 := (hL3.mono (Nat.le_of_lt hlt)).trans hb4
  clear hb4 hB3 hL3
  go_wp2_with fail
  refine (bld_WriteString b (s ++ fx4 (crc body)) body _ hB4 (by rw [ByteArray.size_append]; omega)).mono ?_
  rintro e w4 ⟨rfl, hB5, hb5⟩
  have hL5 := hL4.trans hb5
  clear hb5 hB4 hL4
  go_wp2
  refine bodyPost_end (results_none rfl _ _ _) rfl ⟨rfl, ?_, hL5⟩
  rw [HF.out, ← ByteArray.append_assoc]
  exact hB5

theorem impl_leftAt (p : Nat) (hp : p ≤ 100000) (w : World) :
    Calls Try.prog 57 #[.int .i64 p] w fun e w' => e = .returned (.int .i64 (64 - (p : Int) % 64)) ∧ w = w' := by
  have h0 : (0 : Int) ≤ (p : Int) := by omega
  have h1 : (p : Int) ≤ 100000 := by omega
  go_enter Try.func57, Try.ntmps57
  go_wp2
  go_ret
  exact ⟨rfl, rfl⟩

theorem impl_gapAt (p : Nat) (hp : p < 64) (w : World) :
    Calls Try.prog 54 #[.int .i64 p] w fun e w' => e = .returned (.int .i64 (gapOf p)) ∧ w = w' := by
  have c := impl_leftAt p (by omega) w
  have hm : (p : Int) % 64 = p := by omega
  rw [hm] at c
  by_cases h : 57 < p
  · have h1 : 64 - (p : Int) < 7 := by omega
    have HV : Hid ((gapOf p : Int) = 64 - (p : Int)) := by show _ = _; unfold gapOf; rw [if_pos h]; omega
    clear hm
    go_enter Try.func54, Try.ntmps54
    go_wp2_with fail
    refine c.mono ?_
    rintro e w1 ⟨rfl, rfl⟩
    clear c
    go_wp2
    go_ret
    exact ⟨ret_int HV.out.symm, rfl⟩
  · have h1 : ¬ (64 - (p : Int) < 7) := by omega
    have HV : Hid ((gapOf p : Int) = 0) := by show _ = _; unfold gapOf; rw [if_neg h]; rfl
    clear hm
    go_enter Try.func54, Try.ntmps54
    go_wp2_with fail
    refine c.mono ?_
    rintro e w1 ⟨rfl, rfl⟩
    clear c
    go_wp2
    go_ret
    exact ⟨ret_int HV.out.symm, rfl⟩

end Go.Proofs.Ytonkjdjancnajaa
