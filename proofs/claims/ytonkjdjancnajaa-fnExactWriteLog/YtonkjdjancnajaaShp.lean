/- The library's builder of texts and its Repeat, as functions of this program. -/
import Derived.Shelf.Strings.Builder1
import Derived.Shelf.Strings.Repeat
import Derived.Test.YtonkjdjancnajaaReg
import Derived.Test.YtonkjdjancnajaaBox
namespace Go.Proofs.Ytonkjdjancnajaa
set_option maxRecDepth 100000
open Go.RowKit

def l105_ren : Go.Shelf.Ren := ⟨fun | 105 => 56 | 212 => 77 | 99 => 78 | 165 => 79 | 166 => 55 | 170 => 80 | 169 => 59 | 263 => 92 | 264 => 93 | 206 => 94 | 240 => 76 | 241 => 95 | 276 => 91 | 277 => 100 | n => n, fun | 9 => 9 | 3 => 3 | 4 => 4 | 20 => 20 | 0 => 0 | 46 => 107 | 109 => 114 | 5 => 5 | 72 => 86 | 76 => 90 | 51 => 82 | 146 => 127 | 53 => 64 | 148 => 129 | 70 => 84 | 37 => 67 | 75 => 89 | 127 => 119 | 164 => 125 | 80 => 77 | n => n, fun | n => n⟩
theorem l105 : Go.Proofs.Lays.n105 Try.prog l105_ren := {
  mixed := by kernel_rfl
  f99 := Try.func78.trans (congrArg some (by kernel_rfl))
  f105 := Try.func56.trans (congrArg some (by kernel_rfl))
  f165 := Try.func79.trans (congrArg some (by kernel_rfl))
  f166 := Try.func55.trans (congrArg some (by kernel_rfl))
  f169 := Try.func59.trans (congrArg some (by kernel_rfl))
  f170 := Try.func80.trans (congrArg some (by kernel_rfl))
  f206 := Try.func94.trans (congrArg some (by kernel_rfl))
  f212 := Try.func77.trans (congrArg some (by kernel_rfl))
  f240 := Try.func76.trans (congrArg some (by kernel_rfl))
  f241 := Try.func95.trans (congrArg some (by kernel_rfl))
  f263 := Try.func92.trans (congrArg some (by kernel_rfl))
  f264 := Try.func93.trans (congrArg some (by kernel_rfl))
  f276 := Try.func91.trans (congrArg some (by kernel_rfl))
  f277 := Try.func100.trans (congrArg some (by kernel_rfl))
  t0 := Try.underlying0
  a0 := Try.isAgg0
  z0 := Try.sizeOf0
  v0 := Try.zeroValue0
  t3 := Try.underlying3
  a3 := Try.isAgg3
  z3 := Try.sizeOf3
  v3 := Try.zeroValue3
  t4 := Try.underlying4
  a4 := Try.isAgg4
  z4 := Try.sizeOf4
  v4 := Try.zeroValue4
  t5 := Try.underlying5
  a5 := Try.isAgg5
  z5 := Try.sizeOf5
  v5 := Try.zeroValue5
  t9 := Try.underlying9
  a9 := Try.isAgg9
  z9 := Try.sizeOf9
  v9 := Try.zeroValue9
  t20 := Try.underlying20
  a20 := Try.isAgg20
  z20 := Try.sizeOf20
  v20 := Try.zeroValue20
  t37 := Try.underlying67
  a37 := Try.isAgg67
  z37 := Try.sizeOf67
  v37 := Try.zeroValue67
  t46 := Try.underlying107
  a46 := Try.isAgg107
  z46 := Try.sizeOf107
  v46 := Try.zeroValue107
  t51 := Try.underlying82
  a51 := Try.isAgg82
  z51 := Try.sizeOf82
  v51 := Try.zeroValue82
  t53 := Try.underlying64
  a53 := Try.isAgg64
  z53 := Try.sizeOf64
  v53 := Try.zeroValue64
  t70 := Try.underlying84
  a70 := Try.isAgg84
  z70 := Try.sizeOf84
  v70 := Try.zeroValue84
  t72 := Try.underlying86
  a72 := Try.isAgg86
  z72 := Try.sizeOf86
  v72 := Try.zeroValue86
  t75 := Try.underlying89
  a75 := Try.isAgg89
  z75 := Try.sizeOf89
  v75 := Try.zeroValue89
  t76 := Try.underlying90
  a76 := Try.isAgg90
  z76 := Try.sizeOf90
  v76 := Try.zeroValue90
  t109 := Try.underlying114
  a109 := Try.isAgg114
  z109 := Try.sizeOf114
  v109 := Try.zeroValue114
  t127 := Try.underlying119
  a127 := Try.isAgg119
  z127 := Try.sizeOf119
  v127 := Try.zeroValue119
  t146 := Try.underlying127
  a146 := Try.isAgg127
  z146 := Try.sizeOf127
  v146 := Try.zeroValue127
  t148 := Try.underlying129
  a148 := Try.isAgg129
  z148 := Try.sizeOf129
  v148 := Try.zeroValue129
  t164 := Try.underlying125
  a164 := Try.isAgg125
  z164 := Try.sizeOf125
  v164 := Try.zeroValue125 }

theorem l105_extra : Go.Proofs.Builder.Extra Try.prog l105_ren := {
  sizeBuilder := by kernel_rfl
  liesBuilder := by kernel_rfl
  t5 := Try.underlying5
  a5 := Try.isAgg5
  z5 := Try.sizeOf5
  v5 := Try.zeroValue5
  infoByte := by kernel_rfl
  cellsByte := by kernel_rfl
  sizeByte := by kernel_rfl
  neB5 := by decide }

/-- The builder in block b holds the bytes of s; its row lies from block b on. -/
def Bld (w : World) (b : Nat) (s : ByteArray) : Prop := Lib.IsBuilder 86 5 b b (Lib.byteCells s.data.toList) w ∧ b < w.heap.size

theorem Bld.new (w : World) : Bld (w.alloc (.cells #[.pointer none, .slice none 0 0] 86)) w.heap.size ⟨#[]⟩ := ⟨Lib.fresh_isBuilder 86 5 w, by simp⟩
theorem Bld.next {w w' : World} {b : Nat} {s : ByteArray} (h : Bld w b s) (hb : Below w.heap.size w w') : Bld w' b s := by
  have one : ∀ {p : Value}, Lib.BuilderAt 86 5 b b p (Lib.byteCells s.data.toList) w → Lib.BuilderAt 86 5 b b p (Lib.byteCells s.data.toList) w' := by
    rintro p ⟨h0, v, h1, h2, h3⟩
    refine ⟨h0, v, (hb.block b (Array.getElem?_eq_some_iff.1 h1).1).trans h1, ⟨h2.1, ?_⟩, h3⟩
    rcases h2.2 with hn | ⟨g, cap, cur, rfl, hg, hh, r⟩
    · exact .inl hn
    · exact .inr ⟨g, cap, cur, rfl, hg, (hb.block g (Array.getElem?_eq_some_iff.1 hh).1).trans hh, r⟩
  exact ⟨h.1.elim (fun h => .inl (one h)) (fun h => .inr (one h)), Nat.lt_of_lt_of_le h.2 hb.size⟩

theorem bld_WriteString (b : Nat) (s t : ByteArray) (w : World) (h : Bld w b s) (hz : s.size + t.size ≤ 1000000) :
    Calls Try.prog 55 #[.pointer (some ⟨b, 0, none⟩), .string t] w fun e w' => e = .returned (.tuple #[.int .i64 t.size, .nilIface]) ∧ Bld w' b (s ++ t) ∧ Below b w w' := by
  have h1 := Any.Builder_WriteString (P := Try.prog) (ρ := l105_ren) { l105 with } l105_extra b b (Lib.byteCells s.data.toList) t w h.1 (by rw [Lib.byteCells_length, ← Lib.size_eq]; omega) (Nat.le_of_lt h.2)
  refine Calls.mono (show Calls Try.prog 55 _ _ _ from h1) ?_
  rintro e w' ⟨he, hb, hbel⟩
  refine ⟨he, ⟨.inr ?_, Nat.lt_of_lt_of_le h.2 hbel.size⟩, hbel⟩
  have e1 : Lib.byteCells (s ++ t).data.toList = Lib.byteCells s.data.toList ++ Lib.strCells t := by
    rw [Lib.strCells_eq, ← Lib.byteCells_append]
    congr 1
  rw [e1]
  exact hb

theorem bld_String (b : Nat) (s : ByteArray) (w : World) (h : Bld w b s) :
    Calls Try.prog 59 #[.pointer (some ⟨b, 0, none⟩)] w fun e w' => e = .returned (.string s) ∧ Below b w w' := by
  have h1 := Any.Builder_String_any (P := Try.prog) (ρ := l105_ren) { l105 with } l105_extra b b s.data.toList w h.1 (Nat.le_of_lt h.2)
  refine Calls.mono (show Calls Try.prog 59 _ _ _ from h1) ?_
  rintro e w' ⟨he, hb⟩
  refine ⟨he.trans (by congr 2), hb⟩

/-- c bytes that are 0. -/
def zeros (c : Nat) : ByteArray := ⟨(List.replicate c 0).toArray⟩
theorem zeros_size (c : Nat) : (zeros c).size = c := by simp [zeros, ByteArray.size]

theorem lib_Repeat0 (c : Nat) (w : World) (hc : c ≤ 1000) :
    Calls Try.prog 56 #[.string ⟨#[0]⟩, .int .i64 c] w fun e w' => e = .returned (.string (zeros c)) ∧ Below w.heap.size w w' := by
  have h1 := Any.strings_Repeat (P := Try.prog) (ρ := l105_ren) l105 l105_extra ⟨#[0]⟩ c w (by omega) (by show 1 * c ≤ _; omega)
  refine Calls.mono (show Calls Try.prog 56 _ _ _ from h1) ?_
  rintro e w' ⟨he, hb⟩
  refine ⟨he.trans ?_, hb⟩
  have e : Lib.repeatL (ByteArray.mk #[0]).data.toList c = List.replicate c 0 := by
    have := Lib.repeatL_replicate (0 : UInt8) 1 c
    simpa using this
  rw [e]; rfl

end Go.Proofs.Ytonkjdjancnajaa
