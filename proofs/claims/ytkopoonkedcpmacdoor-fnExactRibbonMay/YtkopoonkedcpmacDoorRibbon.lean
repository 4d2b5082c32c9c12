/- RibbonMay, of the program and of the model: a user's equation. -/
import Derived.Test.YtkopoonkedcpmacDoorTz16
import Derived.Test.YtkopoonkedcpmacDoorHash
import Derived.Test.YtkopoonkedcpmacDoorFilter
import Derived.Test.YtkopoonkedcpmacDoorFRow
import Derived.Test.YtkopoonkedcpmacDoorNth
import Derived.Deep.RegionHeld3
namespace Go.Proofs.YtkopoonkedcpmacDoor
open Go.RowKit

/-- Byte i of a text. -/
def bn (bs : ByteArray) (i : Nat) : Nat := (bs.data.toList.getD i 0).toNat
theorem bn_lt (bs : ByteArray) (i : Nat) : bn bs i < 256 := UInt8.toNat_lt _
theorem nums_bn (bs : ByteArray) (i : Nat) (h : i < bs.size) : (numsOf bs)[i]? = some (bn bs i : Int) := by
  have h' : i < bs.data.toList.length := by simpa using h
  simp only [numsOf, List.getElem?_map, bn, List.getD]
  rw [List.getElem?_eq_getElem h']
  rfl

def placeOf (h n : Nat) : Nat := h / 4294967296 % (n - 15)
def rowOf (h : Nat) : Nat := h % 65536 ||| 1
def sumOf (h : Nat) : Nat := h / 65536 % 128
theorem rowOf_lt (h : Nat) : rowOf h < 65536 := Nat.or_lt_two_pow (n := 16) (by omega) (by omega)
theorem placeOf_lt (h n : Nat) (hn : 16 ≤ n) : placeOf h n + 16 ≤ n := by
  have : h / 4294967296 % (n - 15) < n - 15 := Nat.mod_lt _ (by omega)
  unfold placeOf; omega

def hashS (seed : Int) (u : ByteArray) : Nat := (hash seed u).toNat
theorem hashS_eq (seed : Int) (u : ByteArray) : hash seed u = (hashS seed u : Int) := by
  have := hash_bd seed u
  unfold hashS; omega
theorem hashS_lt (seed : Int) (u : ByteArray) : hashS seed u < 18446744073709551616 := by
  have := hash_bd seed u
  unfold hashS; omega

set_option maxHeartbeats 1000000 in
theorem impl_xorOf (bs : ByteArray) (g C pl row : Nat) (w : World) (hrow : FRow w g (numsOf bs)) (hpl : pl + 16 ≤ bs.size) (hbs : bs.size ≤ 1000) (hr : row < 65536) (hT : TabAt w) :
    Calls Tryd.prog 15 #[.slice (some ⟨g, 0, none⟩) bs.size C, .int .i64 pl, .int .u16 row] w fun e w' => e = .returned (.int .u8 (xb (bn bs) pl row 16 : Nat)) ∧ w = w' := by
  have HR := hide hrow
  have HT := hide hT
  clear hrow hT
  go_enter Tryd.func15, Tryd.ntmps15
  go_wp2
  go_loop [2, 7] (fun r s => ∃ (c x k : Nat), r = .int .u16 c ∧ s = .int .u8 x ∧ k ≤ 16 ∧ Hid (c = row / 2 ^ k * 2 ^ k ∧ x = xb (bn bs) pl row k)) (fun r _ => (intOf r).toNat)
  case atStart => exact ⟨row, 0, 0, rfl, rfl, by omega, by simp, rfl⟩
  case round =>
    obtain ⟨c, x, k, rfl, rfl, hk, HX⟩ := hrel
    by_cases h0 : c = 0
    · have hz : row / 2 ^ k = 0 := by
        have := HX.out.1
        rw [h0] at this
        rcases Nat.mul_eq_zero.1 this.symm with h | h
        · exact h
        · exact absurd h (Nat.ne_of_gt (Nat.pow_pos (by omega)))
      have HV : Hid (xb (bn bs) pl row 16 = x) := by
        show xb (bn bs) pl row 16 = x
        rw [HX.out.2, show 16 = k + (16 - k) by omega]
        refine xb_skip _ fun j hj _ => ?_
        obtain ⟨d, rfl⟩ : ∃ d, j = k + d := ⟨j - k, by omega⟩
        rw [Nat.pow_add, ← Nat.div_div_eq_div_mul, hz]
        simp
      subst h0
      clear hz HX
      go_wp2
      go_ret
      exact ⟨ret_int (by rw [HV.out]), rfl⟩
    · have hne : row / 2 ^ k ≠ 0 := fun e => h0 (by rw [HX.out.1, e, Nat.zero_mul])
      obtain ⟨z, m, hkz, hz, hcm, hctz, hzero, hone, hnext⟩ := left_low hne hr
      rw [← HX.out.1] at hcm hctz
      have hc16 : c < 65536 := by
        have : row / 2 ^ k * 2 ^ k ≤ row := Nat.div_mul_le_self _ _
        have := HX.out.1; omega
      have hcb : ((c : Int) == 0) = false := by simp; omega
      have htz := lib_tz16 c hc16 w HT.out
      rw [hctz] at htz
      have HZ := hide htz
      have hlt : pl + z < bs.size := by omega
      obtain ⟨hcell, _⟩ := HR.out (pl + z) _ (nums_bn bs (pl + z) hlt)
      have hb := bn_lt bs (pl + z)
      have hx256 : x < 256 := by rw [HX.out.2]; exact xb_lt (bn_lt bs) k
      have hxor : bits .xor .u8 (x : Int) (bn bs (pl + z) : Int) = ((x ^^^ bn bs (pl + z) : Nat) : Int) := u8_xor_nat _ _ hx256 hb
      have hand : bits .and .u16 (c : Int) ((c : Int) - 1) = ((2 ^ (z + 1) * m : Nat) : Int) := by
        rw [show (c : Int) - 1 = ((c - 1 : Nat) : Int) by omega, u16_and_nat c (c - 1) hc16 (by omega), hcm, and_pred]
      have hdec : 2 ^ (z + 1) * m < c := by
        rw [hcm, Nat.pow_succ, Nat.mul_add, Nat.mul_one, Nat.mul_assoc]
        have : 0 < (2 : Nat) ^ z := Nat.pow_pos (by omega)
        omega
      have HX2 : Hid (2 ^ (z + 1) * m = row / 2 ^ (z + 1) * 2 ^ (z + 1) ∧ x ^^^ bn bs (pl + z) = xb (bn bs) pl row (z + 1)) := by
        refine ⟨hnext.symm, ?_⟩
        rw [xb, if_pos hone]
        congr 1
        obtain ⟨d, rfl⟩ : ∃ d, z = k + d := ⟨z - k, by omega⟩
        rw [HX.out.2, xb_skip d fun j a b => hzero j a b]
      obtain ⟨b, hbe⟩ : ∃ b, bn bs (pl + z) = b := ⟨_, rfl⟩
      obtain ⟨c2, hce⟩ : ∃ c2, 2 ^ (z + 1) * m = c2 := ⟨_, rfl⟩
      obtain ⟨x2, hxe⟩ : ∃ x2, x ^^^ b = x2 := ⟨_, rfl⟩
      rw [hbe] at hxor hcell HX2 hb
      rw [hce] at hand hdec HX2
      rw [hxe] at hxor HX2
      have hc1 : 1 ≤ c := by omega
      clear h0 hne hcm hctz hzero hone hnext htz hbe hce hxe HX
      go_wp2_with fail
      refine HZ.out.mono ?_
      rintro e w4 ⟨rfl, rfl⟩
      go_wp2
      go_round
      case rel => exact ⟨c2, x2, z + 1, rfl, rfl, by omega, HX2⟩
      case measure => simp [intOf]; omega

theorem wrap64_in (n : Int) (h : -9223372036854775808 ≤ n ∧ n ≤ 9223372036854775807) : wrap64 n = n := by unfold wrap64; omega

theorem place_eq (H n : Nat) (hn : 16 ≤ n) (hn2 : n ≤ 1000) (d : Int) (hd : d = (n : Int) - 15) : wrap64 ((H : Int) / 4294967296 % d) = (placeOf H n : Nat) := by
  have e : (H : Int) / 4294967296 % d = ((H / 4294967296 % (n - 15) : Nat) : Int) := by
    rw [hd, show (n : Int) - 15 = ((n - 15 : Nat) : Int) by omega]
    simp
  have h1 : H / 4294967296 % (n - 15) < n - 15 := Nat.mod_lt _ (by omega)
  rw [e, wrap64_in _ (by omega)]
  rfl

theorem row_eq16 (H : Nat) : bits .or .u16 (IntKind.u16.wrap (H : Int)) 1 = (rowOf H : Nat) := by
  have e : IntKind.u16.wrap (H : Int) = ((H % 65536 : Nat) : Int) := by
    have : IntKind.u16.wrap (H : Int) = (H : Int) % 65536 := by simp [IntKind.wrap, IntKind.signed, IntKind.bits]
    omega
  rw [e]
  exact u16_or_nat (H % 65536) 1 (by omega) (by omega)

theorem row_eq64 (H : Nat) : bits .or .u64 ((H : Int) % 65536) 1 = (rowOf H : Nat) := by
  have e : (H : Int) % 65536 = ((H % 65536 : Nat) : Int) := by omega
  rw [e]
  exact u64_or_nat (H % 65536) 1 (by omega) (by omega)

theorem sum_eq (H : Nat) : (H : Int) / 65536 % 128 = (sumOf H : Nat) := by unfold sumOf; omega

set_option maxHeartbeats 1000000 in
theorem impl_equationOf (u : ByteArray) (sd n : Nat) (hu : u.size ≤ maxLen) (hs : sd ≤ 3) (hn : 16 ≤ n) (hn2 : n ≤ 1000) (w : World) :
    Calls Tryd.prog 14 #[.string u, .int .i64 sd, .int .i64 n] w fun e w' =>
      e = .returned (.agg #[.int .i64 (placeOf (hashS sd u) n : Nat), .int .u16 (rowOf (hashS sd u) : Nat), .int .u8 (sumOf (hashS sd u) : Nat)]) ∧ Below w.heap.size w w' := by
  have hH := fun wx => impl_Hash sd u hu (by omega) (by omega) wx
  rw [hashS_eq] at hH
  have hlt := hashS_lt sd u
  generalize hashS sd u = H at *
  have HS := hide hH
  clear hH
  go_enter Tryd.func14, Tryd.ntmps14
  go_wp2_with fail
  refine (HS.out _).mono ?_
  rintro e w1 ⟨rfl, rfl⟩
  go_wp2
  refine bodyPost_ret (v := .agg #[.int .i64 (wrap64 ((H : Int) / 4294967296 % ((n : Int) - 16 + 1))), .int .u16 (bits .or .u16 (IntKind.u16.wrap (H : Int)) 1), .int .u8 ((H : Int) / 65536 % 128)]) (by simp [results, Tryd.results14, go_sem]) rfl ⟨?_, (Below.refl _ _).alloc (Nat.le_refl _) _⟩
  rw [place_eq H n hn hn2 _ (by omega), row_eq16, sum_eq]

set_option maxHeartbeats 1000000 in
theorem spec_l4Row (u : ByteArray) (sd n : Nat) (hu : u.size ≤ maxLen) (hs : sd ≤ 3) (hn : 16 ≤ n) (hn2 : n ≤ 1000) (w : World) :
    Calls Tryd.prog 12 #[.string u, .int .i64 sd, .int .i64 n] w fun e w' =>
      e = .returned (.tuple #[.int .i64 (placeOf (hashS sd u) n : Nat), .int .u64 (rowOf (hashS sd u) : Nat), .int .u64 (sumOf (hashS sd u) : Nat)]) ∧ w = w' := by
  have hH := fun wx => spec_Hash sd u hu (by omega) (by omega) wx
  rw [hashS_eq] at hH
  have hlt := hashS_lt sd u
  generalize hashS sd u = H at *
  have HS := hide hH
  clear hH
  go_enter Tryd.func12, Tryd.ntmps12
  go_wp2_with fail
  refine (HS.out _).mono ?_
  rintro e w1 ⟨rfl, rfl⟩
  go_wp2
  refine bodyPost_ret (v := .tuple #[.int .i64 (wrap64 ((H : Int) / 4294967296 % ((n : Int) - 15))), .int .u64 (bits .or .u64 ((H : Int) % 65536) 1), .int .u64 ((H : Int) / 65536 % 128)]) (by simp [results, Tryd.results12]) rfl ⟨?_, rfl⟩
  rw [place_eq H n hn hn2 _ rfl, row_eq64, sum_eq]

/-- Whether a user's equation holds. -/
def eqnB (sd : Int) (bs u : ByteArray) : Bool := xb (bn bs) (placeOf (hashS sd u) bs.size) (rowOf (hashS sd u)) 16 == sumOf (hashS sd u)
def ribB (kd sd pr : Int) (bs u : ByteArray) : Bool := if kd = 2 ∧ filterOkB kd sd pr bs = true then eqnB sd bs u else true
theorem rib_no {kd sd pr : Int} {bs u : ByteArray} (h : ¬ kd = 2) : ribB kd sd pr bs u = true := by unfold ribB; rw [if_neg (fun e => h e.1)]
theorem rib_bad {kd sd pr : Int} {bs u : ByteArray} (h : filterOkB kd sd pr bs = false) : ribB kd sd pr bs u = true := by unfold ribB; rw [if_neg (fun e => by rw [h] at e; exact absurd e.2 (by simp))]
theorem rib_yes {sd pr : Int} {bs u : ByteArray} (h : filterOkB 2 sd pr bs = true) : ribB 2 sd pr bs u = eqnB sd bs u := by unfold ribB; rw [if_pos ⟨rfl, h⟩]
theorem ribOk_bd {sd pr : Int} {bs : ByteArray} (h : filterOkB 2 sd pr bs = true) : pr = 0 ∧ 0 ≤ sd ∧ sd ≤ 3 ∧ 20 ≤ bs.size ∧ bs.size ≤ 600 := by
  have e : filterOkB 2 sd pr bs = (decide (pr = 0 ∧ 0 ≤ sd ∧ sd ≤ 3 ∧ 20 ≤ bs.size ∧ bs.size ≤ 600) && sumsB bs) := rfl
  rw [e, Bool.and_eq_true] at h
  exact of_decide_eq_true h.1

theorem ret_boolR {a b : Bool} (h : a = b) : Ending.returned (.bool a) = .returned (.bool b) := by rw [h]

set_option maxHeartbeats 1000000 in
theorem spec_RibbonMay (kd sd pr : Int) (bs user : ByteArray) (hb : bs.size ≤ maxLen) (hu : user.size ≤ maxLen) (w : World) :
    Calls Tryd.prog 6 #[.agg #[.int .i64 kd, .int .i64 sd, .int .i64 pr, .string bs], .string user] w fun e w' => e = .returned (.bool (ribB kd sd pr bs user)) ∧ Below w.heap.size w w' := by
  have hB := Below.refl (w.alloc (.cells #[.int .i64 kd, .int .i64 sd, .int .i64 pr, .string bs] 26)).heap.size (w.alloc (.cells #[.int .i64 kd, .int .i64 sd, .int .i64 pr, .string bs] 26))
  by_cases k1 : kd = 2
  · subst k1
    cases ho : filterOkB 2 sd pr bs with
    | false =>
      have HV : Hid (true = ribB 2 sd pr bs user) := (rib_bad ho).symm
      go_enter Tryd.func6, Tryd.ntmps6
      go_wp2_with fail
      refine (calls_from hB (spec_FilterOk 2 sd pr bs hb _)).mono ?_
      try clear hC hF hZ
      clear hB
      rintro e w1 ⟨rfl, hB⟩
      obtain ⟨hC, hF, hZ⟩ := bfacts hB
      go_wp2
      go_ret
      exact ⟨ret_boolR HV.out, below_of_alloc hB⟩
    | true =>
      obtain ⟨rfl, p1, p2, z1, z2⟩ := ribOk_bd ho
      obtain ⟨S, rfl⟩ := Int.eq_ofNat_of_zero_le p1
      have HV : Hid (eqnB S bs user = ribB 2 S 0 bs user) := (rib_yes ho).symm
      have z1' : (20 : Int) ≤ (bs.size : Int) := by omega
      have z2' : (bs.size : Int) ≤ 600 := by omega
      have hS3 : S ≤ 3 := by omega
      go_enter Tryd.func6, Tryd.ntmps6
      go_wp2_with fail
      refine (calls_from hB (spec_FilterOk 2 S 0 bs hb _)).mono ?_
      try clear hC hF hZ
      clear hB
      rintro e w1 ⟨rfl, hB⟩
      obtain ⟨hC, hF, hZ⟩ := bfacts hB
      have hc1 : w1.cell? ⟨w.heap.size, 1, none⟩ = some (.int .i64 S) := by rw [hC _ _ (by simp)]; simp
      have hc3 : w1.cell? ⟨w.heap.size, 3, none⟩ = some (.string bs) := by rw [hC _ _ (by simp)]; simp
      have HB : Hid _ := hB
      clear hB hC hF hZ
      go_wp2_with fail
      clear ho
      refine (spec_l4Row user S bs.size hu hS3 (by omega) (by omega) _).mono ?_
      rintro e w2 ⟨rfl, rfl⟩
      have HE : Hid (eqnB S bs user = (xb (bn bs) (placeOf (hashS S user) bs.size) (rowOf (hashS S user)) 16 == sumOf (hashS S user))) := rfl
      have hpl := placeOf_lt (hashS S user) bs.size (by omega)
      have hrw := rowOf_lt (hashS S user)
      have hsm : sumOf (hashS S user) < 128 := Nat.mod_lt _ (by omega)
      generalize placeOf (hashS S user) bs.size = pl at *
      generalize rowOf (hashS S user) = rw' at *
      generalize sumOf (hashS S user) = sm at *
      go_wp2
      go_loop [7, 8] (fun s i => ∃ (k x : Nat), s = .int .u64 x ∧ i = .int .i64 k ∧ k ≤ 16 ∧ x < 256 ∧ Hid (x = sm ^^^ xb (bn bs) pl rw' k)) (fun _ i => 16 - (intOf i).toNat)
      case atStart => exact ⟨0, sm, rfl, rfl, by omega, by omega, by show sm = sm ^^^ 0; simp⟩
      case round =>
        obtain ⟨k, x, rfl, rfl, hk, hx, HX⟩ := hrel
        by_cases hlt : k < 16
        · have hq : ((rw' : Int) / 2 ^ k) = ((rw' / 2 ^ k : Nat) : Int) := by simp
          have hq2 : rw' / 2 ^ k ≤ rw' := Nat.div_le_self _ _
          obtain ⟨q, hqe⟩ : ∃ q, rw' / 2 ^ k = q := ⟨_, rfl⟩
          rw [hqe] at hq hq2
          have hi : pl + k < bs.size := by omega
          by_cases hbit : q % 2 = 1
          · have hbB : ((q : Int) % 2 == 1) = true := by simp; omega
            have hxn : bits .xor .u64 (x : Int) (IntKind.u64.wrap (((bs[pl + k]'hi).toNat : Nat) : Int)) = ((x ^^^ bn bs (pl + k) : Nat) : Int) := by
              have := numsOf_get bs (pl + k) hi
              rw [nums_bn bs (pl + k) hi] at this
              simp only [Option.some.injEq] at this
              have hb := bn_lt bs (pl + k)
              rw [← this, IntKind.wrap_u64, show (bn bs (pl + k) : Int) % 18446744073709551616 = (bn bs (pl + k) : Int) by omega]
              exact u64_xor_nat _ _ (by omega) (by omega)
            have hx2 : x ^^^ bn bs (pl + k) < 256 := Nat.xor_lt_two_pow (n := 8) hx (bn_lt bs _)
            have HX2 : Hid (x ^^^ bn bs (pl + k) = sm ^^^ xb (bn bs) pl rw' (k + 1)) := by
              show _ = _
              rw [xb, hqe, if_pos hbit, HX.out, Nat.xor_assoc]
            obtain ⟨y, hy⟩ : ∃ y, x ^^^ bn bs (pl + k) = y := ⟨_, rfl⟩
            rw [hy] at hxn hx2 HX2
            clear hqe HX hbit hy
            go_wp2
            go_round
            case rel => exact ⟨k + 1, y, rfl, by go_num, by omega, hx2, HX2⟩
            case measure => simp [intOf]; omega
          · have hbB : ((q : Int) % 2 == 1) = false := by simp; omega
            have HX2 : Hid (x = sm ^^^ xb (bn bs) pl rw' (k + 1)) := by
              show _ = _
              rw [xb, hqe, if_neg hbit]; exact HX.out
            clear hqe HX hbit
            go_wp2
            go_round
            case rel => exact ⟨k + 1, x, rfl, by go_num, by omega, hx, HX2⟩
            case measure => simp [intOf]; omega
        · obtain rfl : k = 16 := by omega
          have HV2 : Hid (((x : Int) == 0) = ribB 2 S 0 bs user) := by
            show _ = _
            rw [← HV.out, HE.out, HX.out, Bool.eq_iff_iff]
            simp only [beq_iff_eq]
            constructor
            · intro h
              have h2 : sm ^^^ xb (bn bs) pl rw' 16 = 0 := by omega
              have h3 := congrArg (fun y => y ^^^ xb (bn bs) pl rw' 16) h2
              simp only [Nat.xor_assoc, Nat.xor_self, Nat.xor_zero, Nat.zero_xor] at h3
              exact h3.symm
            · intro h
              rw [h, Nat.xor_self]; rfl
          clear HX HE
          go_wp2
          go_ret
          exact ⟨ret_boolR HV2.out, below_of_alloc HB.out⟩
  · have k2 : (kd == 2) = false := by simp [k1]
    have HV : Hid (true = ribB kd sd pr bs user) := (rib_no k1).symm
    go_enter Tryd.func6, Tryd.ntmps6
    go_wp2
    go_ret
    exact ⟨ret_boolR HV.out, below_of_alloc hB⟩

theorem rib_kept {W : World} {g h : Nat} {a b c d : Value} (hgh : g < h) (wa wb : World)
    (hS : wa.cell? ⟨g, 3, none⟩ = some a ∧ wa.cell? ⟨h, 0, none⟩ = some b ∧ wa.cell? ⟨h, 1, none⟩ = some c ∧ wa.cell? ⟨h, 2, none⟩ = some d ∧ Hid (Below W.heap.size W wa ∧ h < wa.heap.size)) (hb : Below wa.heap.size wa wb) :
    wb.cell? ⟨g, 3, none⟩ = some a ∧ wb.cell? ⟨h, 0, none⟩ = some b ∧ wb.cell? ⟨h, 1, none⟩ = some c ∧ wb.cell? ⟨h, 2, none⟩ = some d ∧ Hid (Below W.heap.size W wb ∧ h < wb.heap.size) := by
  obtain ⟨c0, c1, c2, c3, hB, hz⟩ := hS
  exact ⟨(hb.cell (p := ⟨g, _, none⟩) (by show g < _; omega)).trans c0, (hb.cell (p := ⟨h, _, none⟩) hz).trans c1, (hb.cell (p := ⟨h, _, none⟩) hz).trans c2, (hb.cell (p := ⟨h, _, none⟩) hz).trans c3, hB.trans (hb.mono hB.size), Nat.lt_of_lt_of_le hz hb.size⟩

set_option maxHeartbeats 4000000 in
set_option maxRecDepth 100000 in
theorem impl_RibbonMay (kd sd pr : Int) (bs user : ByteArray) (hb : bs.size ≤ maxLen) (hu : user.size ≤ maxLen) (w : World) (hT : TabAt w) :
    Calls Tryd.prog 8 #[.agg #[.int .i64 kd, .int .i64 sd, .int .i64 pr, .string bs], .string user] w fun e w' => e = .returned (.bool (ribB kd sd pr bs user)) ∧ Below w.heap.size w w' := by
  have HT := hide hT
  clear hT
  have hB := Below.refl (w.alloc (.cells #[.int .i64 kd, .int .i64 sd, .int .i64 pr, .string bs] 26)).heap.size (w.alloc (.cells #[.int .i64 kd, .int .i64 sd, .int .i64 pr, .string bs] 26))
  by_cases k1 : kd = 2
  · subst k1
    cases ho : filterOkB 2 sd pr bs with
    | false =>
      have HV : Hid (true = ribB 2 sd pr bs user) := (rib_bad ho).symm
      go_enter Tryd.func8, Tryd.ntmps8
      go_wp2_with fail
      refine (calls_from hB (impl_FilterOk 2 sd pr bs hb _)).mono ?_
      try clear hC hF hZ
      clear hB
      rintro e w1 ⟨rfl, hB⟩
      obtain ⟨hC, hF, hZ⟩ := bfacts hB
      go_wp2
      go_ret
      exact ⟨ret_boolR HV.out, below_of_alloc hB⟩
    | true =>
      obtain ⟨rfl, p1, p2, z1, z2⟩ := ribOk_bd ho
      obtain ⟨S, rfl⟩ := Int.eq_ofNat_of_zero_le p1
      have HV : Hid (eqnB S bs user = ribB 2 S 0 bs user) := (rib_yes ho).symm
      have z1' : (20 : Int) ≤ (bs.size : Int) := by omega
      have z2' : (bs.size : Int) ≤ 600 := by omega
      have hS3 : S ≤ 3 := by omega
      go_enter Tryd.func8, Tryd.ntmps8
      go_wp2_with fail
      refine (calls_from hB (impl_FilterOk 2 S 0 bs hb _)).mono ?_
      try clear hC hF hZ
      clear hB
      rintro e w1 ⟨rfl, hB⟩
      obtain ⟨hC, hF, hZ⟩ := bfacts hB
      have hc1 : w1.cell? ⟨w.heap.size, 1, none⟩ = some (.int .i64 S) := by rw [hC _ _ (by simp)]; simp
      have hc3 : w1.cell? ⟨w.heap.size, 3, none⟩ = some (.string bs) := by rw [hC _ _ (by simp)]; simp
      have HB : Hid (Below w.heap.size w w1 ∧ w.heap.size < w1.heap.size) := ⟨below_of_alloc hB, by have := hB.size; simp at this; omega⟩
      clear hB hC hF hZ
      go_wp2_with fail
      clear ho
      refine (impl_equationOf user S bs.size hu hS3 (by omega) (by omega) _).mono ?_
      rintro e w2 ⟨rfl, hb2⟩
      have HE : Hid (eqnB S bs user = (xb (bn bs) (placeOf (hashS S user) bs.size) (rowOf (hashS S user)) 16 == sumOf (hashS S user))) := rfl
      have hpl := placeOf_lt (hashS S user) bs.size (by omega)
      have hrw := rowOf_lt (hashS S user)
      have hsm : sumOf (hashS S user) < 128 := Nat.mod_lt _ (by omega)
      generalize placeOf (hashS S user) bs.size = pl at *
      generalize rowOf (hashS S user) = rw' at *
      generalize sumOf (hashS S user) = sm at *
      have hz12 := hb2.size
      have hc3' : w2.cell? ⟨w.heap.size, 3, none⟩ = some (.string bs) := (hb2.cell (p := ⟨w.heap.size, 3, none⟩) HB.out.2).trans hc3
      have HB2 : Hid (Below w.heap.size w w2 ∧ w.heap.size < w2.heap.size) := ⟨HB.out.1.trans (hb2.mono HB.out.1.size), by have := HB.out.2; omega⟩
      clear hb2 hc1 hc3 hz12
      go_wp2_with fail
      obtain ⟨W4, hW4⟩ : ∃ W4, w2.alloc (.cells #[.int .i64 pl, .int .u16 rw', .int .u8 sm] 36) = W4 := ⟨_, rfl⟩
      have hstart : W4.drew.cell? ⟨w.heap.size, 3, none⟩ = some (.string bs) ∧ W4.drew.cell? ⟨w2.heap.size, 0, none⟩ = some (.int .i64 pl) ∧ W4.drew.cell? ⟨w2.heap.size, 1, none⟩ = some (.int .u16 rw') ∧ W4.drew.cell? ⟨w2.heap.size, 2, none⟩ = some (.int .u8 sm) ∧ Hid (Below w.heap.size w W4.drew ∧ w2.heap.size < W4.drew.heap.size) := by
        have hlt := HB2.out.2
        subst hW4
        have hb4 := (Below.refl w2.heap.size w2).alloc (Nat.le_refl _) (.cells #[.int .i64 pl, .int .u16 rw', .int .u8 sm] 36)
        refine ⟨?_, ?_, ?_, ?_, (HB2.out.1.trans (hb4.mono (by omega))).drew, by simp⟩
        · exact (hb4.cell (p := ⟨w.heap.size, 3, none⟩) hlt).trans hc3'
        · simp
        · simp
        · simp
      rw [hW4]
      clear hc3' hW4
      refine wp_region_noPanic ?_
      refine wp_region_held_drew (S := (fun (w' : World) => w'.cell? ⟨w.heap.size, 3, none⟩ = some (.string bs) ∧ w'.cell? ⟨w2.heap.size, 0, none⟩ = some (.int .i64 pl) ∧ w'.cell? ⟨w2.heap.size, 1, none⟩ = some (.int .u16 rw') ∧ w'.cell? ⟨w2.heap.size, 2, none⟩ = some (.int .u8 sm) ∧ Hid (Below w.heap.size w w' ∧ w2.heap.size < w'.heap.size))) (by kernel_rfl) hstart (fun hH => ?_)
      clear hstart
      generalize W4.drew = Wd at *
      refine wpAnyH_take (i := 0) (v := .pointer (some ⟨w.heap.size, 3, none⟩)) nat0 (by kernel_rfl) (by kernel_rfl) (by kernel_rfl) (fun _ _ _ h => False.elim h) (Or.inl ⟨by rfl, ?_⟩) hH ?_
      · intro wx hSw
        go_simp
      simp only [Act.put, List.setIfInBounds_toArray, List.set_cons_zero, List.set_cons_succ]
      refine wpAnyH_take (i := 1) (v := .string bs) nat1 (by kernel_rfl) (by kernel_rfl) (by kernel_rfl) (fun _ _ _ h => False.elim h) (Or.inl ⟨by rfl, ?_⟩) hH ?_
      · intro wx hSw
        go_simp
      simp only [Act.put, List.setIfInBounds_toArray, List.set_cons_zero, List.set_cons_succ]
      refine wpAnyH_take (i := 3) (v := .pointer (some ⟨w2.heap.size, 0, none⟩)) nat3 (by kernel_rfl) (by kernel_rfl) (by kernel_rfl) (fun _ _ _ h => False.elim h) (Or.inl ⟨by rfl, ?_⟩) hH ?_
      · intro wx hSw
        go_simp
      simp only [Act.put, List.setIfInBounds_toArray, List.set_cons_zero, List.set_cons_succ]
      refine wpAnyH_take (i := 4) (v := .int .i64 pl) nat4 (by kernel_rfl) (by kernel_rfl) (by kernel_rfl) (fun _ _ _ h => False.elim h) (Or.inl ⟨by rfl, ?_⟩) hH ?_
      · intro wx hSw
        go_simp
      simp only [Act.put, List.setIfInBounds_toArray, List.set_cons_zero, List.set_cons_succ]
      refine wpAnyH_take (i := 5) (v := .pointer (some ⟨w2.heap.size, 1, none⟩)) nat5 (by kernel_rfl) (by kernel_rfl) (by kernel_rfl) (fun _ _ _ h => False.elim h) (Or.inl ⟨by rfl, ?_⟩) hH ?_
      · intro wx hSw
        go_simp
      simp only [Act.put, List.setIfInBounds_toArray, List.set_cons_zero, List.set_cons_succ]
      refine wpAnyH_take (i := 6) (v := .int .u16 rw') nat6 (by kernel_rfl) (by kernel_rfl) (by kernel_rfl) (fun _ _ _ h => False.elim h) (Or.inl ⟨by rfl, ?_⟩) hH ?_
      · intro wx hSw
        go_simp
      simp only [Act.put, List.setIfInBounds_toArray, List.set_cons_zero, List.set_cons_succ]
      refine wpAnyH_take (i := 8) (v := .pointer (some ⟨w2.heap.size, 2, none⟩)) nat8 (by kernel_rfl) (by kernel_rfl) (by kernel_rfl) (fun _ _ _ h => False.elim h) (Or.inl ⟨by rfl, ?_⟩) hH ?_
      · intro wx hSw
        go_simp
      simp only [Act.put, List.setIfInBounds_toArray, List.set_cons_zero, List.set_cons_succ]
      refine wpAnyH_take (i := 9) (v := .int .u8 sm) nat9 (by kernel_rfl) (by kernel_rfl) (by kernel_rfl) (fun _ _ _ h => False.elim h) (Or.inl ⟨by rfl, ?_⟩) hH ?_
      · intro wx hSw
        go_simp
      simp only [Act.put, List.setIfInBounds_toArray, List.set_cons_zero, List.set_cons_succ]
      obtain ⟨C, w5, hcv, hrow, hbel⟩ := fresh_row Wd bs
      refine wpAnyH_ready (rs := [2]) (by kernel_rfl) (by simp) ?_
      refine AllReadyH.cons nat2 (fun K hK => ?_) AllReadyH.nil
      have hS5 := rib_kept (W := w) HB2.out.2 Wd w5 hH hbel
      have HT5 := HT.out.below hS5.2.2.2.2.out.1 HT.out.pos
      go_simp
      refine hK.out _ _ hS5 (fun hH5 => ?_)
      clear hK K hH hcv
      refine wpAnyH_ready (rs := [7]) (by kernel_rfl) (by simp) ?_
      refine AllReadyH.cons nat7 (fun K hK => ?_) AllReadyH.nil
      go_simp
      go_at_call 15
      refine (impl_xorOf bs _ C pl rw' _ hrow hpl (by omega) hrw HT5).mono ?_
      rintro e w6 ⟨rfl, rfl⟩
      refine hK.out _ _ hH5 (fun hH6 => ?_)
      clear hK K
      have hx256 := xb_lt (pl := pl) (row := rw') (bn_lt bs) 16
      have HV2 : Hid ((((xb (bn bs) pl rw' 16 : Nat) : Int) == (sm : Int)) = ribB 2 S 0 bs user) := by
        show _ = _
        rw [← HV.out, HE.out, Bool.eq_iff_iff]
        simp only [beq_iff_eq]
        omega
      obtain ⟨x, hxe⟩ : ∃ x, xb (bn bs) pl rw' 16 = x := ⟨_, rfl⟩
      rw [hxe] at HV2 hx256 ⊢
      clear hxe HE
      refine wpAnyH_take (i := 10) (v := .bool ((x : Int) == (sm : Int))) nat10 (by kernel_rfl) (by kernel_rfl) (by kernel_rfl) (fun _ _ _ h => False.elim h) (Or.inl ⟨by rfl, ?_⟩) hH6 ?_
      · intro wx hSw
        go_simp
      simp only [Act.put, List.setIfInBounds_toArray, List.set_cons_zero, List.set_cons_succ]
      refine wpAnyH_take (i := 11) (v := .bool ((x : Int) == (sm : Int))) nat11 (by kernel_rfl) (by kernel_rfl) (by kernel_rfl) (fun _ _ _ h => False.elim h) (Or.inl ⟨by rfl, ?_⟩) hH6 ?_
      · intro wx hSw
        go_simp
      simp only [Act.put, List.setIfInBounds_toArray, List.set_cons_zero, List.set_cons_succ]
      refine wpAnyH_done (by kernel_rfl) ?_ _
      refine NoPanic.normal ?_
      have HB6 := hide hH6.2.2.2.2.out.1
      clear hH6 hH5 hS5 hbel hrow
      go_wp2
      go_ret
      exact ⟨ret_boolR HV2.out, HB6.out⟩
  · have k2 : (kd == 2) = false := by simp [k1]
    have HV : Hid (true = ribB kd sd pr bs user) := (rib_no k1).symm
    go_enter Tryd.func8, Tryd.ntmps8
    go_wp2
    go_ret
    exact ⟨ret_boolR HV.out, below_of_alloc hB⟩

end Go.Proofs.YtkopoonkedcpmacDoor
