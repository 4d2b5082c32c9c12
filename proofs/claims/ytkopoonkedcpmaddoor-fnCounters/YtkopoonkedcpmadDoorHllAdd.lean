/- HllAdd, of the program and of the model. -/
import Derived.Test.YtkopoonkedcpmadDoorTz
import Derived.Test.YtkopoonkedcpmadDoorHash
import Derived.Test.YtkopoonkedcpmadDoorUsers
import Derived.Test.YtkopoonkedcpmadDoorHllText
import Derived.Test.YtkopoonkedcpmadDoorHllOk
import Derived.Test.YtkopoonkedcpmadDoorFRow
import Derived.Test.YtkopoonkedcpmadDoorNth
namespace Go.Proofs.YtkopoonkedcpmadDoor
open Go.RowKit Go.Deep

def hashN (s : ByteArray) : Nat := (hash 7 s).toNat
theorem hashN_eq (s : ByteArray) : hash 7 s = (hashN s : Int) := by
  have := hash_bd 7 s
  unfold hashN; omega
theorem hashN_lt (s : ByteArray) : hashN s < 18446744073709551616 := by
  have := hash_bd 7 s
  unfold hashN; omega

theorem set_same {l : List Int} {p : Nat} {x : Int} (h : l[p]? = some x) : l.set p x = l := by
  apply List.ext_getElem?
  intro i
  by_cases e : p = i
  · subst e
    rw [List.getElem?_set_self (List.getElem?_eq_some_iff.1 h).1, h]
  · rw [List.getElem?_set_ne e]

/-- Registers that have counted one user more. -/
def addL (l : List Int) (u : ByteArray) : List Int :=
  l.set (hashN u % 64) (if l.getD (hashN u % 64) 0 < (rankOf (hashN u / 64) : Nat) then ((rankOf (hashN u / 64) : Nat) : Int) else l.getD (hashN u % 64) 0)

theorem addL_is {l : List Int} (h : IsRegs l) (u : ByteArray) : IsRegs (addL l u) := by
  have hr := rankOf_bd (hashN u / 64)
  refine ⟨by simpa [addL] using h.1, fun x hx => ?_⟩
  rcases List.mem_or_eq_of_mem_set hx with hx | rfl
  · exact h.2 x hx
  · have hp : hashN u % 64 < l.length := by rw [h.1]; omega
    have := h.2 _ (List.getElem_mem hp)
    have e : l.getD (hashN u % 64) 0 = l[hashN u % 64] := by rw [List.getD, List.getElem?_eq_getElem hp]; rfl
    rw [e]
    split <;> omega

theorem addL_at {l : List Int} {u : ByteArray} {x : Int} (hx : l[hashN u % 64]? = some x) :
    addL l u = l.set (hashN u % 64) (if x < (rankOf (hashN u / 64) : Nat) then ((rankOf (hashN u / 64) : Nat) : Int) else x) := by
  have e : l.getD (hashN u % 64) 0 = x := by rw [List.getD, hx]; rfl
  unfold addL
  rw [e]

def hllAdd (h u : ByteArray) : ByteArray := if hllB h && userB u then strOfNums (addL (numsOf h) u) else ⟨#[]⟩
theorem hllAdd_no {h u : ByteArray} (x : hllB h = false ∨ userB u = false) : hllAdd h u = ⟨#[]⟩ := by
  unfold hllAdd
  rcases x with x | x <;> rw [x] <;> simp
theorem hllAdd_yes {h u : ByteArray} (a : hllB h = true) (b : userB u = true) : hllAdd h u = strOfNums (addL (numsOf h) u) := by
  unfold hllAdd
  rw [a, b]; rfl

set_option maxHeartbeats 2000000 in
set_option maxRecDepth 100000 in
/-- The program's count of one user more. -/
theorem impl_with (l : List Int) (hl : IsRegs l) (u : ByteArray) (hu : u.size ≤ maxLen) (w : World) (hT : TabAt w) :
    Calls Tryd.prog 13 #[.agg (vals l), .string u] w fun e w' => e = .returned (.agg (vals (addL l u))) ∧ Below w.heap.size w w' := by
  have hz := zero_regs
  have HL := hide hl
  have HT := hide hT
  obtain ⟨x, hx⟩ : ∃ x, l[hashN u % 64]? = some x := ⟨_, List.getElem?_eq_getElem (by rw [hl.1]; omega)⟩
  have hx1 := hl.2 x (List.mem_of_getElem? hx)
  have HA := hide (addL_at hx)
  have hr := rankOf_bd (hashN u / 64)
  have hH := hashN_lt u
  have hHe := hashN_eq u
  have hctz : Hid (Hid (rankOf (hashN u / 64) = min (1 + Lib.ctz 64 (hashN u / 64)) 58)) := rfl
  generalize hHn : hashN u = H at *
  generalize hR : rankOf (H / 64) = R at *
  have hspec := fun wx => impl_Hash 7 u hu (by omega) (by omega) wx
  rw [hHe] at hspec
  have HS := hide hspec
  clear hspec hHe hl hT
  go_enter Tryd.func13, Tryd.ntmps13
  go_wp2_with fail
  obtain ⟨W2, hW2⟩ : ∃ W2, (w.alloc (.cells (vals l) 34)).alloc (.cells (vals zeros) 34) = W2 := ⟨_, rfl⟩
  have E0 := hide (heap_alloc2_old w (.cells (vals l) 34) (.cells (vals zeros) 34))
  have E1 := hide (heap_alloc2_new w (.cells (vals l) 34) (.cells (vals zeros) 34))
  have HB := hide (((Below.refl w.heap.size w).alloc (Nat.le_refl _) (.cells (vals l) 34)).alloc (by simp) (.cells (vals zeros) 34))
  rw [hW2] at E0 E1 HB ⊢
  have hT2 := HT.out.below HB.out HT.out.pos
  clear hW2
  refine (HS.out _).mono ?_
  rintro e w3 ⟨rfl, rfl⟩
  have htz := lib_tz64 (H / 64) (by omega) W2 hT2
  have HZ := hide htz
  have hq : (H : Int) / 64 = ((H / 64 : Nat) : Int) := by omega
  have hpp : (H : Int) % 64 = ((H % 64 : Nat) : Int) := by omega
  have hp64 : H % 64 < 64 := by omega
  obtain ⟨p, hpe⟩ : ∃ p, H % 64 = p := ⟨_, rfl⟩
  obtain ⟨q, hqe⟩ : ∃ q, H / 64 = q := ⟨_, rfl⟩
  rw [hpe] at hpp hp64 hx HA
  rw [hqe] at hq HZ hctz
  have hc : W2.cell? ⟨w.heap.size, p, none⟩ = some (.int .u8 x) := by rw [cell_of_row _ _ _ _ _ _ E0.out, vals_get, hx]; rfl
  have hf : W2.frozen? ⟨w.heap.size, p, none⟩ = false := frozen_of_row _ _ _ _ _ E0.out
  have hcl := ctz_le q
  obtain ⟨c, hce⟩ : ∃ c, Lib.ctz 64 q = c := ⟨_, rfl⟩
  rw [hce] at HZ hctz hcl
  obtain ⟨z, hz'⟩ : ∃ z, (if x < (R : Int) then (R : Int) else x) = z := ⟨_, rfl⟩
  rw [hz'] at HA
  have hz1 : 0 ≤ z ∧ z ≤ 58 := by rw [← hz']; split <;> omega
  have ea' := heap_setCell_same W2 w.heap.size p (vals l) _ (.int .u8 z) E0.out
  rw [vals_set, ← HA.out] at ea'
  have eb' := heap_setCell_other W2 ⟨w.heap.size, p, none⟩ (w.heap.size + 1) (.int .u8 z) (by simp)
  rw [E1.out] at eb'
  have hAl := addL_is HL.out u
  have hst := st_row (P := Tryd.prog) _ _ _ _ (vals (addL l u)) eb' (by rw [vals_size, vals_size, hAl.1]; rfl) (vals_one _)
  have hsz := vals_size (addL l u)
  rw [hAl.1] at hsz
  have EA := hide ea'
  have EB := hide eb'
  have HAl := hide hAl
  have hR : (if (58 : Int) < 1 + (c : Int) then 58 else 1 + (c : Int)) = (R : Int) := by
    have := hctz.out.out
    split <;> omega
  clear htz hT2 hpe hqe hx hHn hce ea' eb' hAl
  go_wp2_with fail
  refine HZ.out.mono ?_
  rintro e w4 ⟨rfl, rfl⟩
  go_wp2_with (refine wpList_load_row rfl 34 _ rfl w.heap.size rfl 34 (vals (addL l u)) (0, 0) _ EA.out Tryd.underlying34 rfl (regs_size HAl.out) ?_)
  exact bodyPost_ret (v := .agg (vals (addL l u))) (results_cell_row Tryd.results13 _ _ _ _ _ _ _ rfl (setRow_heap _ _ _ (vals (addL l u)) _ _ EB.out) Tryd.underlying34 rfl (regs_size HAl.out)) rfl
    ⟨rfl, below_setRow (Below.setCell HB.out (Nat.le_refl _) _) (by omega) _⟩

set_option maxHeartbeats 2000000 in
set_option maxRecDepth 100000 in
theorem spec_HllAdd (h u : ByteArray) (hu : u.size ≤ maxLen) (w : World) :
    Calls Tryd.prog 16 #[.string h, .string u] w fun e w' => e = .returned (.string (hllAdd h u)) ∧ Below w.heap.size w w' := by
  cases hh : hllB h with
  | false =>
    have HV := hide (hllAdd_no (h := h) (u := u) (Or.inl hh))
    have ch := hh ▸ spec_HllOk h
    clear hh
    go_enter Tryd.func16, Tryd.ntmps16
    go_wp2_with fail
    refine (ch _).mono ?_
    rintro e w1 ⟨rfl, rfl⟩
    go_wp2
    go_ret
    exact ⟨ret_str HV.out.symm, Below.refl _ _⟩
  | true =>
    have ch := hh ▸ spec_HllOk h
    have HL := hide (hllB_out hh)
    cases huB : userB u with
    | false =>
      have HV := hide (hllAdd_no (h := h) (u := u) (Or.inr huB))
      have cu := huB ▸ spec_l2User u
      clear hh
      go_enter Tryd.func16, Tryd.ntmps16
      go_wp2_with fail
      refine (ch _).mono ?_
      rintro e w1 ⟨rfl, rfl⟩
      go_wp2_with fail
      refine (cu _).mono ?_
      rintro e w1 ⟨rfl, rfl⟩
      go_wp2
      go_ret
      exact ⟨ret_str HV.out.symm, Below.refl _ _⟩
    | true =>
      have HV := hide (hllAdd_yes hh huB)
      have cu := huB ▸ spec_l2User u
      have hs64 : h.size = 64 := by rw [← numsOf_len]; exact HL.out.1
      obtain ⟨C, w1, hcv, hrow, hbel⟩ := fresh_row w h
      rw [hs64] at hcv
      obtain ⟨x, hx⟩ : ∃ x, (numsOf h)[hashN u % 64]? = some x := ⟨_, List.getElem?_eq_getElem (by rw [HL.out.1]; omega)⟩
      have hx1 := HL.out.2 x (List.mem_of_getElem? hx)
      have HA := hide (addL_at hx)
      have hH := hashN_lt u
      have hspec := fun wx => spec_Hash 7 u hu (by omega) (by omega) wx
      rw [hashN_eq u] at hspec
      have HAl := hide (addL_is HL.out u)
      obtain ⟨H, hHn⟩ : ∃ H, hashN u = H := ⟨_, rfl⟩
      rw [hHn] at hH hspec hx HA
      have HS := hide hspec
      obtain ⟨hc, hf⟩ := hrow _ x hx
      have hr := rankOf_bd (H / 64)
      have hpp : (H : Int) % 64 = ((H % 64 : Nat) : Int) := by omega
      have hp64 : H % 64 < 64 := by omega
      have hset := hrow.set (H % 64) ((rankOf (H / 64) : Nat) : Int) (by rw [HL.out.1]; exact hp64)
      have hct2 := hset.text C
      have hct1 := hrow.text C
      rw [HL.out.1] at hct1
      rw [List.length_set, HL.out.1] at hct2
      obtain ⟨p, hpe⟩ : ∃ p, H % 64 = p := ⟨_, rfl⟩
      rw [hpe] at hpp hp64 hx HA hct2 hc hf hset
      have HB := hide hbel
      have HT1 := hide hct1
      have HT2 := hide hct2
      have HX := hide hx
      clear hh hspec hrow hbel hct1 hct2 hx hHn hset hpe
      go_enter Tryd.func16, Tryd.ntmps16
      go_wp2_with fail
      refine (ch _).mono ?_
      rintro e w2 ⟨rfl, rfl⟩
      go_wp2_with fail
      refine (cu _).mono ?_
      rintro e w2 ⟨rfl, rfl⟩
      go_wp2_with fail
      refine (HS.out _).mono ?_
      rintro e w2 ⟨rfl, rfl⟩
      clear ch cu
      go_wp2
      go_loop [5, 7] (fun y k => ∃ (n r : Nat), y = .int .u64 n ∧ k = .int .i64 r ∧ 1 ≤ r ∧ r ≤ 58 ∧ n < 288230376151711744 ∧ Hid (n = H / 64 / 2 ^ (r - 1) ∧ ∀ i, i < r - 1 → H / 64 / 2 ^ i % 2 = 0)) (fun _ k => 58 - (intOf k).toNat)
      case atStart => exact ⟨H / 64, 1, by rw [show ((H / 64 : Nat) : Int) = (H : Int) / 64 by omega], rfl, by omega, by omega, by omega, by simp, fun _ h => absurd h (by omega)⟩
      case round =>
        obtain ⟨n, r, rfl, rfl, hr1, hr2, hn, HR⟩ := hrel
        by_cases hr58 : r < 58
        · by_cases hpar : n % 2 = 0
          · have hb : ((n : Int) % 2 == 0) = true := by simp; omega
            have HR2 : Hid (n / 2 = H / 64 / 2 ^ (r + 1 - 1) ∧ ∀ i, i < r + 1 - 1 → H / 64 / 2 ^ i % 2 = 0) := by
              obtain ⟨e, hz⟩ := HR.out
              refine ⟨?_, fun i hi => ?_⟩
              · rw [e, show r + 1 - 1 = (r - 1) + 1 by omega, Nat.pow_succ, Nat.div_div_eq_div_mul _ (2 ^ (r - 1)) 2]
              · by_cases e2 : i = r - 1
                · subst e2; rw [← e]; exact hpar
                · exact hz i (by omega)
            have hn2 : n / 2 < 288230376151711744 := by omega
            clear HR
            go_wp2
            go_round
            case rel => exact ⟨n / 2, by omega, r + 1, by omega, by omega, by omega, hn2, HR2⟩
            case measure => simp [intOf]; omega
          · have hb : ((n : Int) % 2 == 0) = false := by simp; omega
            have hrk : rankOf (H / 64) = r := by
              obtain ⟨e, hz⟩ := HR.out
              rw [rank_at (k := r - 1) (by omega) hz (by rw [← e]; omega)]
              omega
            have HA2 : Hid (addL (numsOf h) u = (numsOf h).set p (if x < (r : Int) then (r : Int) else x)) := by show _ = _; rw [HA.out, hrk]
            have HT3 : Hid ((convert 22 9 (.slice (some ⟨w.heap.size, 0, none⟩) 64 C)).run Tryd.prog (w1.setCell ⟨w.heap.size, p, none⟩ (.int .u8 (r : Int))) = .ok (.string (strOfNums ((numsOf h).set p (r : Int)))) (w1.setCell ⟨w.heap.size, p, none⟩ (.int .u8 (r : Int)))) := by
              have := HT2.out
              rw [hrk] at this
              exact this
            clear hrk HR HT2 HA
            by_cases hxr : x < (r : Int)
            · have hct := HT3.out
              have HV2 : Hid (hllAdd h u = strOfNums ((numsOf h).set p (r : Int))) := by
                have := HA2.out
                rw [if_pos hxr] at this
                rw [← this]; exact HV.out
              go_wp2
              go_ret
              exact ⟨ret_str HV2.out.symm, Below.setCell HB.out (Nat.le_refl _) _⟩
            · have hct := HT1.out
              have HV2 : Hid (hllAdd h u = strOfNums (numsOf h)) := by
                have := HA2.out
                rw [if_neg hxr, set_same HX.out] at this
                rw [← this]; exact HV.out
              go_wp2
              go_ret
              exact ⟨ret_str HV2.out.symm, HB.out⟩
        · obtain rfl : r = 58 := by omega
          have hrk : rankOf (H / 64) = 58 := rank_full fun i hi => HR.out.2 i (by omega)
          have HA2 : Hid (addL (numsOf h) u = (numsOf h).set p (if x < 58 then 58 else x)) := by show _ = _; rw [HA.out, hrk]; rfl
          have HT3 : Hid ((convert 22 9 (.slice (some ⟨w.heap.size, 0, none⟩) 64 C)).run Tryd.prog (w1.setCell ⟨w.heap.size, p, none⟩ (.int .u8 58)) = .ok (.string (strOfNums ((numsOf h).set p 58))) (w1.setCell ⟨w.heap.size, p, none⟩ (.int .u8 58))) := by
            have := HT2.out
            rw [hrk] at this
            exact this
          clear hrk HR HT2 HA
          by_cases hxr : x < 58
          · have hct := HT3.out
            have HV2 : Hid (hllAdd h u = strOfNums ((numsOf h).set p 58)) := by
              have := HA2.out
              rw [if_pos hxr] at this
              rw [← this]; exact HV.out
            go_wp2
            go_ret
            exact ⟨ret_str HV2.out.symm, Below.setCell HB.out (Nat.le_refl _) _⟩
          · have hct := HT1.out
            have HV2 : Hid (hllAdd h u = strOfNums (numsOf h)) := by
              have := HA2.out
              rw [if_neg hxr, set_same HX.out] at this
              rw [← this]; exact HV.out
            go_wp2
            go_ret
            exact ⟨ret_str HV2.out.symm, HB.out⟩

end Go.Proofs.YtkopoonkedcpmadDoor
