/- differ[int64] and numsOf of the program. -/
import Derived.Test.YtplbhgcibfajaaaSorted
import Derived.Test.YtplbhgcibfajaaaMetas
namespace Go.Proofs.Ytplbhgcibfajaaa
set_option maxRecDepth 100000
open Go.RowKit Go.Deep Go.Sort

theorem ret_bool2 {a b : Bool} (h : a = b) : Ending.returned (.bool a) = .returned (.bool b) := by rw [h]

/-- No two of them are alike. -/
def nodupB (l : List Int) : Bool := decide l.Nodup

theorem nodup_sorted (l : List Int) : (sortI l).Nodup ↔ l.Nodup := (sortI_perm l).nodup_iff

set_option maxHeartbeats 2000000 in
theorem impl_differI (v : Value) (l : List Int) (w : World) (hs : IntSrc w v l) (hz : l.length ≤ 1000000) :
    Calls Try.prog 49 #[v] w fun e w' => e = .returned (.bool (nodupB l)) ∧ Below w.heap.size w w' := by
  have hzl := sortI_len l
  have HN := hide (nodup_sorted l)
  have HP := hide (sortI_le l)
  go_enter Try.func49, Try.ntmps49
  go_wp2_with fail
  refine (impl_sortedI v l w hs hz).mono ?_
  rintro e w1 ⟨⟨v1, rfl, ho⟩, hb⟩
  obtain ⟨a, cap, rfl, ha⟩ := ho.at
  have HA := hide ha
  have HB := hide hb
  generalize sortI l = m at HN HP HA hzl ho ⊢
  clear ho hb ha hs
  have hm1 : m.length ≤ 1000000 := by omega
  have HS : Hid (∀ i, i + 1 < m.length → m.getD i 0 ≠ m.getD (i + 1) 0 → m.getD i 0 ≠ m.getD (i + 1) 0) := fun _ _ h => h
  clear HS
  have HK0 : Hid (∀ i, i < 0 → m.getD i 0 ≠ m.getD (i + 1) 0) := fun i hi => absurd hi (by omega)
  go_wp2
  go_loopw [4] (fun i wr => ∃ k : Nat, i = .int .i64 ((k : Int) + 1) ∧ (k + 1 ≤ m.length ∨ k = 0) ∧ Hid (∀ i, i < k → m.getD i 0 ≠ m.getD (i + 1) 0) ∧ Hid (Below w.heap.size w wr) ∧ Hid (Below w1.heap.size w1 wr)) (fun i _ => m.length - (intOf i).toNat)
  case atStart => exact ⟨0, rfl, by omega, HK0, HB, Below.refl _ _⟩
  case round =>
    obtain ⟨k, rfl, hk, HK, HW, HX⟩ := hrel
    clear HK0 HB
    by_cases hlt : k + 1 < m.length
    · obtain ⟨b, off, rfl, hb, c1⟩ := (HA.out.next HX.out).at hlt
      obtain ⟨b', off', hbb, hb', c0⟩ := (HA.out.next HX.out).at (show k < m.length by omega)
      simp only [Option.some.injEq, Addr.mk.injEq, and_true] at hbb
      obtain ⟨rfl, rfl⟩ := hbb
      have hsub2 : IntKind.i64.wrap ((k : Int) + 1 - 1) = (k : Int) := by rw [IntKind.wrap_i64]; omega
      have hsub4 : IntKind.i64.wrap (k : Int) = (k : Int) := by rw [IntKind.wrap_i64]; omega
      have hl0 : (k : Int) < (m.length : Int) := by omega
      have hl1 : (k : Int) + 1 < (m.length : Int) := by omega
      have h00 : (0 : Int) ≤ (k : Int) := by omega
      have h10 : (0 : Int) ≤ (k : Int) + 1 := by omega
      have hln : k < m.length := by omega
      have htn : ((k : Int) + 1).toNat = k + 1 := by omega
      by_cases he : m.getD k 0 = m.getD (k + 1) 0
      · have HV : Hid (false = nodupB l) := by
          unfold Hid nodupB
          rw [eq_comm, decide_eq_false_iff_not]
          intro hn
          exact nodup_adj (HN.out.2 hn) k hlt he
        generalize m.getD k 0 = x0 at *
        generalize m.getD (k + 1) 0 = x1 at *
        subst he
        go_wp2
        go_quiet (fail)
        go_wp2
        go_ret
        exact ⟨ret_bool2 HV.out, below_drewN HW.out _⟩
      · have HK2 : Hid (∀ i, i < k + 1 → m.getD i 0 ≠ m.getD (i + 1) 0) := fun i hi => by
          rcases Nat.lt_or_eq_of_le (Nat.le_of_lt_succ hi) with h | h
          · exact HK.out i h
          · subst h; exact he
        generalize m.getD k 0 = x0 at *
        generalize m.getD (k + 1) 0 = x1 at *
        have he' : (x0 == x1) = false := by simpa using he
        clear he
        go_wp2
        go_quiet (fail)
        go_wp2
        exact ⟨⟨k + 1, by go_num, by omega, HK2, below_drewN HW.out _, below_drewN HX.out _⟩, by simp [intOf]; omega⟩
    · have HV : Hid (true = nodupB l) := by
        unfold Hid nodupB
        rw [eq_comm, decide_eq_true_iff, ← HN.out]
        exact sorted_nodup HP.out fun i hi => HK.out i (by omega)
      have hl1 : ¬ ((k : Int) + 1 < (m.length : Int)) := by omega
      go_wp2
      go_ret
      exact ⟨ret_bool2 HV.out, HW.out⟩

/-- The numbers of the first k files. -/
def numsL (O : Metas) (k : Nat) : List Int := (List.range k).map O.N
theorem numsL_len (O : Metas) (k : Nat) : (numsL O k).length = k := by simp [numsL]
theorem numsL_succ (O : Metas) (k : Nat) : numsL O (k + 1) = numsL O k ++ [O.N k] := by simp [numsL, List.range_succ]

set_option maxHeartbeats 1000000 in
theorem impl_numsOf (a : Option Addr) (len cap : Nat) (O : Metas) (w : World) (hl : len ≤ 1048576) (hS : MetaAt w w.heap.size a len O) :
    Calls Try.prog 50 #[.slice a len cap] w fun e w' => (∃ v, e = .returned v ∧ OwnI w' w.heap.size v (numsL O len)) ∧ Below w.heap.size w w' := by
  have hi5 : (Try.prog.info? 2).map (fun i => (i.zero, i.size, i.bytes)) = some (some (.int .i64 0), 1, 8) := by kernel_rfl
  have HS := hide hS
  have HO0 : Hid (OwnI w w.heap.size (.slice none 0 0) (numsL O 0)) := OwnI.nil _ _
  have HB0 : Hid (Below w.heap.size w w) := Below.refl _ _
  clear hS
  go_enter Try.func50, Try.ntmps50
  go_wp2
  go_loopw [3, 8] (fun v i wr => ∃ k : Nat, i = .int .i64 k ∧ k ≤ len ∧ Hid (OwnI wr w.heap.size v (numsL O k)) ∧ Hid (Below w.heap.size w wr)) (fun _ i _ => len - (intOf i).toNat)
  case atStart => exact ⟨0, rfl, by omega, HO0, HB0⟩
  case round =>
    obtain ⟨k, rfl, hk, HO, HW⟩ := hrel
    clear HB0 HO0
    by_cases hlt : k < len
    · obtain ⟨b, off, rfl, hb, c0, c1, c2, c3, c4⟩ := (HS.out.below HW.out).at hlt
      have hki : (k : Int) < (len : Int) := by omega
      have hbb := below_one wr (.cells #[.int .i64 (O.N k), .int .i64 (O.L k), .string (O.F k), .string (O.Z k), .int .i64 (O.C k)] 59)
      have hown := HO.out.next hbb
      have hwz : w.heap.size ≤ (wr.alloc (.cells #[.int .i64 (O.N k), .int .i64 (O.L k), .string (O.F k), .string (O.Z k), .int .i64 (O.C k)] 59)).heap.size := Nat.le_trans HW.out.size hbb.size
      have HB1 := hide (HW.out.trans (hbb.mono HW.out.size))
      have HL := hide (numsL_succ O k)
      have hul := numsL_len O k
      clear hbb HO HW
      have hown2 := Own.alloc hown (.cells #[.int .i64 (O.N k)] 2)
      have hb2 := below_one (wr.alloc (.cells #[.int .i64 (O.N k), .int .i64 (O.L k), .string (O.F k), .string (O.Z k), .int .i64 (O.C k)] 59)) (.cells #[.int .i64 (O.N k)] 2)
      have HB2 := hide (HB1.out.trans (hb2.mono hwz))
      have hwz2 := Nat.le_trans hwz hb2.size
      clear hown hb2 HB1
      go_wp2_with (first
        | (at_builtin; refine wpList_append_cell rfl _ _ 25 rfl 2 Try.underlying25 hi5 rfl (by decide) w.heap.size _ (.int .i64 (O.N k)) ((numsL O k).map (Value.int .i64)) (by rfl) ⟨wr.heap.size + 1, 0, none⟩ (by rfl) ?c2 hown2 rfl hwz2 ?c1 ?_))
      case c1 => first | omega | (simp; omega)
      case c2 => simp
      intro v' w6 hown' hb'
      have HO6 : Hid (OwnI w6 w.heap.size v' (numsL O (k + 1))) := by
        rw [HL.out]
        show Own _ _ _ _ _
        rw [List.map_append]
        exact hown'
      have HW6 := hide (HB2.out.trans hb')
      clear hown2 hown' hb' HB2
      go_wp2
      exact ⟨⟨k + 1, by go_num, by omega, HO6, HW6⟩, by simp [intOf]; omega⟩
    · obtain rfl : k = len := by omega
      go_wp2
      go_ret
      exact ⟨⟨_, rfl, HO.out⟩, HW.out⟩

end Go.Proofs.Ytplbhgcibfajaaa
