/- Files of a disk, of the model: sought, put, cut. -/
import Derived.Test.YtejedpmkbkclhaaFsI
import Derived.Test.YtejedpmkbkclhaaOwnFile
import Derived.Laws.OwnMore
namespace Go.Proofs.Ytejedpmkbkclhaa
set_option maxRecDepth 100000
open Go.RowKit Go.Deep

theorem put_all {M : List File1} {n : ByteArray} (h : ∀ g, g ∈ M → nmL g.n n = true) : M.filter (fun f => nmL f.n n) = M ∧ M.filter (fun f => nmL n f.n) = [] :=
  ⟨List.filter_eq_self.2 h, List.filter_eq_nil_iff.2 fun g hg => by rw [nmL_asymm (h g hg)]; decide⟩
theorem put_s2 {M : List File1} {f : File1} {n d : ByteArray} (h : ∀ g, g ∈ M → nmL g.n n = true) (he : f.n = n) : putF (M ++ [f]) n d = M ++ [⟨n, d⟩] := by
  obtain ⟨h1, h2⟩ := put_all h
  unfold putF
  rw [List.filter_append, List.filter_append, h1, h2]
  simp [he, nmL_irr]
theorem put_s3 {M : List File1} {f : File1} {n d : ByteArray} (h : ∀ g, g ∈ M → nmL g.n n = true) (k1 : nmL f.n n = false) (k2 : nmL n f.n = true) : putF (M ++ [f]) n d = M ++ [⟨n, d⟩] ++ [f] := by
  obtain ⟨h1, h2⟩ := put_all h
  unfold putF
  rw [List.filter_append, List.filter_append, h1, h2]
  simp [k1, k2]
theorem put_s4 {M : List File1} {f : File1} {n d : ByteArray} (h2 : nmL n f.n = true) : putF (M ++ [f]) n d = putF M n d ++ [f] := by
  unfold putF
  rw [List.filter_append, List.filter_append]
  simp [nmL_asymm h2, h2]
theorem put_s5 {M : List File1} {n d : ByteArray} (h : ∀ g, g ∈ M → nmL g.n n = true) : putF M n d = M ++ [⟨n, d⟩] := by
  unfold putF
  rw [List.filter_eq_self.2 h, List.filter_eq_nil_iff.2 fun g hg => by rw [nmL_asymm (h g hg)]; decide]
theorem put_far {M : List File1} {f : File1} {n : ByteArray} (hr : RisF (M ++ [f])) (h : ∃ g, g ∈ M ∧ nmL g.n n = false) : nmL n f.n = true := by
  obtain ⟨g, hg, h1⟩ := h
  have h2 := (List.pairwise_append.1 hr).2.2 g hg f (List.mem_singleton.2 rfl)
  cases h3 : nmL n g.n
  · rw [← nmL_tri h1 h3]; exact h2
  · exact nmL_trans h3 h2
/-- The state of the model's row while a name is put. -/
structure PutS (M : List File1) (n d : ByteArray) (dn : Bool) (out : List File1) : Prop where
  no : dn = false → out = M ∧ ∀ g, g ∈ M → nmL g.n n = true
  yes : dn = true → out = putF M n d ∧ ∃ g, g ∈ M ∧ nmL g.n n = false
theorem putF_len_le (M : List File1) (n d : ByteArray) : (putF M n d).length ≤ M.length + 1 := by rw [putF_length]; have := cutF_length M n; omega

set_option linter.unusedVariables false in
set_option linter.unusedSimpArgs false in
set_option maxHeartbeats 4000000 in
theorem spec_l6At (a : Option Addr) (n cap : Nat) (O : Files) (s : ByteArray) (w : World) (hn : n ≤ 1048576) (hS : FileAt w w.heap.size a n O) :
    Calls Try.prog 67 #[.slice a n cap, .string s] w fun e w' => (∃ i : Int, e = .returned (.int .i64 i) ∧ ((i = -1 ∧ lkF (filesL O n) s = none) ∨ ∃ j : Nat, j < n ∧ i = (j : Int) ∧ lkF (filesL O n) s = some (O.D j))) ∧ Below w.heap.size w w' := by
  have HS := hS.hid
  have HB0 : Hid (Below w.heap.size w w) := Below.refl _ _
  clear hS
  go_enter Try.func67, Try.ntmps67
  go_wp2
  go_loopw [5] (fun i wr => ∃ k : Nat, i = .int .i64 k ∧ k ≤ n ∧ Hid (∀ g, g ∈ filesL O k → nmN g.n s = true) ∧ Hid (Below w.heap.size w wr)) (fun i _ => n - (intOf i).toNat)
  case atStart => exact ⟨0, rfl, by omega, (fun g hg => absurd hg (by simp [filesL]) : ∀ g, g ∈ filesL O 0 → nmN g.n s = true), HB0⟩
  case round =>
    obtain ⟨k, rfl, hk, HA, HB⟩ := hrel
    clear HB0
    by_cases hlt : k < n
    · have hki : (k : Int) < (n : Int) := by omega
      obtain ⟨b, off, rfl, hb, c0, c1⟩ := (HS.out.next HB.out).at hlt
      cases hq : ((O.N k).toList == s.toList) with
      | true =>
        have he : O.N k = s := toListF_inj (eq_of_beq hq)
        have HV : Hid (lkF (filesL O n) s = some (O.D k)) := by
          have key : ∀ m, k < m → lkF (filesL O m) s = some (O.D k) := by
            have gen : ∀ (M R : List File1), (∀ g, g ∈ M → nmN g.n s = true) → lkF (M ++ fileAt1 O k :: R) s = some (O.D k) := by
              intro M R hM
              induction M with
              | nil =>
                have e1 : nmN (fileAt1 O k).n s = false := by show nmN (O.N k) s = false; rw [he]; exact nmN_self s
                rw [List.nil_append, lkF, e1, if_neg (by decide)]; rfl
              | cons g M ih =>
                rw [List.cons_append, lkF, hM g List.mem_cons_self, if_pos rfl]
                exact ih fun x hx => hM x (List.mem_cons_of_mem _ hx)
            intro m hm
            have hsp : ∃ R, filesL O m = filesL O k ++ fileAt1 O k :: R := by
              induction m with
              | zero => omega
              | succ m ih =>
                rcases Nat.lt_or_eq_of_le (Nat.lt_succ_iff.1 hm) with h1 | rfl
                · obtain ⟨R, hR⟩ := ih h1
                  exact ⟨R ++ [fileAt1 O m], by rw [filesL_succ, hR]; simp⟩
                · exact ⟨[], by rw [filesL_succ]⟩
            obtain ⟨R, hR⟩ := hsp
            rw [hR]
            exact gen _ _ HA.out
          exact key n hlt
        clear he
        go_wp2
        go_ret
        exact ⟨⟨k, rfl, .inr ⟨k, hlt, rfl, HV.out⟩⟩, HB.out⟩
      | false =>
        have HA2 : Hid (∀ g, g ∈ filesL O (k + 1) → nmN g.n s = true) := fun g hg => by
          rw [filesL_succ] at hg
          rcases List.mem_append.1 hg with h1 | h1
          · exact HA.out g h1
          · obtain rfl := List.mem_singleton.1 h1
            exact nmN_of (fun e => by have e2 : O.N k = s := e; rw [e2] at hq; simp at hq)
        go_wp2
        exact ⟨⟨k + 1, by go_num, by omega, HA2, HB⟩, by simp [intOf]; omega⟩
    · obtain rfl : k = n := by omega
      have HV := hide (lkF_none.2 HA.out)
      go_wp2
      go_ret
      exact ⟨⟨-1, rfl, .inl ⟨rfl, HV.out⟩⟩, HB.out⟩

set_option linter.unusedVariables false in
set_option linter.unusedSimpArgs false in
set_option maxHeartbeats 4000000 in
theorem spec_l6Cut (a : Option Addr) (n cap : Nat) (O : Files) (s : ByteArray) (w : World) (hn : n ≤ 100000) (hS : FileAt w w.heap.size a n O) :
    Calls Try.prog 80 #[.slice a n cap, .string s] w fun e w' => (∃ v, e = .returned v ∧ OwnFile w' w.heap.size v (cutF (filesL O n) s)) ∧ Below w.heap.size w w' := by
  have HS := hS.hid
  have hb0 := below_one w (.cells #[] 96)
  have HO0 : Hid (OwnFile (w.alloc (.cells #[] 96)) w.heap.size (.slice (some ⟨w.heap.size, 0, none⟩) 0 0) (cutF (filesL O 0) s)) := OwnFile.lit w w.heap.size (Nat.le_refl _)
  have HB0 := hide hb0
  clear hS hb0
  go_enter Try.func80, Try.ntmps80
  go_wp2_with fail
  generalize w.alloc (.cells #[] 96) = W at HO0 HB0 ⊢
  go_loopw [5, 6] (fun v i wr => ∃ k : Nat, i = .int .i64 k ∧ k ≤ n ∧ Hid (OwnFile wr w.heap.size v (cutF (filesL O k) s)) ∧ Hid (Below w.heap.size w wr)) (fun _ i _ => n - (intOf i).toNat)
  case atStart => exact ⟨0, rfl, by omega, HO0, HB0⟩
  case round =>
    obtain ⟨k, rfl, hk, HO, HB⟩ := hrel
    clear HO0 HB0
    by_cases hlt : k < n
    · have hki : (k : Int) < (n : Int) := by omega
      obtain ⟨b, off, rfl, hb, c0, c1⟩ := ((HS.out.below HB.out).mono HB.out.size).at hlt
      have hle := cutF_length (filesL O k) s
      rw [filesL_len] at hle
      cases hq : ((O.N k).toList == s.toList) with
      | true =>
        have he : O.N k = s := toListF_inj (eq_of_beq hq)
        have hcc : cutF (filesL O (k + 1)) s = cutF (filesL O k) s := by
          unfold cutF; rw [filesL_succ, List.filter_append]
          have e1 : nmN (fileAt1 O k).n s = false := by show nmN (O.N k) s = false; rw [he]; exact nmN_self s
          simp [e1]
        have HO2 : Hid (OwnFile wr w.heap.size u5 (cutF (filesL O (k + 1)) s)) := by show OwnFile _ _ _ _; rw [hcc]; exact HO.out
        clear he hcc
        go_wp2
        exact ⟨⟨k + 1, by go_num, by omega, HO2, HB⟩, by simp [intOf]; omega⟩
      | false =>
        have hcc : cutF (filesL O (k + 1)) s = cutF (filesL O k) s ++ [fileAt1 O k] := by
          unfold cutF; rw [filesL_succ, List.filter_append]
          have e1 : nmN (fileAt1 O k).n s = true := nmN_of (fun e => by have e2 : O.N k = s := e; rw [e2] at hq; simp at hq)
          simp [e1]
        have HCC := hide hcc
        have hbm := below_one wr (.cells #[.string (O.N k), .string (O.D k)] 96)
        have HO1 := (HO.out.next hbm).hid
        have hM := (BoxIs.new wr #[.string (O.N k), .string (O.D k)] 96 rfl).hid
        have HB1 := hide (HB.out.trans (hbm.mono HB.out.size))
        clear hbm hcc
        go_wp2_with (first
          | (at_builtin; refine wpList_append_file rfl _ _ 28 rfl Try.underlying28 w.heap.size _ (cutF (filesL O k) s) [fileAt1 O k] (by rfl) HO1.out ⟨wr.heap.size, 0, none⟩ 1 1 (by rfl) rfl (file_news (e := fileAt1 O k) hM.out) HB1.out.size (by omega) ?_))
        intro v2 w2 hO2 hB2
        have HO2 : Hid (OwnFile w2 w.heap.size v2 (cutF (filesL O (k + 1)) s)) := by show OwnFile _ _ _ _; rw [HCC.out]; exact hO2
        have HB2 := hide (HB1.out.trans hB2)
        clear hO2 hB2 HO1 HB1 hM c0 c1
        go_wp2
        exact ⟨⟨k + 1, by go_num, by omega, HO2, HB2⟩, by simp [intOf]; omega⟩
    · obtain rfl : k = n := by omega
      go_wp2
      go_ret
      exact ⟨⟨_, rfl, HO.out⟩, HB.out⟩

set_option linter.unusedVariables false in
set_option linter.unusedSimpArgs false in
set_option maxHeartbeats 4000000 in
theorem spec_l6Put (a : Option Addr) (n cap : Nat) (O : Files) (s d : ByteArray) (w : World) (hn : n ≤ 100000) (hr : RisF (filesL O n)) (hS : FileAt w w.heap.size a n O) :
    Calls Try.prog 79 #[.slice a n cap, .string s, .string d] w fun e w' => (∃ v, e = .returned v ∧ OwnFile w' w.heap.size v (putF (filesL O n) s d)) ∧ Below w.heap.size w w' := by
  have HS := hS.hid
  have HRI := hide hr
  have hb0 := below_one w (.cells #[] 96)
  have HO0 : Hid (OwnFile (w.alloc (.cells #[] 96)) w.heap.size (.slice (some ⟨w.heap.size, 0, none⟩) 0 0) []) := OwnFile.lit w w.heap.size (Nat.le_refl _)
  have HB0 := hide hb0
  clear hS hb0 hr
  go_enter Try.func79, Try.ntmps79
  go_wp2_with fail
  generalize w.alloc (.cells #[] 96) = W at HO0 HB0 ⊢
  go_loopw [7, 8, 9] (fun v dq i wr => ∃ (k : Nat) (dn : Bool) (out : List File1), dq = .bool dn ∧ i = .int .i64 k ∧ k ≤ n ∧ Hid (PutS (filesL O k) s d dn out) ∧ Hid (OwnFile wr w.heap.size v out) ∧ Hid (Below w.heap.size w wr)) (fun _ _ i _ => n - (intOf i).toNat)
  case atStart => exact ⟨0, false, [], rfl, rfl, by omega, (⟨fun _ => ⟨rfl, fun g hg => absurd hg (by simp [filesL])⟩, fun h => by cases h⟩ : PutS (filesL O 0) s d false []), HO0, HB0⟩
  case round =>
    obtain ⟨k, dn, out, rfl, rfl, hk, HP, HO, HB⟩ := hrel
    clear HO0 HB0
    have hout : out.length ≤ k + 1 := by
      cases dn with
      | false => rw [(HP.out.no rfl).1, filesL_len]; omega
      | true => rw [(HP.out.yes rfl).1]; have := putF_len_le (filesL O k) s d; rw [filesL_len] at this; omega
    by_cases hlt : k < n
    · have hki : (k : Int) < (n : Int) := by omega
      obtain ⟨b, off, rfl, hb, c0, c1⟩ := ((HS.out.below HB.out).mono HB.out.size).at hlt
      have hrk : RisF (filesL O k ++ [fileAt1 O k]) := by
        rw [← filesL_succ]
        have e : filesL O (k + 1) = (filesL O n).take (k + 1) := by
          apply List.ext_getElem
          · simp [filesL]; omega
          · intro i h1 h2; simp [filesL]
        rw [e]; exact HRI.out.sublist (List.take_sublist _ _)
      have HRK := hide hrk
      clear hrk
      cases dn with
      | false =>
        obtain ⟨ho, hall⟩ := HP.out.no rfl
        subst ho
        have HAL := hide hall
        clear hall
        cases hle : Op.bytesLess (O.N k).toList s.toList with
        | true =>
          have hne : ((O.N k).toList == s.toList) = false := by
            cases e : ((O.N k).toList == s.toList)
            · rfl
            · rw [eq_of_beq e] at hle
              have := nmL_irr s
              unfold nmL at this
              rw [this] at hle; cases hle
          have HP2 : Hid (PutS (filesL O (k + 1)) s d false (filesL O k ++ [fileAt1 O k])) := ⟨fun _ => ⟨(filesL_succ O k).symm, fun g hg => by
            rw [filesL_succ] at hg
            rcases List.mem_append.1 hg with h1 | h1
            · exact HAL.out g h1
            · obtain rfl := List.mem_singleton.1 h1; exact hle⟩, fun h => by cases h⟩
          have hbm := below_one wr (.cells #[.string (O.N k), .string (O.D k)] 96)
          have HO1 := (HO.out.next hbm).hid
          have hM := (BoxIs.new wr #[.string (O.N k), .string (O.D k)] 96 rfl).hid
          have HB1 := hide (HB.out.trans (hbm.mono HB.out.size))
          clear hbm
          go_wp2_with (first
            | (at_builtin; refine wpList_append_file rfl _ _ 28 rfl Try.underlying28 w.heap.size _ (filesL O k) [fileAt1 O k] (by rfl) HO1.out ⟨wr.heap.size, 0, none⟩ 1 1 (by rfl) rfl (file_news (e := fileAt1 O k) hM.out) HB1.out.size (by omega) ?_))
          intro v2 w2 hO2 hB2
          have HO2 := hO2.hid
          have HB2 := hide (HB1.out.trans hB2)
          clear hO2 hB2 HO1 HB1 hM c0 c1
          go_wp2
          exact ⟨⟨k + 1, false, _, rfl, by go_num, by omega, HP2, HO2, HB2⟩, by simp [intOf]; omega⟩
        | false =>
          have hbm := below_one wr (.cells #[.string s, .string d] 96)
          have HO1 := (HO.out.next hbm).hid
          have hM := (BoxIs.new wr #[.string s, .string d] 96 rfl).hid
          have HB1 := hide (HB.out.trans (hbm.mono HB.out.size))
          have hNk : nmL (fileAt1 O k).n s = false := hle
          have HNk := hide hNk
          clear hbm hNk
          go_wp2_with (first
            | (at_builtin; refine wpList_append_file rfl _ _ 28 rfl Try.underlying28 w.heap.size _ (filesL O k) [⟨s, d⟩] (by rfl) HO1.out ⟨wr.heap.size, 0, none⟩ 1 1 (by rfl) rfl (file_news (e := ⟨s, d⟩) hM.out) HB1.out.size (by omega) ?_))
          intro v2 w2 hO2 hB2
          have HO2 := hO2.hid
          have HB2 := hide (HB1.out.trans hB2)
          obtain ⟨b', off', hbo, hb', c0', c1'⟩ := ((HS.out.below HB2.out).mono HB2.out.size).at hlt
          simp only [Option.some.injEq, Addr.mk.injEq, and_true] at hbo
          obtain ⟨rfl, rfl⟩ := hbo
          clear hO2 hB2 HO1 HB1 hM c0 c1 hb'
          cases hq : ((O.N k).toList == s.toList) with
          | true =>
            have he : (fileAt1 O k).n = s := toListF_inj (eq_of_beq hq)
            have HP2 : Hid (PutS (filesL O (k + 1)) s d true (filesL O k ++ [⟨s, d⟩])) := ⟨fun h => (by cases h), fun _ => ⟨by rw [filesL_succ]; exact (put_s2 HAL.out he).symm, fileAt1 O k, by rw [filesL_succ]; simp, HNk.out⟩⟩
            clear he hle
            go_wp2
            exact ⟨⟨k + 1, true, _, rfl, by go_num, by omega, HP2, HO2, HB2⟩, by simp [intOf]; omega⟩
          | false =>
            have hgt : nmL s (fileAt1 O k).n = true := by
              cases h : nmL s (fileAt1 O k).n
              · have := nmL_tri HNk.out h
                have e2 : O.N k = s := this
                rw [e2] at hq; simp at hq
              · rfl
            have HP2 : Hid (PutS (filesL O (k + 1)) s d true (filesL O k ++ [⟨s, d⟩] ++ [fileAt1 O k])) := ⟨fun h => (by cases h), fun _ => ⟨by rw [filesL_succ]; exact (put_s3 HAL.out HNk.out hgt).symm, fileAt1 O k, by rw [filesL_succ]; simp, HNk.out⟩⟩
            have hbm := below_one w2 (.cells #[.string (O.N k), .string (O.D k)] 96)
            have HO3 := (HO2.out.next hbm).hid
            have hM := (BoxIs.new w2 #[.string (O.N k), .string (O.D k)] 96 rfl).hid
            have HB3 := hide (HB2.out.trans (hbm.mono HB2.out.size))
            have hln : (filesL O k ++ [(⟨s, d⟩ : File1)]).length + 1 ≤ 1000000 := by rw [List.length_append, filesL_len, List.length_singleton]; omega
            clear hbm hgt hle
            go_wp2_with (first
              | (at_builtin; refine wpList_append_file rfl _ _ 28 rfl Try.underlying28 w.heap.size _ (filesL O k ++ [⟨s, d⟩]) [fileAt1 O k] (by rfl) HO3.out ⟨w2.heap.size, 0, none⟩ 1 1 (by rfl) rfl (file_news (e := fileAt1 O k) hM.out) HB3.out.size hln ?_))
            intro v4 w4 hO4 hB4
            have h4 : OwnFile w4 w.heap.size v4 (filesL O k ++ [⟨s, d⟩] ++ [fileAt1 O k]) := by simpa using hO4
            have HO4 := h4.hid
            have HB4 := hide (HB3.out.trans hB4)
            clear hO4 h4 hB4 HO3 HB3 hM c0' c1' HO2 HB2 hln
            go_wp2
            exact ⟨⟨k + 1, true, _, rfl, by go_num, by omega, HP2, HO4, HB4⟩, by simp [intOf]; omega⟩
      | true =>
        obtain ⟨ho, hex⟩ := HP.out.yes rfl
        subst ho
        have hgt := put_far HRK.out hex
        have hne : ((O.N k).toList == s.toList) = false := by
          cases e : ((O.N k).toList == s.toList)
          · rfl
          · have e2 : (fileAt1 O k).n = s := toListF_inj (eq_of_beq e)
            rw [e2, nmL_irr] at hgt; cases hgt
        have HP2 : Hid (PutS (filesL O (k + 1)) s d true (putF (filesL O k) s d ++ [fileAt1 O k])) := ⟨fun h => (by cases h), fun _ => ⟨by rw [filesL_succ]; exact (put_s4 hgt).symm, by
          obtain ⟨g, hg, h1⟩ := hex
          exact ⟨g, by rw [filesL_succ]; exact List.mem_append_left _ hg, h1⟩⟩⟩
        have hbm := below_one wr (.cells #[.string (O.N k), .string (O.D k)] 96)
        have HO1 := (HO.out.next hbm).hid
        have hM := (BoxIs.new wr #[.string (O.N k), .string (O.D k)] 96 rfl).hid
        have HB1 := hide (HB.out.trans (hbm.mono HB.out.size))
        clear hbm hgt hex
        go_wp2_with (first
          | (at_builtin; refine wpList_append_file rfl _ _ 28 rfl Try.underlying28 w.heap.size _ (putF (filesL O k) s d) [fileAt1 O k] (by rfl) HO1.out ⟨wr.heap.size, 0, none⟩ 1 1 (by rfl) rfl (file_news (e := fileAt1 O k) hM.out) HB1.out.size (by omega) ?_))
        intro v2 w2 hO2 hB2
        have HO2 := hO2.hid
        have HB2 := hide (HB1.out.trans hB2)
        clear hO2 hB2 HO1 HB1 hM c0 c1
        go_wp2
        exact ⟨⟨k + 1, true, _, rfl, by go_num, by omega, HP2, HO2, HB2⟩, by simp [intOf]; omega⟩
    · obtain rfl : k = n := by omega
      cases dn with
      | false =>
        obtain ⟨ho, hall⟩ := HP.out.no rfl
        subst ho
        have HV := hide (put_s5 (d := d) hall)
        have hbm := below_one wr (.cells #[.string s, .string d] 96)
        have HO1 := (HO.out.next hbm).hid
        have hM := (BoxIs.new wr #[.string s, .string d] 96 rfl).hid
        have HB1 := hide (HB.out.trans (hbm.mono HB.out.size))
        clear hbm hall
        go_wp2_with (first
          | (at_builtin; refine wpList_append_file rfl _ _ 28 rfl Try.underlying28 w.heap.size _ (filesL O k) [⟨s, d⟩] (by rfl) HO1.out ⟨wr.heap.size, 0, none⟩ 1 1 (by rfl) rfl (file_news (e := ⟨s, d⟩) hM.out) HB1.out.size (by omega) ?_))
        intro v2 w2 hO2 hB2
        have HO2 := hO2.hid
        have HB2 := hide (HB1.out.trans hB2)
        clear hO2 hB2 HO1 HB1 hM
        go_wp2
        go_ret
        exact ⟨⟨_, rfl, by rw [HV.out]; exact HO2.out⟩, HB2.out⟩
      | true =>
        obtain ⟨ho, hex⟩ := HP.out.yes rfl
        subst ho
        clear hex
        go_wp2
        go_ret
        exact ⟨⟨_, rfl, HO.out⟩, HB.out⟩

end Go.Proofs.Ytejedpmkbkclhaa
