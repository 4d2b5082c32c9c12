/- A version comes back from its bytes: what is read of them, of the program and of the model. No walk. -/
import Derived.Test.YtplbhgcibfajaaaVText
import Derived.Test.YtplbhgcibfajaaaRdr
import Derived.Test.YtplbhgcibfajaaaCanon
import Derived.Test.YtplbhgcibfajaaaOwnMeta
namespace Go.Proofs.Ytplbhgcibfajaaa
set_option maxRecDepth 100000
open Go.RowKit

theorem append_nilV (s : ByteArray) : s ++ (⟨#[]⟩ : ByteArray) = s := ByteArray.append_empty
theorem rnum_putV (n : Int) (h0 : 0 ≤ n) (h1 : n ≤ 9223372036854775807) (r : ByteArray) : rnum (pv n ++ r) = (n, r, false) := by
  rw [rnum_some (take_put n h0 (by omega) r) (by omega), extract_behind]
theorem takeText_rtV (r : ByteArray) : takeText r = .tuple #[.string (rtext r).1, .string (rtext r).2.1, .bool (!(rtext r).2.2)] := by
  cases h : rtx r with
  | none =>
    have hn := rtx_none h
    rw [rtext_none h]
    cases hv : tva r 10 0 0 with
    | none => rw [takeText, hv]; rfl
    | some x => exact (Ending.returned.inj (ret_text_no hv (hn x.1 x.2 hv))).symm
  | some x =>
    obtain ⟨k, e⟩ := x
    obtain ⟨m, rfl, h1, h2⟩ := rtx_some h
    rw [rtext_some h]
    exact (Ending.returned.inj (ret_text_yes (a := r.extract k (k + m)) (b := r.extract (k + m) r.size) h1 h2 (by rw [Int.toNat_natCast]) (by rw [Int.toNat_natCast]))).symm
theorem rtext_putV (t r : ByteArray) (ht : t.size ≤ 60000) : rtext (putText t ++ r) = (t, r, false) := by
  have h1 := takeText_rtV (putText t ++ r)
  rw [takeText_put t r ht] at h1
  injection h1 with h1
  have h2 : (#[Value.string t, .string r, .bool true] : Array Value).toList = (#[Value.string (rtext (putText t ++ r)).1, .string (rtext (putText t ++ r)).2.1, .bool (!(rtext (putText t ++ r)).2.2)] : Array Value).toList := by rw [h1]
  simp only [List.cons.injEq, Value.string.injEq, Value.bool.injEq, and_true] at h2
  obtain ⟨a, b, c⟩ := h2
  refine Prod.ext a.symm (Prod.ext b.symm ?_)
  simpa using c.symm
theorem rnum_backV {r : ByteArray} (h : (rnum r).2.2 = false) : pv (rnum r).1 ++ (rnum r).2.1 = r := by
  cases hv : tva r 10 0 0 with
  | none => rw [rnum_none hv] at h; cases h
  | some p =>
    obtain ⟨m, k⟩ := p
    by_cases hm : 9223372036854775807 < m
    · rw [rnum_big hv hm] at h; cases h
    · rw [rnum_some hv hm]
      show pv m ++ r.extract k r.size = r
      rw [(put_take r hv).2.2, extract_join]
theorem rtext_backV {r : ByteArray} (h : (rtext r).2.2 = false) : putText (rtext r).1 ++ (rtext r).2.1 = r := by
  have h1 := takeText_rtV r
  rw [h] at h1
  exact (put_takeText h1).1

/-- A number of at most 10 to the 12, as the model reads it. -/
def li (r : ByteArray) : Int × ByteArray × Bool :=
  match tva r 10 0 0 with
  | none => (0, ⟨#[]⟩, false)
  | some (n, k) => if 1000000000000 < n then (0, ⟨#[]⟩, false) else (n, r.extract k r.size, true)
theorem li_none {r : ByteArray} (h : tva r 10 0 0 = none) : li r = (0, ⟨#[]⟩, false) := by rw [li, h]
theorem li_big {r : ByteArray} {n : Int} {k : Nat} (h : tva r 10 0 0 = some (n, k)) (hn : 1000000000000 < n) : li r = (0, ⟨#[]⟩, false) := by rw [li, h]; simp only [if_pos hn]
theorem li_some {r : ByteArray} {n : Int} {k : Nat} (h : tva r 10 0 0 = some (n, k)) (hn : ¬ 1000000000000 < n) : li r = (n, r.extract k r.size, true) := by rw [li, h]; simp only [if_neg hn]
theorem li_put (n : Int) (h0 : 0 ≤ n) (h1 : n ≤ 1000000000000) (r : ByteArray) : li (pv n ++ r) = (n, r, true) := by
  rw [li_some (take_put n h0 (by omega) r) (by omega), extract_behind]
/-- What the model reads is what the program reads. -/
theorem li_rnum {r : ByteArray} (h : (li r).2.2 = true) : li r = ((rnum r).1, (rnum r).2.1, true) ∧ (rnum r).2.2 = false ∧ 0 ≤ (rnum r).1 ∧ (rnum r).1 ≤ 1000000000000 := by
  cases hv : tva r 10 0 0 with
  | none => rw [li_none hv] at h; cases h
  | some p =>
    obtain ⟨m, k⟩ := p
    by_cases hm : 1000000000000 < m
    · rw [li_big hv hm] at h; cases h
    · have h0 := (put_take r hv).1
      rw [li_some hv hm, rnum_some hv (by omega)]
      exact ⟨rfl, rfl, h0, by omega⟩
theorem li_lost {r : ByteArray} (h : (li r).2.2 = false) : li r = (0, ⟨#[]⟩, false) := by
  cases hv : tva r 10 0 0 with
  | none => exact li_none hv
  | some p =>
    obtain ⟨m, k⟩ := p
    by_cases hm : 1000000000000 < m
    · exact li_big hv hm
    · rw [li_some hv hm] at h; cases h

/-- The rest behind the first .. fourth part of a file. -/
def mt1 (r : ByteArray) : ByteArray := (rnum r).2.1
def mt2 (r : ByteArray) : ByteArray := (rnum (mt1 r)).2.1
def mt3 (r : ByteArray) : ByteArray := (rtext (mt2 r)).2.1
def mt4 (r : ByteArray) : ByteArray := (rtext (mt3 r)).2.1
def mtR (r : ByteArray) : ByteArray := (rnum (mt4 r)).2.1
def mtAt (r : ByteArray) : Meta1 := ⟨(rnum r).1, (rnum (mt1 r)).1, (rtext (mt2 r)).1, (rtext (mt3 r)).1, (rnum (mt4 r)).1⟩
/-- Whether the model takes it. -/
def mtS (r : ByteArray) : Bool := (li r).2.2 && (li (mt1 r)).2.2 && !(rtext (mt2 r)).2.2 && !(rtext (mt3 r)).2.2 && (li (mt4 r)).2.2
/-- The first k files that are read of r, and what is left. -/
def rdv (r : ByteArray) : Nat → List Meta1 × ByteArray
  | 0 => ([], r)
  | k + 1 => ((rdv r k).1 ++ [mtAt (rdv r k).2], mtR (rdv r k).2)
theorem rdv_z (r : ByteArray) : (rdv r 0).2 = r := by rw [rdv]
theorem rdv_s1 (r : ByteArray) (k : Nat) : (rdv r (k + 1)).1 = (rdv r k).1 ++ [mtAt (rdv r k).2] := by rw [rdv]
theorem rdv_s2 (r : ByteArray) (k : Nat) : (rdv r (k + 1)).2 = mtR (rdv r k).2 := by rw [rdv]
theorem mt1_def (r : ByteArray) : mt1 r = (rnum r).2.1 := rfl
theorem mt2_def (r : ByteArray) : mt2 r = (rnum (mt1 r)).2.1 := rfl
theorem mt3_def (r : ByteArray) : mt3 r = (rtext (mt2 r)).2.1 := rfl
theorem mt4_def (r : ByteArray) : mt4 r = (rtext (mt3 r)).2.1 := rfl
theorem mtR_def (r : ByteArray) : mtR r = (rnum (mt4 r)).2.1 := rfl
theorem rdv_len (r : ByteArray) : ∀ k, (rdv r k).1.length = k
  | 0 => rfl
  | k + 1 => by rw [rdv, List.length_append, rdv_len r k]; rfl
theorem mt_size (r : ByteArray) : (mt1 r).size ≤ r.size ∧ (mt2 r).size ≤ r.size ∧ (mt3 r).size ≤ r.size ∧ (mt4 r).size ≤ r.size ∧ (mtR r).size ≤ r.size := by
  have h1 := (rnum_bd r).1
  have h2 := (rnum_bd (mt1 r)).1
  have h3 := (rtext_bd (mt2 r)).1
  have h4 := (rtext_bd (mt3 r)).1
  have h5 := (rnum_bd (mt4 r)).1
  rw [show (rnum r).2.1 = mt1 r from rfl] at h1
  rw [show (rnum (mt1 r)).2.1 = mt2 r from rfl] at h2
  rw [show (rtext (mt2 r)).2.1 = mt3 r from rfl] at h3
  rw [show (rtext (mt3 r)).2.1 = mt4 r from rfl] at h4
  rw [show (rnum (mt4 r)).2.1 = mtR r from rfl] at h5
  omega
theorem rdv_size (r : ByteArray) : ∀ k, (rdv r k).2.size ≤ r.size
  | 0 => Nat.le_refl _
  | k + 1 => by
    have := rdv_size r k
    have := (mt_size (rdv r k).2).2.2.2.2
    rw [rdv_s2]
    omega

/-- The bytes of a file, of some files. -/
def rowT1 (m : Meta1) : ByteArray := pv m.n ++ pv m.l ++ putText m.f ++ putText m.z ++ pv m.c
def catR : List Meta1 → ByteArray
  | [] => ⟨#[]⟩
  | m :: l => rowT1 m ++ catR l
theorem catR_append : ∀ a b : List Meta1, catR (a ++ b) = catR a ++ catR b
  | [], b => (empty_app _).symm
  | m :: a, b => by rw [List.cons_append, catR, catR, catR_append a b, ByteArray.append_assoc]
theorem catR_one (m : Meta1) : catR [m] = rowT1 m := by rw [catR, catR, append_nilV]
theorem rowT_one (l : List Meta1) (i : Nat) (h : i < l.length) : rowT (fnMeta l) i = rowT1 l[i] := by
  have := fnMeta_at l i h
  rw [← this]; rfl
theorem rowsT_cat (l : List Meta1) (s : ByteArray) : ∀ k, k ≤ l.length → rowsT (fnMeta l) s k = s ++ catR (l.take k)
  | 0, _ => by rw [rowsT, List.take_zero, catR, append_nilV]
  | k + 1, h => by
    rw [rowsT, rowsT_cat l s k (by omega), rowT_one l k (by omega), List.take_succ_eq_append_getElem (by omega), catR_append, catR_one, ByteArray.append_assoc]

/-- A file whose bytes come back. -/
def MOk (m : Meta1) : Prop := (0 ≤ m.n ∧ m.n ≤ 1000000000000) ∧ (0 ≤ m.l ∧ m.l ≤ 1000000000000) ∧ m.f.size ≤ 60000 ∧ m.z.size ≤ 60000 ∧ 0 ≤ m.c ∧ m.c ≤ 1000000000000
theorem mt_put {m : Meta1} (h : MOk m) (r : ByteArray) : mtAt (rowT1 m ++ r) = m ∧ mtR (rowT1 m ++ r) = r ∧ mtS (rowT1 m ++ r) = true := by
  obtain ⟨⟨a0, a1⟩, ⟨b0, b1⟩, c, d, e0, e1⟩ := h
  have h0 : rowT1 m ++ r = pv m.n ++ (pv m.l ++ (putText m.f ++ (putText m.z ++ (pv m.c ++ r)))) := by
    unfold rowT1
    simp only [ByteArray.append_assoc]
  have r0 := rnum_putV m.n a0 (by omega) (pv m.l ++ (putText m.f ++ (putText m.z ++ (pv m.c ++ r))))
  have r1 := rnum_putV m.l b0 (by omega) (putText m.f ++ (putText m.z ++ (pv m.c ++ r)))
  have r2 := rtext_putV m.f (putText m.z ++ (pv m.c ++ r)) c
  have r3 := rtext_putV m.z (pv m.c ++ r) d
  have r4 := rnum_putV m.c e0 (by omega) r
  have l0 := li_put m.n a0 a1 (pv m.l ++ (putText m.f ++ (putText m.z ++ (pv m.c ++ r))))
  have l1 := li_put m.l b0 b1 (putText m.f ++ (putText m.z ++ (pv m.c ++ r)))
  have l4 := li_put m.c e0 e1 r
  unfold mtAt mtR mtS mt4 mt3 mt2 mt1
  rw [h0, r0]
  simp only [r1, r2, r3, r4, l0, l1, l4]
  exact ⟨trivial, trivial, rfl⟩
theorem rdv_put {l : List Meta1} (h : ∀ m, m ∈ l → MOk m) : ∀ k, k ≤ l.length → rdv (catR l) k = (l.take k, catR (l.drop k))
  | 0, _ => rfl
  | k + 1, hk => by
    have h1 := rdv_put h k (by omega)
    have h2 : catR (l.drop k) = rowT1 l[k] ++ catR (l.drop (k + 1)) := by rw [List.drop_eq_getElem_cons (by omega), catR]
    have h3 := mt_put (h l[k] (List.getElem_mem _)) (catR (l.drop (k + 1)))
    rw [rdv, h1]
    show (l.take k ++ [mtAt (catR (l.drop k))], mtR (catR (l.drop k))) = _
    rw [h2, h3.1, h3.2.1, List.take_succ_eq_append_getElem (by omega)]
theorem mt_back {r : ByteArray} (h : mtS r = true) : rowT1 (mtAt r) ++ mtR r = r := by
  unfold mtS at h
  simp only [Bool.and_eq_true, Bool.not_eq_true'] at h
  obtain ⟨⟨⟨⟨a, b⟩, c⟩, d⟩, e⟩ := h
  have r0 := rnum_backV (li_rnum a).2.1
  have r1 := rnum_backV (li_rnum b).2.1
  have r2 := rtext_backV c
  have r3 := rtext_backV d
  have r4 := rnum_backV (li_rnum e).2.1
  rw [← mt1_def] at r0
  rw [← mt2_def] at r1
  rw [← mt3_def] at r2
  rw [← mt4_def] at r3
  rw [← mtR_def] at r4
  simp only [rowT1, mtAt, ByteArray.append_assoc]
  rw [r4, r3, r2, r1, r0]
theorem rdv_back (r : ByteArray) : ∀ k, (∀ j, j < k → mtS (rdv r j).2 = true) → catR (rdv r k).1 ++ (rdv r k).2 = r
  | 0, _ => empty_app r
  | k + 1, h => by
    have h1 := rdv_back r k fun j hj => h j (by omega)
    have h2 := mt_back (h k (by omega))
    rw [rdv_s1, rdv_s2, catR_append, catR_one, ByteArray.append_assoc, h2]
    exact h1

/-- What the program reads of s. -/
def vB (s : ByteArray) : ByteArray := (rtext s).1
def v1 (s : ByteArray) : ByteArray := (rnum (vB s)).2.1
def v2 (s : ByteArray) : ByteArray := (rnum (v1 s)).2.1
def v3 (s : ByteArray) : ByteArray := (rnum (v2 s)).2.1
def v4 (s : ByteArray) : ByteArray := (rnum (v3 s)).2.1
def vN (s : ByteArray) : Nat := (if (rnum (v3 s)).1 < 31 then (rnum (v3 s)).1 else 31).toNat
def vc (l : List Meta1) (x y z : Int) : VersionC := ⟨l.length, fnMeta l, x, y, z⟩
def vL (s : ByteArray) : List Meta1 := (rdv (v4 s) (vN s)).1
def vC (s : ByteArray) : VersionC := vc (vL s) (rnum (vB s)).1 (rnum (v1 s)).1 (rnum (v2 s)).1
def vOk (s : ByteArray) : Bool := versB (vC s) && decide (versT (vC s) = s)
def zeroV : VersionC := vc [] 0 0 0
def readV (s : ByteArray) : VersionC := if vOk s then vC s else zeroV
theorem vN_le (s : ByteArray) : vN s ≤ 31 := by unfold vN; split <;> omega
theorem vL_def (s : ByteArray) : vL s = (rdv (v4 s) (vN s)).1 := by rw [vL]
theorem vL_len (s : ByteArray) : (vL s).length = vN s := rdv_len _ _
theorem readV_yes {s : ByteArray} (h : vOk s = true) : readV s = vC s := by rw [readV, if_pos h]
theorem readV_no {s : ByteArray} (h : vOk s = false) : readV s = zeroV := by rw [readV, if_neg (by rw [h]; simp)]
theorem vc_n0 (l : List Meta1) (x y z : Int) : (vc l x y z).n0 = l.length := rfl
theorem fit_of {c : VersionC} (h : c.n0 ≤ 1048576) : c.Fit := h
theorem vC_n0 (s : ByteArray) : (vC s).n0 = vN s := by unfold vC; rw [vc_n0, vL_len]
theorem readV_fit (s : ByteArray) : (readV s).Fit := by
  refine fit_of ?_
  unfold readV
  split
  · have := vN_le s
    rw [vC_n0]
    omega
  · unfold zeroV
    rw [vc_n0]
    exact Nat.zero_le _
theorem v1_def (s : ByteArray) : v1 s = (rnum (vB s)).2.1 := rfl
theorem v2_def (s : ByteArray) : v2 s = (rnum (v1 s)).2.1 := rfl
theorem v3_def (s : ByteArray) : v3 s = (rnum (v2 s)).2.1 := rfl
theorem v4_def (s : ByteArray) : v4 s = (rnum (v3 s)).2.1 := rfl
theorem v_size (s : ByteArray) : (vB s).size ≤ s.size ∧ (v1 s).size ≤ s.size ∧ (v2 s).size ≤ s.size ∧ (v3 s).size ≤ s.size ∧ (v4 s).size ≤ s.size := by
  have h1 := (rtext_bd s).2
  have h2 := (rnum_bd (vB s)).1
  have h3 := (rnum_bd (v1 s)).1
  have h4 := (rnum_bd (v2 s)).1
  have h5 := (rnum_bd (v3 s)).1
  rw [show (rtext s).1 = vB s from rfl] at h1
  rw [show (rnum (vB s)).2.1 = v1 s from rfl] at h2
  rw [show (rnum (v1 s)).2.1 = v2 s from rfl] at h3
  rw [show (rnum (v2 s)).2.1 = v3 s from rfl] at h4
  rw [show (rnum (v3 s)).2.1 = v4 s from rfl] at h5
  omega

theorem vc_mok {l : List Meta1} {x y z : Int} (h : versB (vc l x y z) = true) : ∀ m, m ∈ l → MOk m := fun m hm => by
  obtain ⟨i, hi, rfl⟩ := List.getElem_of_mem hm
  obtain ⟨⟨_, _, h2, _⟩, h3, _⟩ := versB_out h
  have h4 : ((fnMeta l).F i).size ≤ 40 ∧ ((fnMeta l).Z i).size ≤ 40 ∧ 1 ≤ (fnMeta l).N i ∧ (fnMeta l).N i < x ∧ 0 ≤ (fnMeta l).L i ∧ (fnMeta l).L i ≤ 3 ∧ 1 ≤ (fnMeta l).C i ∧ (fnMeta l).C i ≤ 400 := fileB_users (stepB_file (h3 i hi))
  have e := fnMeta_at l i hi
  have e0 : (fnMeta l).N i = l[i].n := by rw [← e]; rfl
  have e1 : (fnMeta l).L i = l[i].l := by rw [← e]; rfl
  have e2 : (fnMeta l).F i = l[i].f := by rw [← e]; rfl
  have e3 : (fnMeta l).Z i = l[i].z := by rw [← e]; rfl
  have e4 : (fnMeta l).C i = l[i].c := by rw [← e]; rfl
  have hx : x ≤ 1000000 := h2
  rw [e0, e1, e2, e3, e4] at h4
  unfold MOk
  omega

theorem v4_le (s : ByteArray) : (v4 s).size ≤ (v3 s).size := by
  rw [v4_def]
  exact (rnum_bd _).1
/-- The bytes of a right version are read back, by both. -/
theorem ver_put {l : List Meta1} {x y z : Int} (h : versB (vc l x y z) = true) {s : ByteArray} (hs : versT (vc l x y z) = s) :
    s = sect (vB s) ∧ (vB s).size ≤ 60000 ∧ vC s = vc l x y z ∧ vOk s = true ∧ (li (vB s)).2.2 = true ∧ (li (v1 s)).2.2 = true ∧ (li (v2 s)).2.2 = true ∧ (li (v3 s)).2.2 = true ∧ (rnum (v3 s)).1 ≤ 30 ∧ (∀ j, j < vN s → mtS (rdv (v4 s) j).2 = true) ∧ (rdv (v4 s) (vN s)).2.size = 0 := by
  have hm := vc_mok h
  obtain ⟨⟨hn, hx0, hx1, hy0, hy1, hz0, hz1⟩, hst, _⟩ := versB_out h
  have hn' : l.length ≤ 30 := hn
  have hx1' : x ≤ 1000000 := hx1
  have hx0' : 1 ≤ x := hx0
  have hy0' : 0 ≤ y := hy0
  have hy1' : y ≤ 1000000000000 := hy1
  have hz0' : 0 ≤ z := hz0
  have hz1' : z < x := hz1
  have e0 : versT (vc l x y z) = sect (headT (vc l x y z) ++ catR l) := by
    unfold versT
    rw [if_pos h]
    show sect (rowsT (fnMeta l) (headT (vc l x y z)) l.length) = _
    rw [rowsT_cat l _ l.length (Nat.le_refl _), List.take_length]
  have ez : (headT (vc l x y z) ++ catR l).size ≤ 60000 := by
    have h1 := rowsT_size (O := fnMeta l) (s := headT (vc l x y z)) (nx := x) l.length hst
    rw [rowsT_cat l _ l.length (Nat.le_refl _), List.take_length] at h1
    have h2 := headT_size (vc l x y z)
    omega
  have eB : vB s = headT (vc l x y z) ++ catR l := by
    rw [← hs, e0]
    unfold vB sect
    rw [rtext_putV _ _ ez]
  have eh : headT (vc l x y z) ++ catR l = pv x ++ (pv y ++ (pv z ++ (pv (l.length : Int) ++ catR l))) := by
    unfold headT
    simp only [ByteArray.append_assoc]
    rfl
  rw [eh] at eB
  have a0 := rnum_putV x (by omega) (by omega) (pv y ++ (pv z ++ (pv (l.length : Int) ++ catR l)))
  have a1 := rnum_putV y (by omega) (by omega) (pv z ++ (pv (l.length : Int) ++ catR l))
  have a2 := rnum_putV z (by omega) (by omega) (pv (l.length : Int) ++ catR l)
  have a3 := rnum_putV (l.length : Int) (by omega) (by omega) (catR l)
  have b0 := li_put x (by omega) (by omega) (pv y ++ (pv z ++ (pv (l.length : Int) ++ catR l)))
  have b1 := li_put y (by omega) (by omega) (pv z ++ (pv (l.length : Int) ++ catR l))
  have b2 := li_put z (by omega) (by omega) (pv (l.length : Int) ++ catR l)
  have b3 := li_put (l.length : Int) (by omega) (by omega) (catR l)
  have e1 : v1 s = pv y ++ (pv z ++ (pv (l.length : Int) ++ catR l)) := by unfold v1; rw [eB, a0]
  have e2 : v2 s = pv z ++ (pv (l.length : Int) ++ catR l) := by unfold v2; rw [e1, a1]
  have e3 : v3 s = pv (l.length : Int) ++ catR l := by unfold v3; rw [e2, a2]
  have e4 : v4 s = catR l := by unfold v4; rw [e3, a3]
  have eN : vN s = l.length := by unfold vN; rw [e3, a3]; simp only; rw [if_pos (by omega)]; simp
  have eL : vL s = l := by unfold vL; rw [e4, eN, rdv_put hm _ (Nat.le_refl _)]; simp
  have eC : vC s = vc l x y z := by unfold vC; rw [eL, eB, e1, e2, a0, a1, a2]
  refine ⟨?_, ?_, eC, ?_, ?_, ?_, ?_, ?_, ?_, ?_, ?_⟩
  · rw [eB, ← eh, ← e0, hs]
  · rw [eB, ← eh]; exact ez
  · unfold vOk; rw [eC, h, hs]; simp
  · rw [eB, b0]
  · rw [e1, b1]
  · rw [e2, b2]
  · rw [e3, b3]
  · rw [e3, a3]; simp only; omega
  · intro j hj
    rw [eN] at hj
    rw [e4, rdv_put hm j (by omega)]
    show mtS (catR (l.drop j)) = true
    rw [List.drop_eq_getElem_cons (by omega), catR]
    exact (mt_put (hm _ (List.getElem_mem _)) _).2.2
  · rw [e4, eN, rdv_put hm _ (Nat.le_refl _)]
    show (catR (l.drop l.length)).size = 0
    rw [List.drop_length]; rfl

theorem vOk_out {s : ByteArray} (h : vOk s = true) : versB (vC s) = true ∧ versT (vC s) = s := by
  unfold vOk at h
  rw [Bool.and_eq_true] at h
  exact ⟨h.1, of_decide_eq_true h.2⟩
theorem ver_ok {s : ByteArray} (h : vOk s = true) :
    s = sect (vB s) ∧ (vB s).size ≤ 60000 ∧ (li (vB s)).2.2 = true ∧ (li (v1 s)).2.2 = true ∧ (li (v2 s)).2.2 = true ∧ (li (v3 s)).2.2 = true ∧ (rnum (v3 s)).1 ≤ 30 ∧ (∀ j, j < vN s → mtS (rdv (v4 s) j).2 = true) ∧ (rdv (v4 s) (vN s)).2.size = 0 := by
  have h1 := vOk_out h
  obtain ⟨a, b, _, _, c, d, e, f, g, i, j⟩ := ver_put h1.1 h1.2
  exact ⟨a, b, c, d, e, f, g, i, j⟩

theorem ba_empty {x : ByteArray} (h : x.size = 0) : x = ⟨#[]⟩ := by
  apply ByteArray.ext
  exact Array.eq_empty_of_size_eq_zero h
theorem head_vc (l : List Meta1) (x y z : Int) : headT (vc l x y z) = pv x ++ (pv y ++ (pv z ++ pv (l.length : Int))) := by
  unfold headT
  simp only [ByteArray.append_assoc]
  rfl
/-- What the model takes whole is such a version. -/
theorem ver_back {s : ByteArray} (hs : s = sect (vB s)) (l0 : (li (vB s)).2.2 = true) (l1 : (li (v1 s)).2.2 = true) (l2 : (li (v2 s)).2.2 = true) (l3 : (li (v3 s)).2.2 = true) (hn : (rnum (v3 s)).1 ≤ 30)
    (hm : ∀ j, j < vN s → mtS (rdv (v4 s) j).2 = true) (hz : (rdv (v4 s) (vN s)).2.size = 0) (hv : versB (vC s) = true) : vOk s = true := by
  have eN : ((vN s : Nat) : Int) = (rnum (v3 s)).1 := by
    have h0 := (li_rnum l3).2.2.1
    unfold vN; rw [if_pos (by omega)]; omega
  have hb := rdv_back (v4 s) (vN s) hm
  have hz' := ba_empty hz
  rw [hz', append_nilV] at hb
  have h3 := rnum_backV (li_rnum l3).2.1
  have h2 := rnum_backV (li_rnum l2).2.1
  have h1 := rnum_backV (li_rnum l1).2.1
  have h0 := rnum_backV (li_rnum l0).2.1
  unfold vOk
  rw [hv, Bool.true_and]
  refine decide_eq_true ?_
  rw [← v1_def] at h0
  rw [← v2_def] at h1
  rw [← v3_def] at h2
  rw [← v4_def] at h3
  have hb' : catR (vL s) = v4 s := by rw [vL_def]; exact hb
  have eC : vC s = vc (vL s) (rnum (vB s)).1 (rnum (v1 s)).1 (rnum (v2 s)).1 := by rw [vC]
  have hl := vL_len s
  rw [eC] at hv ⊢
  generalize vL s = l at hb' hv hl ⊢
  rw [← hl] at eN
  generalize vB s = B at *
  generalize v1 s = R1 at *
  generalize v2 s = R2 at *
  generalize v3 s = R3 at *
  generalize v4 s = R4 at *
  have e : headT (vc l (rnum B).1 (rnum R1).1 (rnum R2).1) ++ catR l = B := by
    rw [head_vc, ByteArray.append_assoc, ByteArray.append_assoc, ByteArray.append_assoc, hb', eN, h3, h2, h1, h0]
  have er : rowsT (vc l (rnum B).1 (rnum R1).1 (rnum R2).1).r0 (headT (vc l (rnum B).1 (rnum R1).1 (rnum R2).1)) (vc l (rnum B).1 (rnum R1).1 (rnum R2).1).n0 = headT (vc l (rnum B).1 (rnum R1).1 (rnum R2).1) ++ catR l := by
    have := rowsT_cat l (headT (vc l (rnum B).1 (rnum R1).1 (rnum R2).1)) l.length (Nat.le_refl _)
    rw [List.take_length] at this
    exact this
  unfold versT
  rw [if_pos hv, er]
  rw [e]
  exact hs.symm

end Go.Proofs.Ytplbhgcibfajaaa
