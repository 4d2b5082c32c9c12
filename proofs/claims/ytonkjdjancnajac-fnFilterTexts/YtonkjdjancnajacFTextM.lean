/- A filter's text, read: what comes back. No walk. -/
import Derived.Test.YtonkjdjancnajacFRead2
import Derived.Test.YtonkjdjancnajacFText
namespace Go.Proofs.Ytonkjdjancnajac
set_option maxRecDepth 100000
open Go.RowKit

theorem rf_ok {kd sd pr : Int} {bs : ByteArray} (h : filterOkB kd sd pr bs = true) : RF (filterText kd sd pr bs) (.tuple #[.agg #[.int .i64 kd, .int .i64 sd, .int .i64 pr, .string bs], .bool true]) := by
  obtain ⟨k0, k1, s0, s1, p0, p1, hb⟩ := filterOk_bd h
  have e : filterText kd sd pr bs = pv kd ++ (pv sd ++ (pv pr ++ putText bs)) := by
    unfold filterText; rw [if_pos h, ByteArray.append_assoc, ByteArray.append_assoc]
  rw [e]
  have hp : putText bs = pv bs.size ++ bs := rfl
  exact .ok kd _ _ sd _ _ pr _ (putText bs) bs.size (pv bs.size).size bs (take_put kd k0 (by omega) _) (extract_behind _ _) (take_put sd s0 (by omega) _) (extract_behind _ _) (take_put pr p0 (by omega) _) (extract_behind _ _)
    (by rw [hp]; exact take_put _ (by omega) (by omega) _) (by rw [hp, ByteArray.size_append]; omega) (by rw [hp, ByteArray.size_append]) (by rw [hp]; exact extract_behind _ _) h

theorem rf_bad {kd sd pr : Int} {bs : ByteArray} (h : filterOkB kd sd pr bs = false) : RF (filterText kd sd pr bs) badF := by
  have e : filterText kd sd pr bs = ⟨#[]⟩ := by unfold filterText; rw [h]; rfl
  rw [e]
  exact .f1 tva_empty

theorem rf_back {s : ByteArray} {kd sd pr : Int} {bs : ByteArray} (h : RF s (.tuple #[.agg #[.int .i64 kd, .int .i64 sd, .int .i64 pr, .string bs], .bool true])) : filterText kd sd pr bs = s ∧ filterOkB kd sd pr bs = true := by
  generalize hv : (Value.tuple #[.agg #[.int .i64 kd, .int .i64 sd, .int .i64 pr, .string bs], .bool true]) = v at h
  cases h with
  | ok n1 k1 r1 n2 k2 r2 n3 k3 r3 m k bs' h1 e1 h2 e2 h3 e3 h4 h5 h6 e4 h7 =>
    simp only [Value.tuple.injEq, Array.mk.injEq, List.cons.injEq, Value.agg.injEq, Value.int.injEq, Value.string.injEq, and_true, true_and] at hv
    obtain ⟨rfl, rfl, rfl, rfl⟩ := hv
    refine ⟨?_, h7⟩
    obtain ⟨_, _, q1⟩ := put_take s h1
    obtain ⟨_, _, q2⟩ := put_take r1 h2
    obtain ⟨_, _, q3⟩ := put_take r2 h3
    obtain ⟨_, _, q4⟩ := put_take r3 h4
    have j1 := extract_join s k1
    have j2 := extract_join r1 k2
    have j3 := extract_join r2 k3
    have j4 := extract_join r3 k
    rw [e1, ← q1] at j1
    rw [e2, ← q2] at j2
    rw [e3, ← q3] at j3
    rw [e4, ← q4] at j4
    have hm : bs.size = m := by rw [← e4]; simp; omega
    unfold filterText
    rw [if_pos h7, putText, hm, j4, ByteArray.append_assoc, ByteArray.append_assoc, j3, j2, j1]
  | _ => simp [badF] at hv

theorem filterText_size (kd sd pr : Int) (bs : ByteArray) : (filterText kd sd pr bs).size ≤ bs.size + 40 := by
  unfold filterText
  split
  · have h1 := pv_size kd
    have h2 := pv_size sd
    have h3 := pv_size pr
    have h4 := pv_size bs.size
    rw [putText, ByteArray.size_append, ByteArray.size_append, ByteArray.size_append, ByteArray.size_append]
    omega
  · show 0 ≤ _; omega

end Go.Proofs.Ytonkjdjancnajac
