/- VersionText, of the program and of the model; sections. (By gen_vtext.py.) -/
import Derived.Test.YtplbhgcibfajaaaVersS
import Derived.Test.YtplbhgcibfajaaaText
import Derived.Test.YtplbhgcibfajaaaCrc
import Derived.Test.YtplbhgcibfajaaaFixed
namespace Go.Proofs.Ytplbhgcibfajaaa
set_option maxRecDepth 100000
open Go.RowKit Go.Deep

theorem putTextV_size (s : ByteArray) : s.size + 1 ≤ (putText s).size ∧ (putText s).size ≤ s.size + 10 := by
  have := pv_size s.size
  rw [putText, ByteArray.size_append]; omega
theorem ret_strV {a b : ByteArray} (h : a = b) : Ending.returned (.string a) = .returned (.string b) := by rw [h]
theorem empty_app (s : ByteArray) : (⟨#[]⟩ : ByteArray) ++ s = s := by
  apply ByteArray.ext; simp

/-- A section: a text and its sum. -/
def sect (s : ByteArray) : ByteArray := putText s ++ fx4 (crc s)

/-- The bytes of file i. -/
def rowT (O : Metas) (i : Nat) : ByteArray := pv (O.N i) ++ pv (O.L i) ++ putText (O.F i) ++ putText (O.Z i) ++ pv (O.C i)
def headT (c : VersionC) : ByteArray := pv c.x1 ++ pv c.x2 ++ pv c.x3 ++ pv (c.n0 : Int)
/-- The bytes of the first k files, behind those of s. -/
def rowsT (O : Metas) (s : ByteArray) : Nat → ByteArray
  | 0 => s
  | k + 1 => rowsT O s k ++ rowT O k
def versT (c : VersionC) : ByteArray := if versB c then sect (rowsT c.r0 (headT c) c.n0) else ⟨#[]⟩

theorem fileB_users {x0 x1 : Int} {x2 x3 : ByteArray} {x4 nx : Int} (h : fileB x0 x1 x2 x3 x4 nx = true) : x2.size ≤ 40 ∧ x3.size ≤ 40 ∧ 1 ≤ x0 ∧ x0 < nx ∧ 0 ≤ x1 ∧ x1 ≤ 3 ∧ 1 ≤ x4 ∧ x4 ≤ 400 := by
  unfold fileB at h
  simp only [Bool.and_eq_true, decide_eq_true_eq] at h
  obtain ⟨⟨⟨⟨⟨⟨⟨⟨a, b⟩, c⟩, d⟩, e⟩, f⟩, _⟩, g⟩, i⟩ := h
  exact ⟨(userB_bd e).2, (userB_bd f).2, a, b, c, d, g, i⟩
theorem rowT_size {O : Metas} {i : Nat} {nx : Int} (h : stepB O nx i = true) : (rowT O i).size ≤ 130 := by
  have h1 := fileB_users (stepB_file h)
  have h2 := putTextV_size (O.F i)
  have h3 := putTextV_size (O.Z i)
  have h4 := pv_size (O.N i)
  have h5 := pv_size (O.L i)
  have h6 := pv_size (O.C i)
  unfold rowT
  simp only [ByteArray.size_append]
  omega
theorem headT_size (c : VersionC) : (headT c).size ≤ 40 := by
  have h1 := pv_size c.x1
  have h2 := pv_size c.x2
  have h3 := pv_size c.x3
  have h4 := pv_size (c.n0 : Int)
  unfold headT
  simp only [ByteArray.size_append]
  omega
theorem rowsT_size {O : Metas} {s : ByteArray} {nx : Int} : ∀ k, (∀ i, i < k → stepB O nx i = true) → (rowsT O s k).size ≤ s.size + 130 * k
  | 0, _ => by simp [rowsT]
  | k + 1, h => by
    have h1 := rowsT_size (s := s) k fun i hi => h i (by omega)
    have h2 := rowT_size (h k (by omega))
    rw [rowsT, ByteArray.size_append]
    omega

end Go.Proofs.Ytplbhgcibfajaaa
