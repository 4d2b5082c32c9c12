/- What the law on more users of a Bloom filter draws besides. -/
import Derived.Test.YtonkjdjancnajacLBlooms
import Derived.Test.YtonkjdjancnajacLBloomOf
namespace Go.Proofs.Ytonkjdjancnajac
set_option maxRecDepth 100000
open Go.RowKit Go.Deep

theorem FAt.set {w : World} {F : Nat} {kd sd pr : Int} {bs : ByteArray} (h : FAt w F kd sd pr bs) (k' s' p' : Int) (b' : ByteArray) :
    FAt ((((w.setCell ⟨F, 0, none⟩ (.int .i64 k')).setCell ⟨F, 1, none⟩ (.int .i64 s')).setCell ⟨F, 2, none⟩ (.int .i64 p')).setCell ⟨F, 3, none⟩ (.string b')) F k' s' p' b' := by
  have h0 := heap_setCell_same w F 0 _ _ (.int .i64 k') h
  have h1 := heap_setCell_same _ F 1 _ _ (.int .i64 s') h0
  have h2 := heap_setCell_same _ F 2 _ _ (.int .i64 p') h1
  exact heap_setCell_same _ F 3 _ _ (.string b') h2

theorem FAt.set2 {w : World} {F : Nat} {kd sd pr : Int} {bs : ByteArray} (h : FAt w F kd sd pr bs) (p' : Int) : FAt (w.setCell ⟨F, 2, none⟩ (.int .i64 p')) F kd sd p' bs :=
  heap_setCell_same w F 2 _ _ (.int .i64 p') h

theorem FAt.other {w : World} {F : Nat} {kd sd pr : Int} {bs : ByteArray} (h : FAt w F kd sd pr bs) (g o : Nat) (v : Value) (hg : g ≠ F) : FAt (w.setCell ⟨g, o, none⟩ v) F kd sd pr bs := by
  unfold FAt; rw [heap_setCell_other _ _ _ _ (by simpa using hg.symm)]; exact h

theorem FAt.mv {w w' : World} {F g : Nat} {kd sd pr : Int} {bs : ByteArray} (h : FAt w F kd sd pr bs) (hm : Mv g w w') (hg : F ≠ g) : FAt w' F kd sd pr bs := (hm.block F h.lt hg).trans h

/-- The reader stays where another block is written. -/
theorem Rd.put {W w : World} {g : Nat} {a : Option Addr} {len cap : Nat} (h : Rd W w g a len cap) (T o : Nat) (v : Value) (h1 : T ≠ g) (h2 : W.heap.size ≤ T) : Rd W (w.setCell ⟨T, o, none⟩ v) g a len cap := by
  obtain ⟨hnew, hlt, hlow, h0, ⟨p, hp, hp1⟩, hf⟩ := h
  have hblk : (w.setCell ⟨T, o, none⟩ v).heap[g]? = w.heap[g]? := heap_setCell_other _ _ _ _ (by simpa using h1.symm)
  refine ⟨hnew, by simpa [World.setCell] using hlt, hlow.setCell h2 _, ?_, ⟨p, hp, ?_⟩, ?_⟩
  · rw [World.cell?_of_block (a := ⟨g, 0, none⟩) hblk]; exact h0
  · rw [World.cell?_of_block (a := ⟨g, 1, none⟩) hblk]; exact hp1
  · rw [World.frozen?_of_block (a := ⟨g, 1, none⟩) hblk]; exact hf

structure MayS (W w : World) (a : Option Addr) (len cap T g F : Nat) (k s p : Int) (b : ByteArray) (w' : World) : Prop where
  f : FAt w' F k s p b
  t : ∃ k s p b, FAt w' T k s p b
  r : Rd W w' g a len cap
  low : Below w.heap.size w w'
  n1 : T ≠ g
  n2 : F ≠ g
  n3 : T ≠ F
  n4 : W.heap.size ≤ T
  n5 : w.heap.size ≤ T

theorem MayS.call {W w : World} {a : Option Addr} {len cap T g F : Nat} {k s p : Int} {b : ByteArray} {x y : World} (h : MayS W w a len cap T g F k s p b x) (hr : Rd W y g a len cap) (hm : Mv g x y) (hg : w.heap.size ≤ g) : MayS W w a len cap T g F k s p b y :=
  ⟨h.f.mv hm h.n2, by obtain ⟨k', s', p', b', ht⟩ := h.t; exact ⟨k', s', p', b', ht.mv hm h.n1⟩, hr, h.low.trans (hm.below h.low.size hg), h.n1, h.n2, h.n3, h.n4, h.n5⟩

theorem MayS.store {W w : World} {a : Option Addr} {len cap T g F : Nat} {k s p : Int} {b : ByteArray} {x : World} (h : MayS W w a len cap T g F k s p b x) :
    MayS W w a len cap T g F k s p b ((((x.setCell ⟨T, 0, none⟩ (.int .i64 k)).setCell ⟨T, 1, none⟩ (.int .i64 s)).setCell ⟨T, 2, none⟩ (.int .i64 p)).setCell ⟨T, 3, none⟩ (.string b)) :=
  ⟨(((h.f.other T 0 _ h.n3).other T 1 _ h.n3).other T 2 _ h.n3).other T 3 _ h.n3, by obtain ⟨k', s', p', b', ht⟩ := h.t; exact ⟨k, s, p, b, ht.set k s p b⟩,
    (((h.r.put T 0 _ h.n1 h.n4).put T 1 _ h.n1 h.n4).put T 2 _ h.n1 h.n4).put T 3 _ h.n1 h.n4,
    (((h.low.setCell h.n5 _).setCell h.n5 _).setCell h.n5 _).setCell h.n5 _, h.n1, h.n2, h.n3, h.n4, h.n5⟩

theorem MayS.cells {W w : World} {a : Option Addr} {len cap T g F : Nat} {k s p : Int} {b : ByteArray} {x : World} (h : MayS W w a len cap T g F k s p b x) :
    ∃ k s p b, (x.cell? ⟨T, 0, none⟩ = some (.int .i64 k) ∧ x.cell? ⟨T, 1, none⟩ = some (.int .i64 s) ∧ x.cell? ⟨T, 2, none⟩ = some (.int .i64 p) ∧ x.cell? ⟨T, 3, none⟩ = some (.string b)) ∧ (x.frozen? ⟨T, 0, none⟩ = false ∧ x.frozen? ⟨T, 1, none⟩ = false ∧ x.frozen? ⟨T, 2, none⟩ = false ∧ x.frozen? ⟨T, 3, none⟩ = false) := by
  obtain ⟨k, s, p, b, ht⟩ := h.t
  exact ⟨k, s, p, b, ht.cells, frozen_of_row _ _ _ _ _ ht, frozen_of_row _ _ _ _ _ ht, frozen_of_row _ _ _ _ _ ht, frozen_of_row _ _ _ _ _ ht⟩

end Go.Proofs.Ytonkjdjancnajac
