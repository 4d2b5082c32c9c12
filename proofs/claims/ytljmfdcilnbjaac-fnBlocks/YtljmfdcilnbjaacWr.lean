/- A writer of a block: its box and its two rows. -/
import Derived.Test.YtljmfdcilnbjaacCsr
import Derived.Test.YtljmfdcilnbjaacKText
import Derived.Test.YtljmfdcilnbjaacText
import Derived.Test.YtljmfdcilnbjaacReg
import Derived.Lib.AppendStr
import Derived.Deep.AppendLies
namespace Go.Proofs.Ytljmfdcilnbjaac
set_option maxRecDepth 100000
open Go.RowKit Go.Deep Go.Lib

theorem row_block {w w' : World} {B n size : Nat} {e : TypeId} {v : Value} {xs : List Value} (h : w.ownsRow B e size v n xs) (hb : ∀ g, g < w.heap.size → B ≤ g → v.ownBlock = some g → w'.heap[g]? = w.heap[g]?) : w'.ownsRow B e size v n xs := by
  refine ⟨h.1, ?_⟩
  rcases h.2 with hn | ⟨g, cap, cur, rfl, hg, hh, r⟩
  · exact .inl hn
  · exact .inr ⟨g, cap, cur, rfl, hg, by rw [hb g (Array.getElem?_eq_some_iff.1 hh).1 hg rfl]; exact hh, r⟩
theorem row_next {w w' : World} {B n size : Nat} {e : TypeId} {v : Value} {xs : List Value} (h : w.ownsRow B e size v n xs) (hb : Below w.heap.size w w') : w'.ownsRow B e size v n xs := row_block h fun g hg _ _ => hb.block g hg
theorem row_mv {w w' : World} {B n r size : Nat} {e : TypeId} {v : Value} {xs : List Value} (h : w.ownsRow B e size v n xs) (hm : Mv r w w') (hr : r < B) : w'.ownsRow B e size v n xs := row_block h fun g hg hB _ => hm.block g hg (by omega)
theorem row_shape {w : World} {B n size : Nat} {e : TypeId} {v : Value} {xs : List Value} (h : w.ownsRow B e size v n xs) : ∃ a c, v = .slice a n c := by
  rcases h.2 with ⟨rfl, e⟩ | ⟨g, cap, cur, rfl, _⟩
  · exact ⟨_, _, by rw [e]⟩
  · exact ⟨_, _, rfl⟩
/-- The block of a row is of the row's type. -/
theorem row_type {w : World} {B n size g : Nat} {e : TypeId} {v : Value} {xs : List Value} (h : w.ownsRow B e size v n xs) (hg : v.ownBlock = some g) : ∃ cur, w.heap[g]? = some (.cells cur e) := by
  rcases h.2 with ⟨rfl, _⟩ | ⟨g', cap, cur, rfl, _, hh, _⟩
  · simp [Value.ownBlock] at hg
  · have : g' = g := by simpa [Value.ownBlock] using hg
    subst this
    exact ⟨cur, hh⟩
theorem row_far {w : World} {B n size g : Nat} {e t : TypeId} {v : Value} {xs : List Value} {cs : Array Value} (h : w.ownsRow B e size v n xs) (hb : BoxIs w g cs t) (ht : e ≠ t) : some g ≠ v.ownBlock := by
  intro hg
  obtain ⟨cur, hc⟩ := row_type h hg.symm
  have h2 : w.heap[g]? = some (.cells cs t) := hb
  rw [hc] at h2
  injection h2 with h2
  injection h2 with _ h2
  exact ht h2
theorem rows_far {w : World} {B B' n n' size size' : Nat} {e e' : TypeId} {v v' : Value} {xs xs' : List Value} (h : w.ownsRow B e size v n xs) (h' : w.ownsRow B' e' size' v' n' xs') (ht : e ≠ e') : v.ownBlock = none ∨ v.ownBlock ≠ v'.ownBlock := by
  rcases hv : v.ownBlock with _ | g
  · exact .inl rfl
  · right
    intro hg
    obtain ⟨cur, hc⟩ := row_type h hv
    obtain ⟨cur', hc'⟩ := row_type h' hg.symm
    rw [hc] at hc'
    injection hc' with h2
    injection h2 with _ h2
    exact ht h2

/-- The writer in block F, its rows from block B on; the entry at hand in block G. -/
structure WrS (w : World) (F B G m p : Nat) (ah : ByteArray) (v3 v4 ve vb : Value) (bs : ByteArray) (ms : List Int) (u : ByteArray) (q k : Int) (x : ByteArray) (y : World) : Prop where
  bx : BoxIs y F #[.int .i64 m, .int .i64 p, .string ah, v3, v4] 51
  eb : BoxIs y G #[.string u, .int .i64 q, .int .i64 k, .string x] 53
  oe : y.ownsRow B 5 1 ve bs.size (strCells bs)
  ob : y.ownsRow B 58 1 vb ms.length (ms.map (Value.int .u32))
  low : Below F w y
  n1 : F < B
  hB : B ≤ y.heap.size

section
variable {w : World} {F B G m p : Nat} {ah : ByteArray} {v3 v4 ve vb : Value} {bs : ByteArray} {ms : List Int} {u : ByteArray} {q k : Int} {x : ByteArray} {y z : World}

theorem WrS.next (h : WrS w F B G m p ah v3 v4 ve vb bs ms u q k x y) (hb : Below y.heap.size y z) : WrS w F B G m p ah v3 v4 ve vb bs ms u q k x z :=
  ⟨h.bx.next hb, h.eb.next hb, row_next h.oe hb, row_next h.ob hb, h.low.trans (hb.mono (Nat.le_of_lt h.bx.lt)), h.n1, Nat.le_trans h.hB hb.size⟩
theorem WrS.drew (h : WrS w F B G m p ah v3 v4 ve vb bs ms u q k x y) : WrS w F B G m p ah v3 v4 ve vb bs ms u q k x y.drew := h.next (Below.refl _ _).drew
theorem WrS.laid (h : WrS w F B G m p ah v3 v4 ve vb bs ms u q k x y) (o : Obj) : WrS w F B G m p ah v3 v4 ve vb bs ms u q k x (y.alloc o) := h.next (below_one y o)
theorem WrS.pass (h : WrS w F B G m p ah v3 v4 ve vb bs ms u q k x y) {p' : Nat} {s : ByteArray} (hx : BoxIs z F #[.int .i64 m, .int .i64 p', .string s, v3, v4] 51) (hm : Mv F y z) (hG : G ≠ F) : WrS w F B G m p' s v3 v4 ve vb bs ms u q k x z :=
  ⟨hx, h.eb.mv hm hG, row_mv h.oe hm h.n1, row_mv h.ob hm h.n1, h.low.trans (hm.below (Nat.le_of_lt h.bx.lt) (Nat.le_refl _)), h.n1, Nat.le_trans h.hB hm.size⟩
theorem WrS.appB (h : WrS w F B G m p ah v3 v4 ve vb bs ms u q k x y) (n : Int) {v' : Value} (ho : z.ownsRow B 58 1 v' (ms.length + 1) (ms.map (Value.int .u32) ++ [.int .u32 n])) (hg : y.grownBy z vb.ownBlock) : WrS w F B G m p ah v3 v4 ve v' bs (ms ++ [n]) u q k x z := by
  have hb : Below B y z := (Below.refl B y).grown hg h.hB fun k hk => (World.ownsRow.lt h.ob k hk).1
  refine ⟨h.bx.below hb h.n1, (hg.block G h.eb.lt (row_far h.ob h.eb (by decide))).trans h.eb, row_block h.oe fun g hg1 _ hv => hg.block g hg1 ?_, ?_, h.low.trans (hb.mono (Nat.le_of_lt h.n1)), h.n1, Nat.le_trans h.hB hb.size⟩
  · rcases rows_far h.oe h.ob (by decide) with e | e
    · rw [hv] at e; cases e
    · rw [← hv]; exact e
  · simpa using ho
theorem WrS.appE (h : WrS w F B G m p ah v3 v4 ve vb bs ms u q k x y) (s : ByteArray) {v' : Value} (ho : z.ownsRow B 5 1 v' (bs.size + s.size) (strCells bs ++ strCells s)) (hg : y.grownBy z ve.ownBlock) : WrS w F B G m p ah v3 v4 v' vb (bs ++ s) ms u q k x z := by
  have hb : Below B y z := (Below.refl B y).grown hg h.hB fun k hk => (World.ownsRow.lt h.oe k hk).1
  refine ⟨h.bx.below hb h.n1, (hg.block G h.eb.lt (row_far h.oe h.eb (by decide))).trans h.eb, ?_, row_block h.ob fun g hg1 _ hv => hg.block g hg1 ?_, h.low.trans (hb.mono (Nat.le_of_lt h.n1)), h.n1, Nat.le_trans h.hB hb.size⟩
  · have e : strCells (bs ++ s) = strCells bs ++ strCells s := by simp [strCells]
    rw [e, ByteArray.size_append]
    exact ho
  · rcases rows_far h.ob h.oe (by decide) with e | e
    · rw [hv] at e; cases e
    · rw [← hv]; exact e
theorem WrS.putE (h : WrS w F B G m p ah v3 v4 ve vb bs ms u q k x y) (hG : G ≠ F) : WrS w F B G m p ah ve v4 ve vb bs ms u q k x (y.setCell ⟨F, 3, none⟩ ve) := by
  have hm : Mv F y (y.setCell ⟨F, 3, none⟩ ve) := (Mv.refl _ _).setCell _
  exact ⟨heap_setCell_same y F 3 _ _ ve h.bx, h.eb.mv hm hG, row_mv h.oe hm h.n1, row_mv h.ob hm h.n1, h.low.trans (hm.below (Nat.le_of_lt h.bx.lt) (Nat.le_refl _)), h.n1, Nat.le_trans h.hB hm.size⟩
theorem WrS.putB (h : WrS w F B G m p ah v3 v4 ve vb bs ms u q k x y) (hG : G ≠ F) : WrS w F B G m p ah v3 vb ve vb bs ms u q k x (y.setCell ⟨F, 4, none⟩ vb) := by
  have hm : Mv F y (y.setCell ⟨F, 4, none⟩ vb) := (Mv.refl _ _).setCell _
  exact ⟨heap_setCell_same y F 4 _ _ vb h.bx, h.eb.mv hm hG, row_mv h.oe hm h.n1, row_mv h.ob hm h.n1, h.low.trans (hm.below (Nat.le_of_lt h.bx.lt) (Nat.le_refl _)), h.n1, Nat.le_trans h.hB hm.size⟩
theorem WrS.vlen (h : WrS w F B G m p ah v3 v4 ve vb bs ms u q k x y) : ∃ a c, ve = .slice a bs.size c := by
  rcases h.oe.2 with ⟨rfl, e⟩ | ⟨g, cap, cur, rfl, _⟩
  · exact ⟨_, _, by rw [e]⟩
  · exact ⟨_, _, rfl⟩
theorem WrS.blen (h : WrS w F B G m p ah v3 v4 ve vb bs ms u q k x y) : ∃ a c, vb = .slice a ms.length c := by
  rcases h.ob.2 with ⟨rfl, e⟩ | ⟨g, cap, cur, rfl, _⟩
  · exact ⟨_, _, by rw [e]⟩
  · exact ⟨_, _, rfl⟩
end

/-- AT A STEP OF A REGION: 'append(v, s...)', s a text. -/
theorem step_append_text {P : Program} {w : World} {ops : Array Oper} {o : Oper} {a : Act} {K : Act → World → Prop} {Q : Exit → Act → World → Prop} {E : Prop} (hgd : o.guard = none) (sl x : Operand) (t u : TypeId)
    (ho : o.op = .call { callee := .builtin .append, args := #[sl, x], argTypes := #[t, u] })
    (base : Nat) (e : TypeId) (i : TypeInfo) (ht : P.underlying t = some (.slice e)) (hu : P.underlying u = some .string) (hi : P.info? e = some i) (hz : i.zero = some (.int .u8 0))
    (hsize : i.size = 1) (hby : i.bytes = 1)
    (v : Value) (n : Nat) (xs : List Value) (hs : a.eval sl = v) (hown : w.ownsRow base e 1 v n xs) (s : ByteArray) (hx : a.eval x = .string s)
    (h63 : n + s.size ≤ maxLen) (hbytes : n + s.size ≤ 140737488355328) (hbase : base ≤ w.heap.size)
    (h : ∀ v' w', w'.ownsRow base e 1 v' (n + s.size) (xs ++ strCells s) → w.grownBy w' v.ownBlock → K (a.put o.dst v') w') :
    if Region.wanted o (yielded ops a.tmps) = true then Oper.wp P o a w K Q else E := by
  have hw : Region.wanted o (yielded ops a.tmps) = true := by simp [Region.wanted, hgd]
  rw [if_pos hw]
  obtain ⟨v', w', hr, h2, h3, h4⟩ := run_append_own_string (P := P) w base t u o.type e i ht hu hi hz hsize hby v n xs hown s h63 hbytes hbase
  unfold Oper.wp execOp
  simp only [ho, resolve, invoke, builtin, Sem.run_bind, Sem.run_pure, Result.andThen_ok, List.map_toArray, List.map_cons, List.map_nil, hs, hx, hr]
  exact h v' w' h2 h3

theorem u8_info : (Try.prog.info? 5).map (fun i => (i.zero, i.size, i.bytes)) = some (some (.int .u8 0), 1, 1) := by kernel_rfl
theorem u32_info : (Try.prog.info? 58).map (fun i => (i.zero, i.size, i.bytes)) = some (some (.int .u32 0), 1, 4) := by kernel_rfl

end Go.Proofs.Ytljmfdcilnbjaac
