/- The law FnKeys. -/
import Derived.Test.YtdiglhphoplplacKOrd
import Derived.Test.YtdiglhphoplplacDrawP4
import Derived.Test.YtdiglhphoplplacLKeyTexts
namespace Go.Proofs.Ytdiglhphoplplac
open Go.RowKit

set_option maxHeartbeats 40000000 in
set_option maxRecDepth 100000 in
theorem walk_FnKeys (v : Value) {w : World} (hv : IsBytes w v) (_w : World) :
    Calls Try.prog 3 #[v] w fun e w' => e = .returned (.bool true) ∧ Below w.heap.size w w' := by
  obtain ⟨a, len, cap, rfl, hc, hm⟩ := hv
  by_cases hbig : 1048576 < len
  · have hd : decide (1048576 < len) = true := by simp [hbig]
    go_enter Try.func3, Try.ntmps3
    go_wp2_with fail
    refine (laws_big a len cap hm _).mono ?_
    rintro e w1 ⟨rfl, rfl⟩
    go_wp2
    go_ret
    exact ⟨rfl, Below.refl _ _⟩
  · have hd : decide (1048576 < len) = false := by simp [hbig]
    have hl : len ≤ 1048576 := by omega
    have HC : Hid (IsCode w a len) := hc
    clear hc
    go_enter Try.func3, Try.ntmps3
    go_wp2_with fail
    refine (laws_big a len cap hm _).mono ?_
    rintro e w1 ⟨rfl, rfl⟩
    go_wp2_with fail
    refine (draw_KeyCmp w _ a len cap HC.out hl (Below.refl _ _)).mono ?_
    rintro e w1 ⟨u, q, k, u2, q2, k2, rfl, _, _, hB1⟩
    have hBa := (hB1.alloc hB1.size (.cells #[.string u, .int .i64 q, .int .i64 k] 25)).alloc (by have := hB1.size; simp; omega) (.cells #[.string u2, .int .i64 q2, .int .i64 k2] 25)
    have X1 := (Box3.new w1 (.string u) (.int .i64 q) (.int .i64 k) 25).alloc (.cells #[.string u2, .int .i64 q2, .int .i64 k2] 25)
    have X2 := Box3.new (w1.alloc (.cells #[.string u, .int .i64 q, .int .i64 k] 25)) (.string u2) (.int .i64 q2) (.int .i64 k2) 25
    have hz1 : (w1.alloc (.cells #[.string u, .int .i64 q, .int .i64 k] 25)).heap.size = w1.heap.size + 1 := by simp
    rw [hz1] at X2
    clear hz1 hB1
    go_wp2_with fail
    refine (draw_KeyOk w _ a len cap HC.out hl hBa).mono ?_
    rintro e w2 ⟨u3, q3, k3, rfl, _, _, _, _, _, hb2⟩
    have Y1 := (X1.below hb2).alloc (.cells #[.string u3, .int .i64 q3, .int .i64 k3] 25)
    have Y2 := (X2.below hb2).alloc (.cells #[.string u3, .int .i64 q3, .int .i64 k3] 25)
    have Y3 := Box3.new w2 (.string u3) (.int .i64 q3) (.int .i64 k3) 25
    have hfin : Hid (∀ w', Below (w2.alloc (.cells #[.string u3, .int .i64 q3, .int .i64 k3] 25)).heap.size (w2.alloc (.cells #[.string u3, .int .i64 q3, .int .i64 k3] 25)) w' → Below w.heap.size w w') := fun w' h =>
      below_alloc_trans (hBa.trans (hb2.mono hBa.size)) (hBa.trans (hb2.mono hBa.size)).size h
    obtain ⟨l1, x0, x1, x2⟩ := X1.below hb2
    obtain ⟨l2, y0, y1, y2⟩ := X2.below hb2
    clear X1 X2 hBa hb2
    go_wp2_with fail
    clear l1 x0 x1 x2 l2 y0 y1 y2
    generalize (w2.alloc (.cells #[.string u3, .int .i64 q3, .int .i64 k3] 25)) = V at Y1 Y2 Y3 hfin ⊢
    obtain ⟨l1, x0, x1, x2⟩ := Y1
    obtain ⟨l2, y0, y1, y2⟩ := Y2
    obtain ⟨l3, z0, z1, z2⟩ := Y3
    have hB := Below.refl V.heap.size V
    have hmn := keyCmp_neg u2 u q2 k2 q k
    have HT : Hid (keyOkB u q k = true → keyOkB u2 q2 k2 = true → keyOkB u3 q3 k3 = true → keyCmpI u q k u2 q2 k2 ≤ 0 → keyCmpI u2 q2 k2 u3 q3 k3 ≤ 0 → keyCmpI u q k u3 q3 k3 ≤ 0) := keyCmp_trans
    cases ha : keyOkB u q k with
    | false =>
      have hn : keyCmpI u q k u2 q2 k2 = 0 := keyCmp_badA ha
      have hm : keyCmpI u2 q2 k2 u q k = 0 := keyCmp_badB ha
      clear hmn HT
      go_wp2_with fail
      refine (calls_from hB (impl_KeyCmp u q k u2 q2 k2 _)).mono ?_
      try clear hC hF hZ
      clear hB
      rintro e w1 ⟨rfl, hB⟩
      obtain ⟨hC, hF, hZ⟩ := bfacts hB
      go_wp2_with fail
      refine (calls_from hB (spec_KeyCmp u q k u2 q2 k2 _)).mono ?_
      try clear hC hF hZ
      clear hB
      rintro e w1 ⟨rfl, hB⟩
      obtain ⟨hC, hF, hZ⟩ := bfacts hB
      go_wp2_with fail
      refine (calls_from hB (impl_KeyCmp u2 q2 k2 u q k _)).mono ?_
      try clear hC hF hZ
      clear hB
      rintro e w1 ⟨rfl, hB⟩
      obtain ⟨hC, hF, hZ⟩ := bfacts hB
      go_wp2_with fail
      refine (calls_from hB (impl_KeyOk u q k _)).mono ?_
      try clear hC hF hZ
      clear hB
      rintro e w1 ⟨rfl, hB⟩
      obtain ⟨hC, hF, hZ⟩ := bfacts hB
      go_wp2
      go_ret
      exact ⟨rfl, hfin.out _ hB⟩
    | true =>
      cases hb : keyOkB u2 q2 k2 with
      | false =>
        have hn : keyCmpI u q k u2 q2 k2 = 0 := keyCmp_badB hb
        have hm : keyCmpI u2 q2 k2 u q k = 0 := keyCmp_badA hb
        clear hmn HT
        go_wp2_with fail
        refine (calls_from hB (impl_KeyCmp u q k u2 q2 k2 _)).mono ?_
        try clear hC hF hZ
        clear hB
        rintro e w1 ⟨rfl, hB⟩
        obtain ⟨hC, hF, hZ⟩ := bfacts hB
        go_wp2_with fail
        refine (calls_from hB (spec_KeyCmp u q k u2 q2 k2 _)).mono ?_
        try clear hC hF hZ
        clear hB
        rintro e w1 ⟨rfl, hB⟩
        obtain ⟨hC, hF, hZ⟩ := bfacts hB
        go_wp2_with fail
        refine (calls_from hB (impl_KeyCmp u2 q2 k2 u q k _)).mono ?_
        try clear hC hF hZ
        clear hB
        rintro e w1 ⟨rfl, hB⟩
        obtain ⟨hC, hF, hZ⟩ := bfacts hB
        go_wp2_with fail
        refine (calls_from hB (impl_KeyOk u q k _)).mono ?_
        try clear hC hF hZ
        clear hB
        rintro e w1 ⟨rfl, hB⟩
        obtain ⟨hC, hF, hZ⟩ := bfacts hB
        go_wp2_with fail
        refine (calls_from hB (impl_KeyOk u2 q2 k2 _)).mono ?_
        try clear hC hF hZ
        clear hB
        rintro e w1 ⟨rfl, hB⟩
        obtain ⟨hC, hF, hZ⟩ := bfacts hB
        go_wp2
        go_ret
        exact ⟨rfl, hfin.out _ hB⟩
      | true =>
        have kc := kcase ha hb
        obtain ⟨n, hn⟩ : ∃ n, keyCmpI u q k u2 q2 k2 = n := ⟨_, rfl⟩
        rw [hn] at kc
        have hm : keyCmpI u2 q2 k2 u q k = -n := by rw [hmn, hn]
        clear hmn
        cases kc with
        | same =>
          have hm : keyCmpI u q k u q k = 0 := hm
          clear HT
          go_wp2_with fail
          refine (calls_from hB (impl_KeyCmp u q k u q k _)).mono ?_
          try clear hC hF hZ
          clear hB
          rintro e w1 ⟨rfl, hB⟩
          obtain ⟨hC, hF, hZ⟩ := bfacts hB
          go_wp2_with fail
          refine (calls_from hB (spec_KeyCmp u q k u q k _)).mono ?_
          try clear hC hF hZ
          clear hB
          rintro e w1 ⟨rfl, hB⟩
          obtain ⟨hC, hF, hZ⟩ := bfacts hB
          go_wp2_with fail
          refine (calls_from hB (impl_KeyCmp u q k u q k _)).mono ?_
          try clear hC hF hZ
          clear hB
          rintro e w1 ⟨rfl, hB⟩
          obtain ⟨hC, hF, hZ⟩ := bfacts hB
          go_wp2_with fail
          refine (calls_from hB (impl_KeyOk u q k _)).mono ?_
          try clear hC hF hZ
          clear hB
          rintro e w1 ⟨rfl, hB⟩
          obtain ⟨hC, hF, hZ⟩ := bfacts hB
          go_wp2_with fail
          refine (calls_from hB (impl_KeyOk u q k _)).mono ?_
          try clear hC hF hZ
          clear hB
          rintro e w1 ⟨rfl, hB⟩
          obtain ⟨hC, hF, hZ⟩ := bfacts hB
          go_wp2_with fail
          refine (calls_from hB (impl_KeyOk u3 q3 k3 _)).mono ?_
          try clear hC hF hZ
          clear hB
          rintro e w1 ⟨rfl, hB⟩
          obtain ⟨hC, hF, hZ⟩ := bfacts hB
          cases hc : keyOkB u3 q3 k3 with
          | false =>
            go_wp2
            go_ret
            exact ⟨rfl, hfin.out _ hB⟩
          | true =>
            go_wp2_with fail
            refine (calls_from hB (impl_KeyCmp u q k u3 q3 k3 _)).mono ?_
            try clear hC hF hZ
            clear hB
            rintro e w1 ⟨rfl, hB⟩
            obtain ⟨hC, hF, hZ⟩ := bfacts hB
            rcases keyCmp_three u u3 q k q3 k3 with hp | hp | hp
            · skip
              go_wp2_with fail
              refine (calls_from hB (impl_KeyCmp u q k u3 q3 k3 _)).mono ?_
              try clear hC hF hZ
              clear hB
              rintro e w1 ⟨rfl, hB⟩
              obtain ⟨hC, hF, hZ⟩ := bfacts hB
              go_wp2
              go_ret
              exact ⟨rfl, hfin.out _ hB⟩
            · skip
              go_wp2_with fail
              refine (calls_from hB (impl_KeyCmp u q k u3 q3 k3 _)).mono ?_
              try clear hC hF hZ
              clear hB
              rintro e w1 ⟨rfl, hB⟩
              obtain ⟨hC, hF, hZ⟩ := bfacts hB
              go_wp2
              go_ret
              exact ⟨rfl, hfin.out _ hB⟩
            · go_wp2
              go_ret
              exact ⟨rfl, hfin.out _ hB⟩
        | user =>
          rename_i fa fb fc
          rcases fc with rfl | rfl
          · have hm : keyCmpI u2 q2 k2 u q k = 1 := hm
            go_wp2_with fail
            refine (calls_from hB (impl_KeyCmp u q k u2 q2 k2 _)).mono ?_
            try clear hC hF hZ
            clear hB
            rintro e w1 ⟨rfl, hB⟩
            obtain ⟨hC, hF, hZ⟩ := bfacts hB
            go_wp2_with fail
            refine (calls_from hB (spec_KeyCmp u q k u2 q2 k2 _)).mono ?_
            try clear hC hF hZ
            clear hB
            rintro e w1 ⟨rfl, hB⟩
            obtain ⟨hC, hF, hZ⟩ := bfacts hB
            go_wp2_with fail
            refine (calls_from hB (impl_KeyCmp u2 q2 k2 u q k _)).mono ?_
            try clear hC hF hZ
            clear hB
            rintro e w1 ⟨rfl, hB⟩
            obtain ⟨hC, hF, hZ⟩ := bfacts hB
            go_wp2_with fail
            refine (calls_from hB (impl_KeyOk u q k _)).mono ?_
            try clear hC hF hZ
            clear hB
            rintro e w1 ⟨rfl, hB⟩
            obtain ⟨hC, hF, hZ⟩ := bfacts hB
            go_wp2_with fail
            refine (calls_from hB (impl_KeyOk u2 q2 k2 _)).mono ?_
            try clear hC hF hZ
            clear hB
            rintro e w1 ⟨rfl, hB⟩
            obtain ⟨hC, hF, hZ⟩ := bfacts hB
            go_wp2_with fail
            refine (calls_from hB (impl_KeyOk u3 q3 k3 _)).mono ?_
            try clear hC hF hZ
            clear hB
            rintro e w1 ⟨rfl, hB⟩
            obtain ⟨hC, hF, hZ⟩ := bfacts hB
            cases hc : keyOkB u3 q3 k3 with
            | false =>
              go_wp2
              go_ret
              exact ⟨rfl, hfin.out _ hB⟩
            | true =>
              go_wp2_with fail
              refine (calls_from hB (impl_KeyCmp u2 q2 k2 u3 q3 k3 _)).mono ?_
              try clear hC hF hZ
              clear hB
              rintro e w1 ⟨rfl, hB⟩
              obtain ⟨hC, hF, hZ⟩ := bfacts hB
              rcases keyCmp_three u2 u3 q2 k2 q3 k3 with hp | hp | hp
              · skip
                go_wp2_with fail
                refine (calls_from hB (impl_KeyCmp u q k u3 q3 k3 _)).mono ?_
                try clear hC hF hZ
                clear hB
                rintro e w1 ⟨rfl, hB⟩
                obtain ⟨hC, hF, hZ⟩ := bfacts hB
                have hr0 := HT.out ha hb hc (by rw [hn]; decide) (by rw [hp]; decide)
                rcases keyCmp_three u u3 q k q3 k3 with hr | hr | hr
                · go_wp2
                  go_ret
                  exact ⟨rfl, hfin.out _ hB⟩
                · go_wp2
                  go_ret
                  exact ⟨rfl, hfin.out _ hB⟩
                · rw [hr] at hr0; exact absurd hr0 (by decide)
              · skip
                go_wp2_with fail
                refine (calls_from hB (impl_KeyCmp u q k u3 q3 k3 _)).mono ?_
                try clear hC hF hZ
                clear hB
                rintro e w1 ⟨rfl, hB⟩
                obtain ⟨hC, hF, hZ⟩ := bfacts hB
                have hr0 := HT.out ha hb hc (by rw [hn]; decide) (by rw [hp]; decide)
                rcases keyCmp_three u u3 q k q3 k3 with hr | hr | hr
                · go_wp2
                  go_ret
                  exact ⟨rfl, hfin.out _ hB⟩
                · go_wp2
                  go_ret
                  exact ⟨rfl, hfin.out _ hB⟩
                · rw [hr] at hr0; exact absurd hr0 (by decide)
              · go_wp2
                go_ret
                exact ⟨rfl, hfin.out _ hB⟩
          · have hm : keyCmpI u2 q2 k2 u q k = -1 := hm
            clear HT
            go_wp2_with fail
            refine (calls_from hB (impl_KeyCmp u q k u2 q2 k2 _)).mono ?_
            try clear hC hF hZ
            clear hB
            rintro e w1 ⟨rfl, hB⟩
            obtain ⟨hC, hF, hZ⟩ := bfacts hB
            go_wp2_with fail
            refine (calls_from hB (spec_KeyCmp u q k u2 q2 k2 _)).mono ?_
            try clear hC hF hZ
            clear hB
            rintro e w1 ⟨rfl, hB⟩
            obtain ⟨hC, hF, hZ⟩ := bfacts hB
            go_wp2_with fail
            refine (calls_from hB (impl_KeyCmp u2 q2 k2 u q k _)).mono ?_
            try clear hC hF hZ
            clear hB
            rintro e w1 ⟨rfl, hB⟩
            obtain ⟨hC, hF, hZ⟩ := bfacts hB
            go_wp2_with fail
            refine (calls_from hB (impl_KeyOk u q k _)).mono ?_
            try clear hC hF hZ
            clear hB
            rintro e w1 ⟨rfl, hB⟩
            obtain ⟨hC, hF, hZ⟩ := bfacts hB
            go_wp2_with fail
            refine (calls_from hB (impl_KeyOk u2 q2 k2 _)).mono ?_
            try clear hC hF hZ
            clear hB
            rintro e w1 ⟨rfl, hB⟩
            obtain ⟨hC, hF, hZ⟩ := bfacts hB
            go_wp2_with fail
            refine (calls_from hB (impl_KeyOk u3 q3 k3 _)).mono ?_
            try clear hC hF hZ
            clear hB
            rintro e w1 ⟨rfl, hB⟩
            obtain ⟨hC, hF, hZ⟩ := bfacts hB
            cases hc : keyOkB u3 q3 k3 with
            | false =>
              go_wp2
              go_ret
              exact ⟨rfl, hfin.out _ hB⟩
            | true =>
              go_wp2
              go_ret
              exact ⟨rfl, hfin.out _ hB⟩
        | newer =>
          have hm : keyCmpI u q2 k2 u q k = 1 := hm
          go_wp2_with fail
          refine (calls_from hB (impl_KeyCmp u q k u q2 k2 _)).mono ?_
          try clear hC hF hZ
          clear hB
          rintro e w1 ⟨rfl, hB⟩
          obtain ⟨hC, hF, hZ⟩ := bfacts hB
          go_wp2_with fail
          refine (calls_from hB (spec_KeyCmp u q k u q2 k2 _)).mono ?_
          try clear hC hF hZ
          clear hB
          rintro e w1 ⟨rfl, hB⟩
          obtain ⟨hC, hF, hZ⟩ := bfacts hB
          go_wp2_with fail
          refine (calls_from hB (impl_KeyCmp u q2 k2 u q k _)).mono ?_
          try clear hC hF hZ
          clear hB
          rintro e w1 ⟨rfl, hB⟩
          obtain ⟨hC, hF, hZ⟩ := bfacts hB
          go_wp2_with fail
          refine (calls_from hB (impl_KeyOk u q k _)).mono ?_
          try clear hC hF hZ
          clear hB
          rintro e w1 ⟨rfl, hB⟩
          obtain ⟨hC, hF, hZ⟩ := bfacts hB
          go_wp2_with fail
          refine (calls_from hB (impl_KeyOk u q2 k2 _)).mono ?_
          try clear hC hF hZ
          clear hB
          rintro e w1 ⟨rfl, hB⟩
          obtain ⟨hC, hF, hZ⟩ := bfacts hB
          go_wp2_with fail
          refine (calls_from hB (impl_KeyOk u3 q3 k3 _)).mono ?_
          try clear hC hF hZ
          clear hB
          rintro e w1 ⟨rfl, hB⟩
          obtain ⟨hC, hF, hZ⟩ := bfacts hB
          cases hc : keyOkB u3 q3 k3 with
          | false =>
            go_wp2
            go_ret
            exact ⟨rfl, hfin.out _ hB⟩
          | true =>
            go_wp2_with fail
            refine (calls_from hB (impl_KeyCmp u q2 k2 u3 q3 k3 _)).mono ?_
            try clear hC hF hZ
            clear hB
            rintro e w1 ⟨rfl, hB⟩
            obtain ⟨hC, hF, hZ⟩ := bfacts hB
            rcases keyCmp_three u u3 q2 k2 q3 k3 with hp | hp | hp
            · skip
              go_wp2_with fail
              refine (calls_from hB (impl_KeyCmp u q k u3 q3 k3 _)).mono ?_
              try clear hC hF hZ
              clear hB
              rintro e w1 ⟨rfl, hB⟩
              obtain ⟨hC, hF, hZ⟩ := bfacts hB
              have hr0 := HT.out ha hb hc (by rw [hn]; decide) (by rw [hp]; decide)
              rcases keyCmp_three u u3 q k q3 k3 with hr | hr | hr
              · go_wp2
                go_ret
                exact ⟨rfl, hfin.out _ hB⟩
              · go_wp2
                go_ret
                exact ⟨rfl, hfin.out _ hB⟩
              · rw [hr] at hr0; exact absurd hr0 (by decide)
            · skip
              go_wp2_with fail
              refine (calls_from hB (impl_KeyCmp u q k u3 q3 k3 _)).mono ?_
              try clear hC hF hZ
              clear hB
              rintro e w1 ⟨rfl, hB⟩
              obtain ⟨hC, hF, hZ⟩ := bfacts hB
              have hr0 := HT.out ha hb hc (by rw [hn]; decide) (by rw [hp]; decide)
              rcases keyCmp_three u u3 q k q3 k3 with hr | hr | hr
              · go_wp2
                go_ret
                exact ⟨rfl, hfin.out _ hB⟩
              · go_wp2
                go_ret
                exact ⟨rfl, hfin.out _ hB⟩
              · rw [hr] at hr0; exact absurd hr0 (by decide)
            · go_wp2
              go_ret
              exact ⟨rfl, hfin.out _ hB⟩
        | older =>
          rename_i fa fb fc fd
          have hdq : decide (q2 < q) = false := decide_eq_false fd
          have hm : keyCmpI u q2 k2 u q k = -1 := hm
          clear HT
          go_wp2_with fail
          refine (calls_from hB (impl_KeyCmp u q k u q2 k2 _)).mono ?_
          try clear hC hF hZ
          clear hB
          rintro e w1 ⟨rfl, hB⟩
          obtain ⟨hC, hF, hZ⟩ := bfacts hB
          go_wp2_with fail
          refine (calls_from hB (spec_KeyCmp u q k u q2 k2 _)).mono ?_
          try clear hC hF hZ
          clear hB
          rintro e w1 ⟨rfl, hB⟩
          obtain ⟨hC, hF, hZ⟩ := bfacts hB
          go_wp2_with fail
          refine (calls_from hB (impl_KeyCmp u q2 k2 u q k _)).mono ?_
          try clear hC hF hZ
          clear hB
          rintro e w1 ⟨rfl, hB⟩
          obtain ⟨hC, hF, hZ⟩ := bfacts hB
          go_wp2_with fail
          refine (calls_from hB (impl_KeyOk u q k _)).mono ?_
          try clear hC hF hZ
          clear hB
          rintro e w1 ⟨rfl, hB⟩
          obtain ⟨hC, hF, hZ⟩ := bfacts hB
          go_wp2_with fail
          refine (calls_from hB (impl_KeyOk u q2 k2 _)).mono ?_
          try clear hC hF hZ
          clear hB
          rintro e w1 ⟨rfl, hB⟩
          obtain ⟨hC, hF, hZ⟩ := bfacts hB
          go_wp2_with fail
          refine (calls_from hB (impl_KeyOk u3 q3 k3 _)).mono ?_
          try clear hC hF hZ
          clear hB
          rintro e w1 ⟨rfl, hB⟩
          obtain ⟨hC, hF, hZ⟩ := bfacts hB
          cases hc : keyOkB u3 q3 k3 with
          | false =>
            go_wp2
            go_ret
            exact ⟨rfl, hfin.out _ hB⟩
          | true =>
            go_wp2
            go_ret
            exact ⟨rfl, hfin.out _ hB⟩
        | kind =>
          rename_i fb fc fd
          rcases fd with rfl | rfl
          · have hm : keyCmpI u q k2 u q k = 1 := hm
            go_wp2_with fail
            refine (calls_from hB (impl_KeyCmp u q k u q k2 _)).mono ?_
            try clear hC hF hZ
            clear hB
            rintro e w1 ⟨rfl, hB⟩
            obtain ⟨hC, hF, hZ⟩ := bfacts hB
            go_wp2_with fail
            refine (calls_from hB (spec_KeyCmp u q k u q k2 _)).mono ?_
            try clear hC hF hZ
            clear hB
            rintro e w1 ⟨rfl, hB⟩
            obtain ⟨hC, hF, hZ⟩ := bfacts hB
            go_wp2_with fail
            refine (calls_from hB (impl_KeyCmp u q k2 u q k _)).mono ?_
            try clear hC hF hZ
            clear hB
            rintro e w1 ⟨rfl, hB⟩
            obtain ⟨hC, hF, hZ⟩ := bfacts hB
            go_wp2_with fail
            refine (calls_from hB (impl_KeyOk u q k _)).mono ?_
            try clear hC hF hZ
            clear hB
            rintro e w1 ⟨rfl, hB⟩
            obtain ⟨hC, hF, hZ⟩ := bfacts hB
            go_wp2_with fail
            refine (calls_from hB (impl_KeyOk u q k2 _)).mono ?_
            try clear hC hF hZ
            clear hB
            rintro e w1 ⟨rfl, hB⟩
            obtain ⟨hC, hF, hZ⟩ := bfacts hB
            go_wp2_with fail
            refine (calls_from hB (impl_KeyOk u3 q3 k3 _)).mono ?_
            try clear hC hF hZ
            clear hB
            rintro e w1 ⟨rfl, hB⟩
            obtain ⟨hC, hF, hZ⟩ := bfacts hB
            cases hc : keyOkB u3 q3 k3 with
            | false =>
              go_wp2
              go_ret
              exact ⟨rfl, hfin.out _ hB⟩
            | true =>
              go_wp2_with fail
              refine (calls_from hB (impl_KeyCmp u q k2 u3 q3 k3 _)).mono ?_
              try clear hC hF hZ
              clear hB
              rintro e w1 ⟨rfl, hB⟩
              obtain ⟨hC, hF, hZ⟩ := bfacts hB
              rcases keyCmp_three u u3 q k2 q3 k3 with hp | hp | hp
              · skip
                go_wp2_with fail
                refine (calls_from hB (impl_KeyCmp u q k u3 q3 k3 _)).mono ?_
                try clear hC hF hZ
                clear hB
                rintro e w1 ⟨rfl, hB⟩
                obtain ⟨hC, hF, hZ⟩ := bfacts hB
                have hr0 := HT.out ha hb hc (by rw [hn]; decide) (by rw [hp]; decide)
                rcases keyCmp_three u u3 q k q3 k3 with hr | hr | hr
                · go_wp2
                  go_ret
                  exact ⟨rfl, hfin.out _ hB⟩
                · go_wp2
                  go_ret
                  exact ⟨rfl, hfin.out _ hB⟩
                · rw [hr] at hr0; exact absurd hr0 (by decide)
              · skip
                go_wp2_with fail
                refine (calls_from hB (impl_KeyCmp u q k u3 q3 k3 _)).mono ?_
                try clear hC hF hZ
                clear hB
                rintro e w1 ⟨rfl, hB⟩
                obtain ⟨hC, hF, hZ⟩ := bfacts hB
                have hr0 := HT.out ha hb hc (by rw [hn]; decide) (by rw [hp]; decide)
                rcases keyCmp_three u u3 q k q3 k3 with hr | hr | hr
                · go_wp2
                  go_ret
                  exact ⟨rfl, hfin.out _ hB⟩
                · go_wp2
                  go_ret
                  exact ⟨rfl, hfin.out _ hB⟩
                · rw [hr] at hr0; exact absurd hr0 (by decide)
              · go_wp2
                go_ret
                exact ⟨rfl, hfin.out _ hB⟩
          · have hm : keyCmpI u q k2 u q k = -1 := hm
            clear HT
            go_wp2_with fail
            refine (calls_from hB (impl_KeyCmp u q k u q k2 _)).mono ?_
            try clear hC hF hZ
            clear hB
            rintro e w1 ⟨rfl, hB⟩
            obtain ⟨hC, hF, hZ⟩ := bfacts hB
            go_wp2_with fail
            refine (calls_from hB (spec_KeyCmp u q k u q k2 _)).mono ?_
            try clear hC hF hZ
            clear hB
            rintro e w1 ⟨rfl, hB⟩
            obtain ⟨hC, hF, hZ⟩ := bfacts hB
            go_wp2_with fail
            refine (calls_from hB (impl_KeyCmp u q k2 u q k _)).mono ?_
            try clear hC hF hZ
            clear hB
            rintro e w1 ⟨rfl, hB⟩
            obtain ⟨hC, hF, hZ⟩ := bfacts hB
            go_wp2_with fail
            refine (calls_from hB (impl_KeyOk u q k _)).mono ?_
            try clear hC hF hZ
            clear hB
            rintro e w1 ⟨rfl, hB⟩
            obtain ⟨hC, hF, hZ⟩ := bfacts hB
            go_wp2_with fail
            refine (calls_from hB (impl_KeyOk u q k2 _)).mono ?_
            try clear hC hF hZ
            clear hB
            rintro e w1 ⟨rfl, hB⟩
            obtain ⟨hC, hF, hZ⟩ := bfacts hB
            go_wp2_with fail
            refine (calls_from hB (impl_KeyOk u3 q3 k3 _)).mono ?_
            try clear hC hF hZ
            clear hB
            rintro e w1 ⟨rfl, hB⟩
            obtain ⟨hC, hF, hZ⟩ := bfacts hB
            cases hc : keyOkB u3 q3 k3 with
            | false =>
              go_wp2
              go_ret
              exact ⟨rfl, hfin.out _ hB⟩
            | true =>
              go_wp2
              go_ret
              exact ⟨rfl, hfin.out _ hB⟩

end Go.Proofs.Ytdiglhphoplplac
