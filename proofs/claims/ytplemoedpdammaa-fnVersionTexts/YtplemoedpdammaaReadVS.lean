/- ReadVersion of the model. (By gen_readvs2.py.) -/
import Derived.Test.YtplemoedpdammaaReadVL
import Derived.Test.YtplemoedpdammaaReadVH
namespace Go.Proofs.Ytplemoedpdammaa
set_option maxRecDepth 100000
open Go.RowKit Go.Deep

theorem spec_ReadVersion (s : ByteArray) (hs : s.size ≤ 1048576) (w : World) :
    Calls Try.prog 28 #[.string s] w fun e w' => (∃ v, e = .returned (.tuple #[v, .bool (vOk s)]) ∧ VersionOwn w' w.heap.size v (readV s)) ∧ Below w.heap.size w w' := by
  by_cases hsec : sect (vB s) = s
  · cases h0 : (li (vB s)).2.2 with
    | false => exact spec_ReadVersion_0 s hs hsec h0 w
    | true =>
      cases h1 : (li (v1 s)).2.2 with
      | false => exact spec_ReadVersion_1 s hs hsec h0 h1 w
      | true =>
        cases h2 : (li (v2 s)).2.2 with
        | false => exact spec_ReadVersion_2 s hs hsec h0 h1 h2 w
        | true =>
          cases h3 : (li (v3 s)).2.2 with
          | false => exact spec_ReadVersion_3 s hs hsec h0 h1 h2 h3 w
          | true =>
            by_cases hn : (rnum (v3 s)).1 ≤ 30
            · exact spec_ReadVersion_loop s hs hsec h0 h1 h2 h3 hn w
            · exact spec_ReadVersion_many s hs hsec h0 h1 h2 h3 hn w
  · exact spec_ReadVersion_sec s hs hsec w

end Go.Proofs.Ytplemoedpdammaa
