/-
  What do of the statements on calls does, the other deeds; then any deed.
-/
import Derived.Test.YtjgpolaogneoaaaRDA
import Derived.Test.YtjgpolaogneoaaaRDB
import Derived.Test.YtjgpolaogneoaaaRDC
import Derived.Test.YtjgpolaogneoaaaRDD
import Derived.Test.YtjgpolaogneoaaaRDE
import Derived.Test.YtjgpolaogneoaaaRDF
namespace Go.Proofs.Ytjgpolaogneoaaa
open Go.RowKit Go.ChangeShapes Go.WideShapes Go.ChangeAt
set_option linter.unusedVariables false
set_option linter.unusedSimpArgs false
set_option maxRecDepth 100000
theorem do_c {w : World} {B c r s t : Nat} {l : Fr.Pk} {C R : Cl} {F : Nat → Tk} {n : Nat} (h : Bo w B c r s t l C R F n) (hn : n ≤ 100) (x : Dr) (hx : x.Wf) :
    Calls Try.prog 24 #[pC B, x.val] w (DoP w B c r s t n) := by
  by_cases h0 : x.k = 0
  · exact do_call h hn x h0
  · by_cases h1 : x.k = 1
    · exact do_tick h hn x hx h1
    · by_cases h2 : x.k = 2
      · cases ho : x.own with
        | false => exact do_take_false h hn x hx h2 ho
        | true => exact do_take_true h hn x hx h2 ho
      · by_cases h3 : x.k = 3
        · exact do_cancel h hn x hx h3
        · by_cases h4 : x.k = 4
          · cases ho : x.own with
            | false => exact do_ktake_false h hn x hx h4 ho
            | true => exact do_ktake_true h hn x hx h4 ho
          · by_cases h5 : x.k = 5
            · exact do_reply h hn x hx h5
            · exact do_none h x (beq_eq_false_iff_ne.2 h0) (beq_eq_false_iff_ne.2 h1) (beq_eq_false_iff_ne.2 h2) (beq_eq_false_iff_ne.2 h3) (beq_eq_false_iff_ne.2 h4) (beq_eq_false_iff_ne.2 h5)
end Go.Proofs.Ytjgpolaogneoaaa
