/-
  Plain laws on numbers for the package bits: what Zig, Zag, Pack, Make, Turn, Low come to as arithmetic on integers; no program is named here.
-/
import Derived.WalkKit
import Derived.ProofKit
namespace Go.Proofs.YthoaiapfjbgfhaaDoor.M
set_option linter.unusedVariables false
open Go.RowKit
theorem wrap_i64 (n : Int) : IntKind.i64.wrap n = wrap64 n := by
 rw [IntKind.wrap_i64]; unfold wrap64; omega
/-! ### Make -/
/-! ### Turn -/
/-! ### Low -/
/-! ### Fold -/
def foldS (s b : Int) : Int := IntKind.u32.wrap (bits .xor .u32 s b * 16777619)
def foldF (l : List Int) : Int := l.foldl foldS 2166136261
/-! ### Both ways -/
end Go.Proofs.YthoaiapfjbgfhaaDoor.M
