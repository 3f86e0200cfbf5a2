/-
  An operation's bytes: putOp, written, Op of the package record.
-/
import Derived.Test.YthoaiapfjbgfhaaDoorLiBe
import Derived.Test.YthoaiapfjbgfhaaDoorLiAk
import Derived.Shelf.Abstract
namespace Go.Proofs.YthoaiapfjbgfhaaDoor
open Go.RowKit Go.ChangeShapes Go.WideShapes Go.ChangeAt Go.Shelf
set_option linter.unusedVariables false
set_option linter.unusedSimpArgs false
theorem num1_c {T base g : Nat} {zs : List Int} {n : Int} {w : World} (hp : Pile w T base g zs) (hn : zs.length < 900000) (h0 : 0 ≤ n) (h1 : n < 18446744073709551616) :
   Calls Tryd.prog 81 #[.pointer (some ⟨g, 0, none⟩), .int .u64 n, .int .i64 1] w fun e w' => e = .returned (.tuple #[]) ∧ Pile w' T base g (zs ++ beF n 1) ∧ KpT base g w w' :=
 number_c T base g zs n 1 w hp hn (by omega) h0 h1
theorem num2_c {T base g : Nat} {zs : List Int} {n : Int} {w : World} (hp : Pile w T base g zs) (hn : zs.length < 900000) (h0 : 0 ≤ n) (h1 : n < 18446744073709551616) :
   Calls Tryd.prog 81 #[.pointer (some ⟨g, 0, none⟩), .int .u64 n, .int .i64 2] w fun e w' => e = .returned (.tuple #[]) ∧ Pile w' T base g (zs ++ beF n 2) ∧ KpT base g w w' :=
 number_c T base g zs n 2 w hp hn (by omega) h0 h1
theorem num4_c {T base g : Nat} {zs : List Int} {n : Int} {w : World} (hp : Pile w T base g zs) (hn : zs.length < 900000) (h0 : 0 ≤ n) (h1 : n < 18446744073709551616) :
   Calls Tryd.prog 81 #[.pointer (some ⟨g, 0, none⟩), .int .u64 n, .int .i64 4] w fun e w' => e = .returned (.tuple #[]) ∧ Pile w' T base g (zs ++ beF n 4) ∧ KpT base g w w' :=
 number_c T base g zs n 4 w hp hn (by omega) h0 h1
theorem wtx_c {T base g : Nat} {zs : List Int} {s : ByteArray} {w : World} (hp : Pile w T base g zs) (hn : zs.length + s.size < 800000) :
   Calls Tryd.prog 82 #[.pointer (some ⟨g, 0, none⟩), .string s] w fun e w' => e = .returned (.tuple #[]) ∧ Pile w' T base g (zs ++ txF s) ∧ KpT base g w w' :=
 wtext_c T base g zs s w hp hn
end Go.Proofs.YthoaiapfjbgfhaaDoor
