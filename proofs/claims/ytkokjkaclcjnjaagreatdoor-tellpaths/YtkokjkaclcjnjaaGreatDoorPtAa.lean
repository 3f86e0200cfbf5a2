/-
  Plain laws on numbers for the package bits: what Zig, Zag, Pack, Make, Turn, Low come to as arithmetic on integers; no program is named here.
  What each function of the package bits, and of the document's answer for it, returns: one contract a function.
  An operation.
-/
import Derived.WalkKit
import Derived.ProofKit
import Derived.Test.YtkokjkaclcjnjaaGreatDoorRows
import Derived.OpenShut
import Derived.ShutString
import Derived.WalkSpells
import Derived.WalkLawsBesides
import Derived.Lib.SlBytesConst
import Derived.Deep.QuietTactic
import Derived.BigQuiet
namespace Go.Proofs.YtkokjkaclcjnjaaGreatDoor.M
set_option linter.unusedVariables false
open Go.RowKit
theorem wrap_i64 (n : Int) : IntKind.i64.wrap n = wrap64 n := by
 rw [IntKind.wrap_i64]; unfold wrap64; omega
/-! ### Make -/
/-! ### Turn -/
/-! ### Low -/
/-! ### Fold -/
def foldS (s b : Int) : Int := IntKind.u32.wrap (bits .xor .u32 s b * 16777619)
def foldF (l : List Int) : Int := l.foldl foldS 2166136261
/-! ### Both ways -/
end Go.Proofs.YtkokjkaclcjnjaaGreatDoor.M
namespace Go.Proofs.YtkokjkaclcjnjaaGreatDoor
open Go.RowKit Go.ChangeShapes Go.WideShapes Go.ChangeAt
set_option linter.unusedVariables false
set_option linter.unusedSimpArgs false
theorem bd_u32 {a : Int} (h : (Lit.int .u32 a).wf = true) : 0 ≤ a ∧ a < 4294967296 := by
 simp [Lit.wf, IntKind.min, IntKind.max, IntKind.signed, IntKind.bits] at h; omega
theorem bd_u8 {a : Int} (h : (Lit.int .u8 a).wf = true) : 0 ≤ a ∧ a < 256 := by
 simp [Lit.wf, IntKind.min, IntKind.max, IntKind.signed, IntKind.bits] at h; omega
theorem hid {p : Prop} (h : p) : Hid p := h
theorem wp_region_class {P : Program} {id : Nat} {Q : Exit → Act → World → Prop} {a : Act} {w : World} {l : List Oper} (hm : P.follows .mixedOrders = true) (hB : Region.lexB .any l.toArray = true)
   (h : wpQuiet P l.toArray (fun w' => Below w.heap.size w w') (fun a' => ∀ w', Below w.heap.size w w' → Q .normal a' w') l a) : (Code.region id l.toArray true).wp P Q a w :=
 wp_region_quiet (C := fun w' => Below w.heap.size w w') hm hB ⟨rfl, rfl, rfl, Nat.le_refl _, fun _ _ => rfl⟩ (by simpa using h)
theorem quiet_by {P : Program} {o : Oper} {a a' : Act} {C : World → Prop} {K : Act → Prop} {v : Value} (h1 : ∀ w, C w → o.quietAt P a C w v) (h2 : a.put o.dst v = a') (h3 : K a') : o.quiet P a C K :=
 ⟨v, h1, by rw [h2]; exact h3⟩
theorem class_of {P : Program} {f : FuncId} {args : Array Value} {W w : World} {v : Value} (hw : Below W.heap.size W w)
   (h : Calls P f args w fun e w' => e = .returned v ∧ Below w.heap.size w w') : Calls P f args w fun e w'' => e = .returned v ∧ Below W.heap.size W w'' :=
 h.mono fun _ _ ⟨he, hb⟩ => ⟨he, hw.trans (hb.mono hw.size)⟩
theorem class_same {P : Program} {f : FuncId} {args : Array Value} {W w : World} {v : Value} (hw : Below W.heap.size W w)
   (h : Calls P f args w fun e w' => e = .returned v ∧ w' = w) : Calls P f args w fun e w'' => e = .returned v ∧ Below W.heap.size W w'' :=
 h.mono fun _ _ ⟨he, hb⟩ => ⟨he, by rw [hb]; exact hw⟩
def IsB (w : World) (a : Option Addr) (len : Nat) (zs : List Int) : Prop :=
 zs.length = len ∧ len ≤ maxLen ∧ (0 < len → ∃ b off, a = some ⟨b, off, none⟩ ∧ ∀ i, i < len → w.cell? ⟨b, off + i, none⟩ = some (.int .u8 (zs.getD i 0))) ∧ ∀ i, 0 ≤ zs.getD i 0 ∧ zs.getD i 0 ≤ 255
theorem IsB.later {w w' : World} {a : Option Addr} {len : Nat} {zs : List Int} (h : IsB w a len zs) (hb : Below w.heap.size w w') : IsB w' a len zs := by
 obtain ⟨h1, h2, h3, h4⟩ := h
 refine ⟨h1, h2, fun hp => ?_, h4⟩
 obtain ⟨b, off, e, hc⟩ := h3 hp
 exact ⟨b, off, e, fun i hi => cell_later hb (hc i hi)⟩
end Go.Proofs.YtkokjkaclcjnjaaGreatDoor
namespace Go.Proofs.YtkokjkaclcjnjaaGreatDoor
structure Rec where
 k : Int
 fid : Int
 dir : Int
 nm : ByteArray
 to : Int
 nm2 : ByteArray
 md : Int
 dt : ByteArray
 sn : Int
end Go.Proofs.YtkokjkaclcjnjaaGreatDoor
