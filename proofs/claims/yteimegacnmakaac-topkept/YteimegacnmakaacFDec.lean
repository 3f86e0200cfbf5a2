/-
  What Decode and Cut of the package frame return, and what the laws' own helpers do.
-/
import Derived.Test.YteimegacnmakaacFRest
namespace Go.Proofs.Yteimegacnmakaac
open Go.RowKit Go.ChangeShapes Go.WideShapes Go.ChangeAt
open Go.BigFrame
set_option linter.unusedVariables false
set_option linter.unusedSimpArgs false
/-- Bytes are the packet's. -/
def Whole (p : Fr.Pk) (zs : List Int) : Prop := Fr.Wf p ∧ Fr.rightB p = true ∧ zs = Fr.enc p
theorem whole_begins {p : Fr.Pk} {zs : List Int} (h : Whole p zs) : Fr.Begins p zs := ⟨h.1, h.2.1, [], by rw [List.append_nil]; exact h.2.2⟩
theorem begins_whole {p : Fr.Pk} {zs : List Int} (h : Fr.Begins p zs) (hl : 19 + p.b.size = zs.length) : Whole p zs := by
  obtain ⟨h1, h2, r, rfl⟩ := h
  rw [List.length_append, Fr.enc_length] at hl
  have : r = [] := List.eq_nil_of_length_eq_zero (by omega)
  subst this
  exact ⟨h1, h2, List.append_nil _⟩
theorem whole_length {p : Fr.Pk} {zs : List Int} (h : Whole p zs) : zs.length = 19 + p.b.size := by rw [h.2.2, Fr.enc_length]
/-- What Decode answers. -/
def DecPost (zs : List Int) (w : World) (e : Ending) (w' : World) : Prop :=
  ((∃ p, Whole p zs ∧ e = .returned (.tuple #[Fr.val p, .int .i64 0])) ∨ ((∀ p, ¬ Whole p zs) ∧ e = .returned (.tuple #[noPk, .int .i64 3]))) ∧ Below w.heap.size w w'
theorem zero_pb (w : World) : PB (w.alloc (.cells #[.int .u8 0, .int .u8 0, .int .u8 0, .int .u32 0, .int .u32 0, .string ⟨#[]⟩] 43)) w.heap.size ⟨0, 0, 0, 0, 0, ⟨#[]⟩⟩ := heap_alloc_new w _
theorem PB.later {w w' : World} {B : Nat} {p : Fr.Pk} (h : PB w B p) (hb : Below w.heap.size w w') : PB w' B p := by
  unfold PB at *; rw [hb.block _ (lt_of_blk h)]; exact h
theorem PB.alloc {w : World} {B : Nat} {p : Fr.Pk} (h : PB w B p) (o : Obj) : PB (w.alloc o) B p := by
  unfold PB at *; rw [Below.heap_alloc _ _ _ (lt_of_blk h)]; exact h
theorem PB.lt {w : World} {B : Nat} {p : Fr.Pk} (h : PB w B p) : B < w.heap.size := lt_of_blk h
def fewN (len : Nat) : Nat := if 40000 < len then 40000 else len
theorem fewN_le (len : Nat) : fewN len ≤ len ∧ fewN len ≤ 40000 := by unfold fewN; split <;> omega
theorem few_isB {w : World} {a : Option Addr} {len : Nat} {zs : List Int} (h : IsB w a len zs) : IsB w a (fewN len) (zs.take (fewN len)) := h.front _ (fewN_le len).1
end Go.Proofs.Yteimegacnmakaac
