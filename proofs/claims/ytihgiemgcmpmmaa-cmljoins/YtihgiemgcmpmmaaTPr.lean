/-
  Which directory each one stands in: parents of the package tree.
-/
import Derived.Test.YtihgiemgcmpmmaaTLk
namespace Go.Proofs.Ytihgiemgcmpmmaa
open Go.RowKit Go.ChangeShapes Go.WideShapes Go.ChangeAt Go.Maps
set_option linter.unusedVariables false
set_option linter.unusedSimpArgs false
set_option maxRecDepth 100000
def fdR : Value → Option (DataW Int × List MemPlace)
  | .int .u32 x => some (.held x, [])
  | _ => none
/-- Fids. -/
def fdE : Enc Int := ⟨fun x => .int .u32 x, fdR, fun _ => rfl, fun {v z} h => by
  unfold fdR at h
  split at h
  · cases h; exact ⟨_, rfl, rfl⟩
  · cases h⟩
section
variable {α : Type}
/-- The step of a loop over a map by fids. -/
theorem next_F (E : Enc α) (w : World) {ops : Array Oper} {rest : List Oper} {o : Oper} {a : Act} {Q : Exit → Act → World → Prop} (hg : o.guard = none) (it : Operand) (hop : o.op = Op.next it false)
    (tb r n : Nat) (D : DataW α) (left : Lit → Bool) (cnt : Nat) (hit : a.eval it = .pointer (some ⟨r, 0, none⟩)) (h : w.ranges Try.prog 43 E.rd tb r n D left cnt)
    (hDone : cnt = 0 → (∀ i, left (kyF i) = false) → wpList Try.prog ops Q rest (a.put o.dst (.tuple #[.bool false])) w)
    (hMore : ∀ (x : Int) (c : α) (w' : World) (cnt' : Nat), 0 ≤ x → x < 4294967296 → left (kyF x) = true → lookF D x = some c → w'.ranges Try.prog 43 E.rd tb r n D (fun z => left z && !z.sameKey (kyF x)) cnt' → cnt' < cnt →
      w.grownBy w' (some r) → w'.heap.size = w.heap.size → (Instr.entry (.pointer (some ⟨r, 0, none⟩))).run Try.prog w' = .ok (.tuple #[.int .u32 x, E.enc c]) w' → wpList Try.prog ops Q rest (a.put o.dst (.tuple #[.bool true, .int .u32 x, E.enc c])) w') :
    wpList Try.prog ops Q (o :: rest) a w := by
  have inv2 : ∀ v y, E.rd v = some y → ∃ c, v = E.enc c := fun v y hv => by obtain ⟨c, h1, _⟩ := E.inv hv; exact ⟨c, h1⟩
  refine wpList_next_ranges w hg it hop 43 lawF E.rd (Value.int .u32) E.enc (fun key kl hkey => by obtain ⟨x, rfl, _⟩ := Maps.keyOf_int_inv Try.underlying43 hkey; exact ⟨x, rfl⟩) inv2 tb r n D left cnt hit h (fun h0 hl => hDone h0 (fun i => hl _)) ?_
  intro x c kl y w' cnt' hkey hlk hv hat hrg hlt hgr hsz hen
  obtain ⟨x', ex, rfl, hwx⟩ := Maps.keyOf_int_inv Try.underlying43 hkey
  cases ex
  have hw2 := bd_u32 hwx
  rw [E.wr] at hv
  cases hv
  refine hMore x c w' cnt' hw2.1 hw2.2 hlk ?_ hrg hlt hgr hsz hen
  have hs : Maps.has D (kyF x) = true := by
    cases hh : Maps.has D (kyF x) with
    | true => rfl
    | false =>
      have e1 := Maps.atKey_of_not_has (z := DataW.nil) hh
      have e2 := hat DataW.nil
      rw [show (Lit.int IntKind.u32 x) = kyF x from rfl, e1] at e2
      cases e2
  have hat2 : D.atKey (kyF x) DataW.nil = DataW.held c := hat DataW.nil
  unfold lookF
  rw [if_pos hs, hat2]
end
/-- A table's node is a directory. -/
def isDirT (N : Tab) (g : Int) : Bool := match N g with
  | some (_, y) => y.k == 2
  | none => false
/-- A directory's entry leads to another one. -/
def Edge (N : Tab) (f g : Int) : Prop := ∃ p x i, N f = some (p, x) ∧ i < x.ks.length ∧ (x.ks.getD i Kd.no).fid = g ∧ isDirT N g = true
/-- Each directory stands in one alone. -/
def OneUp (N : Tab) : Prop := ∀ f f' g, Edge N f g → Edge N f' g → f = f'
/-- All entries lead to nodes of the table; they are few. -/
def Whole6 (N : Tab) : Prop := ∀ f p x, N f = some (p, x) → x.ks.length ≤ 12 ∧ ∀ i, i < x.ks.length → (N (x.ks.getD i Kd.no).fid).isSome = true
/-- The directory that each one stands in. -/
def IsPar (N : Tab) (G : Int → Option Int) : Prop := ∀ f g, G g = some f ↔ Edge N f g
theorem grown_ou {w w' : World} {r : Nat} (h : w.grownBy w' (some r)) : Ou (fun k => k = r) w w' := ⟨h.os, h.tape, h.output, h.size, fun i hi hn => h.block i hi (fun e => hn (by cases e; rfl))⟩
theorem grown_below {w w' : World} (h : w.grownBy w' none) : Below w.heap.size w w' := ⟨h.os, h.tape, h.output, h.size, fun i hi => h.block i hi (fun e => by cases e)⟩
end Go.Proofs.Ytihgiemgcmpmmaa
