/-
  Rows of fids; they are sorted (at most twelve).
  Maps by fids: what a look, a store, a deletion is, how many there are.
  Nodes in memory; fidsRise, namesRise, rightAlone of the package tree.
  Tables of nodes by their fids: tableOf, haveKidsOf, rightLinks of the package tree.
  How many entries lead to each node: rightLinks of the package tree.
  Which directory each one stands in: parents of the package tree.
  A loop over a function that yields, whose body always goes on; one round of it; steps inside a round.
  Does a directory lead up to another one? upward, leadUpTo of the package tree.
  leadUpTo of the package tree, out of what its function that yields does.
  Which nodes are a tree: holdRing, Right of the package tree.
  Which nodes are a tree: Right of the package tree.
-/
import Derived.Test.YtbgninmkglgfeaaCalls
import Derived.ChangeArms
import Derived.ChangeOld
import Derived.Below
import Derived.Deep.RegionHeld3
import Derived.Deep.LoopGhost
import Derived.Deep.RegionWith
import Derived.BigQuiet
import Derived.Deep.QuietTactic
import Derived.Maps.RangeWalk
import Derived.Maps.OwnSet
import Derived.Stop.BytesEq
import Derived.Laws.Rows
import Derived.Deep.MidRow
import Derived.Test.YtbgninmkglgfeaaRNn
import Derived.RangeFuncNested
import Derived.RangeFuncBound
import Derived.RangeFuncCalls
import Derived.RangeFuncLeaves
import Derived.Shelf.Abstract
import Derived.Shelf.RegionOpen
import Derived.OwnWalkIn
import Derived.TacticsInMore
import Derived.LoopNIn
import Derived.LoopIn
import Derived.RangeFuncBox
import Derived.Maps.AppendAt
import Derived.Maps.OwnIn
namespace Go.Proofs.Ytbgninmkglgfeaa
open Go.RowKit Go.ChangeShapes Go.WideShapes Go.ChangeAt
set_option linter.unusedVariables false
set_option linter.unusedSimpArgs false
set_option maxRecDepth 100000
/-- All blocks that were there, but for those of S, are as they were. -/
structure Ou (S : Nat → Prop) (w w' : World) : Prop where
  os : w'.os = w.os
  tape : w'.tape = w.tape
  output : w'.output = w.output
  size : w.heap.size ≤ w'.heap.size
  block : ∀ k, k < w.heap.size → ¬ S k → w'.heap[k]? = w.heap[k]?
theorem Ou.refl (S : Nat → Prop) (w : World) : Ou S w w := ⟨rfl, rfl, rfl, Nat.le_refl _, fun _ _ _ => rfl⟩
theorem Ou.trans {S : Nat → Prop} {a b c : World} (h : Ou S a b) (k : Ou S b c) : Ou S a c :=
  ⟨k.os.trans h.os, k.tape.trans h.tape, k.output.trans h.output, Nat.le_trans h.size k.size, fun i hi hS => (k.block i (Nat.lt_of_lt_of_le hi h.size) hS).trans (h.block i hi hS)⟩
theorem Ou.mono {S T : Nat → Prop} {a b : World} (h : Ou S a b) (k : ∀ i, S i → T i) : Ou T a b := ⟨h.os, h.tape, h.output, h.size, fun i hi hS => h.block i hi fun e => hS (k i e)⟩
theorem Ou.of {S : Nat → Prop} {w w' : World} (h : Below w.heap.size w w') : Ou S w w' := ⟨h.os, h.tape, h.output, h.size, fun i hi _ => h.block i hi⟩
theorem Ou.below {S : Nat → Prop} {w w' : World} {B : Nat} (h : Ou S w w') (hB : B ≤ w.heap.size) (hS : ∀ k, S k → B ≤ k) : Below B w w' :=
  ⟨h.os, h.tape, h.output, h.size, fun i hi => h.block i (by omega) (fun e => by have := hS i e; omega)⟩
theorem Ou.alloc {S : Nat → Prop} {a w : World} (h : Ou S a w) (o : Obj) : Ou S a (w.alloc o) :=
  h.trans (Ou.of ((Below.refl _ _).alloc (Nat.le_refl _) o))
theorem Ou.drew {S : Nat → Prop} {a w : World} (h : Ou S a w) : Ou S a w.drew := ⟨h.os, h.tape, h.output, h.size, h.block⟩
theorem Ou.set {S : Nat → Prop} {a w : World} (h : Ou S a w) {g o : Nat} {v : Value} (hS : S g) : Ou S a (w.setCell ⟨g, o, none⟩ v) :=
  h.trans ⟨rfl, rfl, rfl, by simp [World.setCell], fun k hk hn => heap_setCell_other _ _ _ _ (fun e => hn (e ▸ hS))⟩
theorem lt_blkC {w : World} {g : Nat} {o : Obj} (h : w.heap[g]? = some o) : g < w.heap.size := by
  have := (Array.getElem?_eq_some_iff.1 h).1; exact this
theorem body_endF {P : Program} {fn : Func} {R : Ending → World → Prop} {a : Act} {w : World} (hr : fn.results = #[]) (hd : a.defers = []) (hR : R (.returned (.tuple #[])) w) : bodyPost P fn R .normal a w :=
  bodyPost_end (v := .tuple #[]) (by simp [results, hr, go_sem]) hd hR
/-- A row of fids in block g: the first n of them are those of f. -/
def FidsAt (w : World) (g n : Nat) (f : Nat → Int) : Prop := ∃ cs : Array Value, w.heap[g]? = some (.cells cs 26 (0, 0)) ∧ n ≤ cs.size ∧ ∀ j, j < n → cs[j]? = some (.int .u32 (f j))
theorem FidsAt.out {S : Nat → Prop} {w w' : World} {g n : Nat} {f : Nat → Int} (h : FidsAt w g n f) (ho : Ou S w w') (hg : ¬ S g) : FidsAt w' g n f := by
  obtain ⟨cs, h1, h2, h3⟩ := h
  exact ⟨cs, by rw [ho.block g (lt_blkC h1) hg]; exact h1, h2, h3⟩
theorem FidsAt.lt {w : World} {g n : Nat} {f : Nat → Int} (h : FidsAt w g n f) : g < w.heap.size := by obtain ⟨cs, h1, _⟩ := h; exact lt_blkC h1
theorem FidsAt.cell {w : World} {g n : Nat} {f : Nat → Int} (h : FidsAt w g n f) {j : Nat} (hj : j < n) : w.cell? ⟨g, j, none⟩ = some (.int .u32 (f j)) ∧ w.frozen? ⟨g, j, none⟩ = false := by
  obtain ⟨cs, h1, h2, h3⟩ := h
  constructor
  · have := h3 j hj
    simp [World.cell?, h1, this]
  · simp [World.frozen?, h1]
theorem FidsAt.set {w : World} {g n : Nat} {f : Nat → Int} (h : FidsAt w g n f) {j : Nat} (hj : j < n) (x : Int) : FidsAt (w.setCell ⟨g, j, none⟩ (.int .u32 x)) g n (fun k => if k = j then x else f k) := by
  obtain ⟨cs, h1, h2, h3⟩ := h
  refine ⟨cs.setIfInBounds j (.int .u32 x), ?_, by simp [h2], fun k hk => ?_⟩
  · simp only [World.setCell]
    rw [Array.getElem?_modify, if_pos rfl, h1]
    rfl
  · by_cases e : k = j
    · subst e; simp [Nat.lt_of_lt_of_le hk h2]
    · rw [Array.getElem?_setIfInBounds_ne (by omega), h3 k hk]; simp [e]
theorem FidsAt.drew {w : World} {g n : Nat} {f : Nat → Int} (h : FidsAt w g n f) : FidsAt w.drew g n f := h
theorem heap_drewN (w : World) (k : Nat) : (w.drewN k).heap = w.heap := rfl
theorem FidsAt.drewN {w : World} {g n : Nat} {f : Nat → Int} (h : FidsAt w g n f) (k : Nat) : FidsAt (w.drewN k) g n f := by
  unfold FidsAt at *; rw [heap_drewN]; exact h
theorem Ou.drewN {S : Nat → Prop} {a w : World} (h : Ou S a w) (k : Nat) : Ou S a (w.drewN k) := ⟨h.os, h.tape, h.output, h.size, h.block⟩
theorem FidsAt.ext {w : World} {g n : Nat} {f f' : Nat → Int} (h : FidsAt w g n f) (e : ∀ j, j < n → f' j = f j) : FidsAt w g n f' := by
  obtain ⟨cs, h1, h2, h3⟩ := h
  exact ⟨cs, h1, h2, fun j hj => by rw [h3 j hj, e j hj]⟩
/-- Two that stand side by side change places. -/
def swF (f : Nat → Int) (j : Nat) : Nat → Int := fun k => if k = j then f (j - 1) else if k = j - 1 then f j else f k
/-- The same fids, each once. -/
def SameF (n : Nat) (f g : Nat → Int) : Prop := (∀ x, (∃ k, k < n ∧ f k = x) ↔ ∃ k, k < n ∧ g k = x) ∧ ∀ a b, a < n → b < n → g a = g b → a = b
theorem swF_same {n : Nat} {f0 f : Nat → Int} (h : SameF n f0 f) {j : Nat} (h0 : 0 < j) (hj : j < n) : SameF n f0 (swF f j) := by
  obtain ⟨h1, h2⟩ := h
  have e1 : swF f j j = f (j - 1) := by unfold swF; rw [if_pos rfl]
  have e2 : swF f j (j - 1) = f j := by unfold swF; rw [if_neg (by omega), if_pos rfl]
  have e3 : ∀ k, k ≠ j → k ≠ j - 1 → swF f j k = f k := fun k q1 q2 => by unfold swF; rw [if_neg q1, if_neg q2]
  refine ⟨fun x => ?_, fun a b ha hb hab => ?_⟩
  · rw [h1 x]
    constructor
    · rintro ⟨k, hk, rfl⟩
      by_cases q1 : k = j
      · exact ⟨j - 1, by omega, by rw [e2, q1]⟩
      · by_cases q2 : k = j - 1
        · exact ⟨j, hj, by rw [e1, q2]⟩
        · exact ⟨k, hk, e3 k q1 q2⟩
    · rintro ⟨k, hk, rfl⟩
      by_cases q1 : k = j
      · exact ⟨j - 1, by omega, by rw [q1, e1]⟩
      · by_cases q2 : k = j - 1
        · exact ⟨j, hj, by rw [q2, e2]⟩
        · exact ⟨k, hk, (e3 k q1 q2).symm⟩
  · by_cases p1 : a = j
    · by_cases q1 : b = j
      · omega
      · by_cases q2 : b = j - 1
        · rw [p1, q2, e1, e2] at hab; have := h2 _ _ (by omega) hj hab; omega
        · rw [p1, e1, e3 b q1 q2] at hab; have := h2 _ _ (by omega) hb hab; omega
    · by_cases p2 : a = j - 1
      · by_cases q1 : b = j
        · rw [p2, q1, e1, e2] at hab; have := h2 _ _ hj (by omega) hab; omega
        · by_cases q2 : b = j - 1
          · omega
          · rw [p2, e2, e3 b q1 q2] at hab; have := h2 _ _ hj hb hab; omega
      · by_cases q1 : b = j
        · rw [q1, e1, e3 a p1 p2] at hab; have := h2 _ _ ha (by omega) hab; omega
        · by_cases q2 : b = j - 1
          · rw [q2, e2, e3 a p1 p2] at hab; have := h2 _ _ ha hj hab; omega
          · rw [e3 a p1 p2, e3 b q1 q2] at hab; exact h2 _ _ ha hb hab
/-- The first ones rise. -/
def UpF (n : Nat) (f : Nat → Int) : Prop := ∀ a b, a < b → b < n → f a ≤ f b
/-- The first ones rise, but for the j-th, which is no greater than what stands behind it. -/
def NearF (i j : Nat) (f : Nat → Int) : Prop := (∀ a b, a < b → b ≤ i → a ≠ j → b ≠ j → f a ≤ f b) ∧ ∀ b, j < b → b ≤ i → f j ≤ f b
theorem near_start {i : Nat} {f : Nat → Int} (h : UpF i f) : NearF i i f := ⟨fun a b h1 h2 h3 h4 => h a b h1 (by omega), fun b h1 h2 => by omega⟩
theorem near_end {i j : Nat} {f : Nat → Int} (h : NearF i j f) (hj : j ≤ i) (he : j = 0 ∨ f (j - 1) ≤ f j) : UpF (i + 1) f := by
  intro a b h1 h2
  by_cases p : a = j
  · rw [p]; exact h.2 b (by omega) (by omega)
  · by_cases q : b = j
    · rw [q]
      rcases he with he | he
      · omega
      · by_cases r : a = j - 1
        · rw [r]; exact he
        · have := h.1 a (j - 1) (by omega) (by omega) p (by omega)
          omega
    · exact h.1 a b h1 (by omega) p q
theorem near_step {i j : Nat} {f : Nat → Int} (h : NearF i j f) (h0 : 0 < j) (hj : j ≤ i) (hlt : f j < f (j - 1)) : NearF i (j - 1) (swF f j) := by
  have e1 : swF f j j = f (j - 1) := by unfold swF; rw [if_pos rfl]
  have e2 : swF f j (j - 1) = f j := by unfold swF; rw [if_neg (by omega), if_pos rfl]
  have e3 : ∀ k, k ≠ j → k ≠ j - 1 → swF f j k = f k := fun k q1 q2 => by unfold swF; rw [if_neg q1, if_neg q2]
  refine ⟨fun a b h1 h2 h3 h4 => ?_, fun b h1 h2 => ?_⟩
  · by_cases p : a = j
    · rw [p, e1, e3 b (by omega) h4]; exact h.1 (j - 1) b (by omega) h2 (by omega) (by omega)
    · by_cases q : b = j
      · rw [q, e1, e3 a p h3]; exact h.1 a (j - 1) (by omega) (by omega) p (by omega)
      · rw [e3 a p h3, e3 b q h4]; exact h.1 a b h1 h2 p q
  · rw [e2]
    by_cases q : b = j
    · rw [q, e1]; omega
    · rw [e3 b q (by omega)]; exact h.2 b (by omega) h2
def SortedTo (w : World) (g n : Nat) (f0 : Nat → Int) (e : Ending) (w' : World) : Prop := e = .returned (.tuple #[]) ∧ ∃ f, FidsAt w' g n f ∧ SameF n f0 f ∧ UpF n f ∧ Ou (fun k => k = g) w w'
end Go.Proofs.Ytbgninmkglgfeaa
namespace Go.Proofs.Ytbgninmkglgfeaa
open Go.RowKit Go.ChangeShapes Go.WideShapes Go.ChangeAt Go.Maps
set_option linter.unusedVariables false
set_option linter.unusedSimpArgs false
set_option maxRecDepth 100000
/-- How elements of a kind stand in a map, and are read. -/
structure Enc (α : Type) where
  enc : α → Value
  rd : Value → Option (DataW α × List MemPlace)
  wr : ∀ a, rd (enc a) = some (.held a, [])
  inv : ∀ {v z}, rd v = some z → ∃ a, v = enc a ∧ z = (.held a, [])
def numR : Value → Option (DataW Int × List MemPlace)
  | .int .i64 x => some (.held x, [])
  | _ => none
/-- Numbers. -/
def numE : Enc Int := ⟨fun x => .int .i64 x, numR, fun _ => rfl, fun {v z} h => by
  unfold numR at h
  split at h
  · cases h; exact ⟨_, rfl, rfl⟩
  · cases h⟩
/-- What is known of an object that is at hand: when it was used last, whether it is dirty. -/
abbrev Ob := Int × Bool
def obL : List Value → Option (DataW Ob × List MemPlace)
  | [.int .u64 x, .bool d] => some (.held (x, d), [])
  | _ => none
def obR : Value → Option (DataW Ob × List MemPlace)
  | .agg cs => obL cs.toList
  | _ => none
def obE : Enc Ob := ⟨fun o => .agg #[.int .u64 o.1, .bool o.2], obR, fun _ => rfl, fun {v z} h => by
  unfold obR at h
  split at h
  · rename_i cs
    unfold obL at h
    split at h
    · rename_i x d e
      cases h
      refine ⟨(x, d), ?_, rfl⟩
      congr 1
      apply Array.toList_inj.1
      rw [e]
    · cases h
  · cases h⟩
theorem lawF : Keyed Try.prog 26 := int_keyed Try.underlying26
def kyF (i : Int) : Lit := .int .u32 i
theorem kyF_ne {i j : Int} (h : j ≠ i) : kyF j ≠ kyF i := fun e => h (by unfold kyF at e; cases e; rfl)
theorem keyF {i : Int} (h0 : 0 ≤ i) (h1 : i < 4294967296) : keyOf Try.prog 26 (.int .u32 i) = some (kyF i) :=
  keyOf_int_mk Try.underlying26 (by simp [Lit.wf, IntKind.min, IntKind.max, IntKind.signed, IntKind.bits]; omega)
theorem same_kyF {i j : Int} : (kyF i).sameKey (kyF j) = decide (i = j) := by simp [kyF, Lit.sameKey]
theorem keyLitF (i : Int) : WideAt.IsKeyLit (kyF i) := by unfold kyF; trivial
section
variable {α : Type}
/-- What a map holds for a fid. -/
def lookF (D : DataW α) (i : Int) : Option α :=
  if Maps.has D (kyF i) = true then (match D.atKey (kyF i) .nil with | .held s => some s | _ => none) else none
def updF (f : Int → Option α) (i : Int) (v : Option α) : Int → Option α := fun j => if j = i then v else f j
theorem entriesF (E : Enc α) {w : World} {b n : Nat} {D : DataW α} (h : w.ownsMap Try.prog 26 E.rd b n D) :
    ∃ es, D = .map es ∧ es.Pairwise (fun p q => p.1 ≠ q.1) ∧ (∀ p ∈ es, ∃ i s, p = (kyF i, .held s) ∧ 0 ≤ i ∧ i < 4294967296) := by
  obtain ⟨es0, e0, hpw, _⟩ := h.entries lawF
  refine ⟨es0, e0, hpw, ?_⟩
  obtain ⟨es, clock, hb, F, hs, hD⟩ := h
  rw [e0] at hD
  cases hD
  intro p hp
  rw [mem_sorted, List.mem_map] at hp
  obtain ⟨x, hx, rfl⟩ := hp
  obtain ⟨y, hy⟩ := F.reads x hx
  rw [WideElems.rg_of hy]
  have k1 := WideElems.rd_key hy
  obtain ⟨z, hz, e2⟩ := WideElems.rd_val hy
  obtain ⟨i, _, e3, hw⟩ := Maps.keyOf_int_inv Try.underlying26 k1
  obtain ⟨s, h2, h3⟩ := E.inv hz
  refine ⟨i, s, ?_, ?_⟩
  · obtain ⟨y1, y2⟩ := y
    simp only at e2 e3
    rw [e3, e2, h3]
    rfl
  · have := bd_u32 hw
    omega
theorem findF : ∀ {es : List (Lit × DataW α)}, es.Pairwise (fun p q => p.1 ≠ q.1) → ∀ {i : Int} {s : α}, (kyF i, DataW.held s) ∈ es → es.find? (fun p => p.1.sameKey (kyF i)) = some (kyF i, DataW.held s)
  | [], _, i, s, hm => by cases hm
  | x :: l, hp, i, s, hm => by
    rw [List.pairwise_cons] at hp
    rcases List.mem_cons.1 hm with rfl | hm'
    · simp [List.find?_cons, same_kyF]
    · have hne : x.1 ≠ kyF i := hp.1 _ hm'
      rw [List.find?_cons, Maps.sameKey_ne hne]
      exact findF hp.2 hm'
theorem has_memF {es : List (Lit × DataW α)} {i : Int} {s : α} (hm : (kyF i, DataW.held s) ∈ es) : Maps.has (.map es) (kyF i) = true := by
  rw [Maps.has_eq, List.any_eq_true]; exact ⟨_, hm, by simp [same_kyF]⟩
theorem at_memF {es : List (Lit × DataW α)} (hp : es.Pairwise (fun p q => p.1 ≠ q.1)) {i : Int} {s : α} (hm : (kyF i, DataW.held s) ∈ es) (z : DataW α) : DataW.atKey (.map es) (kyF i) z = .held s := by
  simp [DataW.atKey, findF hp hm]
theorem look_memF {es : List (Lit × DataW α)} (hp : es.Pairwise (fun p q => p.1 ≠ q.1)) {i : Int} {s : α} (hm : (kyF i, DataW.held s) ∈ es) : lookF (.map es) i = some s := by
  unfold lookF
  rw [if_pos (has_memF hm), at_memF hp hm]
theorem look_noneF {D : DataW α} {i : Int} (h : Maps.has D (kyF i) = false) : lookF D i = none := by unfold lookF; rw [if_neg (by simp [h])]
theorem look_atF (E : Enc α) {w : World} {b n : Nat} {D : DataW α} (h : w.ownsMap Try.prog 26 E.rd b n D) (i : Int) (z : α) : D.atKey (kyF i) (.held z) = .held ((lookF D i).getD z) ∧ Maps.has D (kyF i) = (lookF D i).isSome ∧ ∀ s, lookF D i = some s → 0 ≤ i ∧ i < 4294967296 := by
  obtain ⟨es, e, hp, hs⟩ := entriesF E h
  subst e
  cases hh : Maps.has (.map es) (kyF i) with
  | false => rw [Maps.atKey_of_not_has hh, look_noneF hh]; exact ⟨rfl, rfl, fun s e => by cases e⟩
  | true =>
    rw [Maps.has_eq, List.any_eq_true] at hh
    obtain ⟨p, hp1, hp2⟩ := hh
    obtain ⟨j, s, rfl, hj⟩ := hs p hp1
    rw [same_kyF] at hp2
    simp at hp2
    subst hp2
    rw [look_memF hp hp1, at_memF hp hp1]
    exact ⟨rfl, rfl, fun _ _ => hj⟩
theorem Maps.has_eq_look_of {E : Enc α} {w : World} {b n : Nat} {D : DataW α} (h : w.ownsMap Try.prog 26 E.rd b n D) (i : Int) : Maps.has D (kyF i) = (lookF D i).isSome := by
  cases hl : lookF D i with
  | none =>
    cases hh : Maps.has D (kyF i) with
    | false => rfl
    | true =>
      exfalso
      obtain ⟨es, e, hp, hs⟩ := entriesF E h
      subst e
      rw [Maps.has_eq, List.any_eq_true] at hh
      obtain ⟨p, hp1, hp2⟩ := hh
      obtain ⟨j, s, rfl, hj⟩ := hs p hp1
      rw [same_kyF] at hp2
      simp at hp2
      subst hp2
      rw [look_memF hp hp1] at hl
      cases hl
  | some s => have := (look_atF E h i s).2.1; rw [hl] at this; exact this
theorem look_putF {D : DataW α} (h : Maps.IsMap D) (i : Int) (s : α) (j : Int) : lookF (D.put (kyF i) (.held s)) j = updF (lookF D) i (some s) j := by
  unfold updF
  by_cases hj : j = i
  · subst hj
    rw [if_pos rfl]
    unfold lookF
    rw [Maps.has_put_same h (keyLitF _), if_pos rfl, Maps.atKey_put_same h (keyLitF _)]
  · rw [if_neg hj]
    unfold lookF
    rw [Maps.has_put_other (kyF_ne hj), Maps.atKey_put_other (kyF_ne hj)]
theorem look_delF {D : DataW α} (i : Int) (j : Int) : lookF (D.del (kyF i)) j = updF (lookF D) i none j := by
  unfold updF
  by_cases hj : j = i
  · subst hj
    rw [if_pos rfl, look_noneF Maps.has_del_same]
  · rw [if_neg hj]
    unfold lookF
    rw [Maps.has_del_other (kyF_ne hj), Maps.atKey_del_other (kyF_ne hj)]
/-- Block b is a map by fids that holds f: m of them. -/
def IsFm (E : Enc α) (w : World) (b m : Nat) (f : Int → Option α) : Prop := ∃ D, w.ownsMap Try.prog 26 E.rd b m D ∧ Maps.size D = m ∧ ∀ i, f i = lookF D i
theorem IsFm.lt {E : Enc α} {w : World} {b m : Nat} {f : Int → Option α} (h : IsFm E w b m f) : b < w.heap.size := by obtain ⟨D, ho, _⟩ := h; exact ho.lt
theorem IsFm.out {E : Enc α} {S : Nat → Prop} {w w' : World} {b m : Nat} {f : Int → Option α} (h : IsFm E w b m f) (ho : Ou S w w') (hS : ¬ S b) : IsFm E w' b m f := by
  have hl := h.lt
  obtain ⟨D, ⟨es, clock, hb, r⟩, hf⟩ := h
  exact ⟨D, ⟨es, clock, by rw [ho.block b hl hS]; exact hb, r⟩, hf⟩
theorem IsFm.keys {E : Enc α} {w : World} {b m : Nat} {f : Int → Option α} (h : IsFm E w b m f) {i : Int} {s : α} (hi : f i = some s) : 0 ≤ i ∧ i < 4294967296 := by
  obtain ⟨D, ho, _, hf⟩ := h
  exact (look_atF E ho i s).2.2 s (by rw [← hf i]; exact hi)
theorem IsFm.made (E : Enc α) (w : World) : IsFm E (w.alloc (.map #[] 0)) w.heap.size 0 (fun _ => none) :=
  ⟨.map [], World.ownsMap_made w Try.prog 26 E.rd, rfl, fun i => by simp [lookF, Maps.has]⟩
theorem Ou.turned {S : Nat → Prop} {w w' : World} {b : Nat} (h : w.mapTurned w' b) (hS : S b) : Ou S w w' :=
  have g := h.grown
  ⟨g.os, g.tape, g.output, g.size, fun i hi hn => g.block i hi (fun e => by cases e; exact hn hS)⟩
/-- How many there are behind a store, a deletion. -/
def addN (f : Int → Option α) (i : Int) (m : Nat) : Nat := if (f i).isSome then m else m + 1
def delN (f : Int → Option α) (i : Int) (m : Nat) : Nat := if (f i).isSome then m - 1 else m
theorem IsFm.look {E : Enc α} {w : World} {b m : Nat} {f : Int → Option α} (h : IsFm E w b m f) {tm te : TypeId} (ht : Try.prog.underlying tm = some (.map 26 te)) {z : α} (hz : ∀ w, (zeroValue te).run Try.prog w = .ok (E.enc z) w) {i : Int} (h0 : 0 ≤ i) (h1 : i < 4294967296) :
    (Instr.lookup tm (.map (some b)) (.int .u32 i) false).run Try.prog w = .ok (E.enc ((f i).getD z)) w := by
  obtain ⟨D, ho, _, hf⟩ := h
  obtain ⟨v, ps, hrun, hv⟩ := ho.lookup lawF ht (hz w) (E.wr z) (keyF h0 h1)
  obtain ⟨e1, _⟩ := look_atF E ho i z
  rw [e1] at hv
  obtain ⟨s, rfl, e3⟩ := E.inv hv
  cases e3
  rw [hf i]
  exact hrun
theorem IsFm.lookOk {E : Enc α} {w : World} {b m : Nat} {f : Int → Option α} (h : IsFm E w b m f) {tm te : TypeId} (ht : Try.prog.underlying tm = some (.map 26 te)) {z : α} (hz : ∀ w, (zeroValue te).run Try.prog w = .ok (E.enc z) w) {i : Int} (h0 : 0 ≤ i) (h1 : i < 4294967296) :
    (Instr.lookup tm (.map (some b)) (.int .u32 i) true).run Try.prog w = .ok (.tuple #[E.enc ((f i).getD z), .bool (f i).isSome]) w := by
  obtain ⟨D, ho, _, hf⟩ := h
  obtain ⟨v, ps, hrun, hv⟩ := ho.look_ok lawF ht (hz w) (E.wr z) (keyF h0 h1)
  obtain ⟨e1, e2, _⟩ := look_atF E ho i z
  rw [e1] at hv
  rw [e2] at hrun
  obtain ⟨s, rfl, e3⟩ := E.inv hv
  cases e3
  rw [hf i]
  exact hrun
theorem IsFm.len {E : Enc α} {w : World} {b m : Nat} {f : Int → Option α} (h : IsFm E w b m f) {tm te : TypeId} (ht : Try.prog.underlying tm = some (.map 26 te)) (ty : TypeId) : (Builtin.len_ #[tm] ty #[.map (some b)]).run Try.prog w = .ok (.int .i64 (m : Int)) w := by
  obtain ⟨D, ho, hs, hf⟩ := h
  have := ho.len ht ty
  rw [hs] at this
  exact this
theorem own_size {E : Enc α} {w : World} {b n : Nat} {D : DataW α} (h : w.ownsMap Try.prog 26 E.rd b n D) : w.ownsMap Try.prog 26 E.rd b (Maps.size D) D := by
  obtain ⟨es, clock, hb, F, hs, rfl⟩ := h
  exact ⟨es, clock, hb, F, by simp [Maps.size, length_sorted], rfl⟩
theorem IsFm.store {E : Enc α} {w : World} {b m : Nat} {f : Int → Option α} (h : IsFm E w b m f) (hm : m < 1000) {tm te : TypeId} (ht : Try.prog.underlying tm = some (.map 26 te)) {i : Int} (h0 : 0 ≤ i) (h1 : i < 4294967296) (s : α) :
    ∃ w', (Instr.mapUpdate tm (.map (some b)) (.int .u32 i) (E.enc s)).run Try.prog w = .ok () w' ∧ IsFm E w' b (addN f i m) (updF f i (some s)) ∧ w.mapTurned w' b := by
  obtain ⟨D, ho, hs, hf⟩ := h
  obtain ⟨w', hrun, ho', ht'⟩ := ho.store lawF ht (by unfold maxLen; omega) (keyF h0 h1) (E.wr s)
  refine ⟨w', hrun, ⟨D.put (kyF i) (.held s), ?_, ?_, fun j => ?_⟩, ht'⟩
  · have e : Maps.size (D.put (kyF i) (.held s)) = addN f i m := by
      rw [Maps.size_put (ho.tidy lawF)]
      unfold addN
      rw [(look_atF E ho i s).2.1, ← hf i, hs]
    rw [← e]
    exact own_size ho'
  · rw [Maps.size_put (ho.tidy lawF)]
    unfold addN
    rw [(look_atF E ho i s).2.1, ← hf i, hs]
  · rw [look_putF ho.isMap]; unfold updF; rw [hf]
theorem IsFm.drop {E : Enc α} {w : World} {b m : Nat} {f : Int → Option α} (h : IsFm E w b m f) {tm te : TypeId} (ht : Try.prog.underlying tm = some (.map 26 te)) {i : Int} (h0 : 0 ≤ i) (h1 : i < 4294967296) (ty : TypeId) :
    ∃ w', (Builtin.delete_ #[tm, 26] ty #[.map (some b), .int .u32 i]).run Try.prog w = .ok (.tuple #[]) w' ∧ IsFm E w' b (delN f i m) (updF f i none) ∧ w.mapTurned w' b := by
  obtain ⟨D, ho, hs, hf⟩ := h
  obtain ⟨w', hrun, ho', ht'⟩ := ho.drop lawF ht (keyF h0 h1) ty
  have e : Maps.size (D.del (kyF i)) = delN f i m := by
    have e1 := Maps.size_del (k := kyF i) (ho.tidy lawF)
    unfold delN
    cases hh : (f i).isSome with
    | true =>
      have h2 : Maps.has D (kyF i) = true := by
        rw [Maps.has_eq_look_of (E := E) ho i, ← hf i]; exact hh
      rw [h2] at e1
      simp at e1 ⊢
      omega
    | false =>
      have h2 : Maps.has D (kyF i) = false := by
        rw [Maps.has_eq_look_of (E := E) ho i, ← hf i]; exact hh
      rw [h2] at e1
      simp at e1 ⊢
      omega
  refine ⟨w', hrun, ⟨D.del (kyF i), ?_, e, fun j => ?_⟩, ht'⟩
  · rw [← e]; exact own_size ho'
  · rw [look_delF]; unfold updF; rw [hf]
end
end Go.Proofs.Ytbgninmkglgfeaa
namespace Go.Proofs.Ytbgninmkglgfeaa
open Go.RowKit Go.ChangeShapes Go.WideShapes Go.ChangeAt Go.Maps
set_option linter.unusedVariables false
set_option linter.unusedSimpArgs false
set_option maxRecDepth 100000
/-- A node's cells from a place on. -/
def NdC (w : World) (b o : Nat) (x : Nd) : Prop := ∀ j v, x.cells[j]? = some v → w.cell? ⟨b, o + j, none⟩ = some v
theorem NdC.later {w w' : World} {b o : Nat} {x : Nd} (h : NdC w b o x) (hb : Below w.heap.size w w') : NdC w' b o x := fun j v hv => cell_later hb (h j v hv)
theorem NdC.all {w : World} {b o : Nat} {x : Nd} (h : NdC w b o x) : w.cell? ⟨b, o, none⟩ = some (.int .u32 x.fid) ∧ w.cell? ⟨b, o + 1, none⟩ = some (.int .u8 x.k) ∧ w.cell? ⟨b, o + 2, none⟩ = some (.int .u16 x.md) ∧ w.cell? ⟨b, o + 3, none⟩ = some (.int .u16 x.ln) ∧ w.cell? ⟨b, o + 4, none⟩ = some (.slice x.da x.zs.length x.dc) ∧ w.cell? ⟨b, o + 5, none⟩ = some (.slice x.ka x.ks.length x.kc) :=
  ⟨h 0 _ rfl, h 1 _ rfl, h 2 _ rfl, h 3 _ rfl, h 4 _ rfl, h 5 _ rfl⟩
/-- Nodes that lie in memory. -/
def IsNs (w : World) (a : Option Addr) (l : List Nd) : Prop :=
  l.length ≤ maxLen ∧ (∀ x ∈ l, x.Ok w) ∧ (0 < l.length → ∃ b off, a = some ⟨b, off, none⟩ ∧ ∀ i, i < l.length → NdC w b (off + i * 6) (l.getD i Nd.no))
theorem IsNs.later {w w' : World} {a : Option Addr} {l : List Nd} (h : IsNs w a l) (hb : Below w.heap.size w w') : IsNs w' a l := by
  obtain ⟨h1, h2, h3⟩ := h
  refine ⟨h1, fun x hx => (h2 x hx).later hb, fun hp => ?_⟩
  obtain ⟨b, off, e, hc⟩ := h3 hp
  exact ⟨b, off, e, fun i hi => (hc i hi).later hb⟩
theorem IsNs.at {w : World} {b off : Nat} {l : List Nd} {i : Nat} (h : IsNs w (some ⟨b, off, none⟩) l) (hi : i < l.length) : NdC w b (off + i * 6) (l.getD i Nd.no) := by
  obtain ⟨b', off', e, hc⟩ := h.2.2 (by omega)
  cases e
  exact hc i hi
theorem getD_mem {α : Type} (l : List α) (d : α) {i : Nat} (hi : i < l.length) : l.getD i d ∈ l := by
  rw [List.getD, List.getElem?_eq_getElem hi]
  exact List.getElem_mem _
theorem IsNs.ok {w : World} {a : Option Addr} {l : List Nd} (h : IsNs w a l) {i : Nat} (hi : i < l.length) : (l.getD i Nd.no).Ok w := h.2.1 _ (getD_mem _ _ hi)
def lastFd (l : List Nd) (m : Nat) : Int := if m = 0 then 0 else (l.getD (m - 1) Nd.no).fid
theorem lastFd_next (l : List Nd) (m : Nat) : lastFd l (m + 1) = (l.getD m Nd.no).fid := by unfold lastFd; simp
def upTo (l : List Nd) : Nat → Bool
  | 0 => true
  | m + 1 => upTo l m && decide (lastFd l m < (l.getD m Nd.no).fid)
/-- Do the fids rise? -/
def fidsUp (l : List Nd) : Bool := upTo l l.length
theorem up_no (l : List Nd) (m : Nat) (h : decide (lastFd l m < (l.getD m Nd.no).fid) = false) : ∀ d, upTo l (m + 1 + d) = false
  | 0 => by simp only [Nat.add_zero, upTo, h, Bool.and_false]
  | d + 1 => by rw [← Nat.add_assoc]; simp only [upTo, up_no l m h d, Bool.false_and]
theorem fidsUp_no {l : List Nd} {m : Nat} (hm : m < l.length) (h : decide (lastFd l m < (l.getD m Nd.no).fid) = false) : fidsUp l = false := by
  unfold fidsUp
  obtain ⟨d, hd⟩ : ∃ d, l.length = m + 1 + d := ⟨l.length - (m + 1), by omega⟩
  rw [hd]; exact up_no l m h d
set_option maxHeartbeats 2000000 in
theorem fidsRise_c (a : Option Addr) (cap : Nat) (l : List Nd) (w : World) (h : IsNs w a l) (hm : l.length ≤ 100000) :
    Calls Try.prog 103 #[.slice a l.length cap] w fun e w' => e = .returned (.bool (fidsUp l)) ∧ w' = w := by
  have H := hid h
  clear h
  obtain ⟨n, hn⟩ : ∃ n, n = l.length := ⟨_, rfl⟩
  rw [← hn] at hm ⊢
  have HN := hid hn
  clear hn
  go_enter Try.func103, Try.ntmps103
  go_wp2
  go_loopg [3, 7] n (fun gk v i wr => ∃ m : Nat, m + gk = n ∧ i = .int .i64 m ∧ v = .int .u32 (lastFd l m) ∧ Hid (wr = w) ∧ Hid (upTo l m = true))
  case atStart => exact ⟨0, by omega, rfl, rfl, hid rfl, hid rfl⟩
  case round =>
    obtain ⟨m, hm2, rfl, rfl, HB, HK⟩ := hrel
    have hwr := HB.out
    subst hwr
    by_cases hlt : m < n
    · have hltI : (m : Int) < n := by omega
      have hln : m < l.length := by rw [← HN.out]; exact hlt
      obtain ⟨b, off, rfl, _⟩ := H.out.2.2 (by omega)
      obtain ⟨c0, _⟩ := (H.out.at (i := m) hln).all
      have NO := hid (fidsUp_no (l := l) (m := m) hln)
      have NX : Hid (decide (lastFd l m < (l.getD m Nd.no).fid) = true → upTo l (m + 1) = true) := hid (fun h => by simp only [upTo, HK.out, h, Bool.and_self])
      have LX := hid (lastFd_next l m)
      generalize l.getD m Nd.no = x at *
      generalize lastFd l m = lst at *
      clear hln
      by_cases q : x.fid ≤ lst
      · have EF := hid (NO.out (decide_eq_false (by omega)))
        go_wp2
        go_ret
        exact ⟨ret_bool' EF.out.symm, rfl⟩
      · have ET := hid (NX.out (decide_eq_true (by omega)))
        go_wp2
        go_roundg (gk - 1)
        case measure => omega
        case rel => exact ⟨m + 1, by omega, by go_num, by rw [LX.out], hid rfl, ET⟩
    · have em : m = n := by omega
      have hge : ¬ (m : Int) < n := by omega
      have EF : Hid (fidsUp l = true) := hid (by unfold fidsUp; rw [← HN.out, ← em]; exact HK.out)
      go_wp2
      go_ret
      exact ⟨ret_bool' EF.out.symm, rfl⟩
/-- Is an entry's name right, behind the one ahead of it? -/
def nmK (l : List Kd) (i : Nat) : Bool := Pa.nameB (l.getD i Kd.no).nm.data.toList && !leS (l.getD i Kd.no).nm (lastK l i)
def namesTo (l : List Kd) : Nat → Bool
  | 0 => true
  | m + 1 => namesTo l m && nmK l m
/-- Do the names rise? -/
def namesOk (l : List Kd) : Bool := namesTo l l.length
theorem names_no (l : List Kd) (m : Nat) (h : nmK l m = false) : ∀ d, namesTo l (m + 1 + d) = false
  | 0 => by simp [namesTo, h]
  | d + 1 => by rw [← Nat.add_assoc]; simp [namesTo, names_no l m h d]
theorem namesOk_no {l : List Kd} {m : Nat} (hm : m < l.length) (h : nmK l m = false) : namesOk l = false := by
  unfold namesOk
  obtain ⟨d, hd⟩ : ∃ d, l.length = m + 1 + d := ⟨l.length - (m + 1), by omega⟩
  rw [hd]; exact names_no l m h d
set_option maxHeartbeats 4000000 in
theorem namesRise_c (a : Option Addr) (cap : Nat) (l : List Kd) (w : World) (h : IsKs w a l) (hm : l.length ≤ 100000) :
    Calls Try.prog 112 #[.slice a l.length cap] w fun e w' => e = .returned (.bool (namesOk l)) ∧ Below w.heap.size w w' := by
  have H := hid h
  clear h
  obtain ⟨n, hn⟩ : ∃ n, n = l.length := ⟨_, rfl⟩
  rw [← hn] at hm ⊢
  have HN := hid hn
  clear hn
  go_enter Try.func112, Try.ntmps112
  go_wp2
  go_loopg [3, 8] n (fun gk v i wr => ∃ m : Nat, m + gk = n ∧ i = .int .i64 m ∧ v = .string (lastK l m) ∧ Hid (Below w.heap.size w wr) ∧ Hid (namesTo l m = true))
  case atStart => exact ⟨0, by omega, rfl, rfl, hid (Below.refl _ _), hid rfl⟩
  case round =>
    obtain ⟨m, hm2, rfl, rfl, HB, HK⟩ := hrel
    by_cases hlt : m < n
    · have hltI : (m : Int) < n := by omega
      have hln : m < l.length := by rw [← HN.out]; exact hlt
      obtain ⟨b, off, rfl, _⟩ := H.out.2.2 (by omega)
      have hK := H.out.later HB.out
      obtain ⟨k0, k1⟩ := hK.at (i := m) hln
      have hwf := hK.wf (i := m) hln
      have NO := hid (namesOk_no (l := l) (m := m) hln)
      have NX : Hid (nmK l m = true → namesTo l (m + 1) = true) := hid (fun h => by simp [namesTo, HK.out, h])
      have LX := hid (lastK_next l m)
      unfold nmK at NO NX
      clear hK hln
      generalize l.getD m Kd.no = x at *
      have NC := hid (name_c x.nm (wr.alloc (.cells #[.string x.nm, .int .u32 x.fid] 74)) hwf.1)
      have hbx := heap_alloc_new wr (.cells #[.string x.nm, .int .u32 x.fid] 74)
      have HX := hid hbx
      have BA := hid (HB.out.trans ((below_1 wr (.cells #[.string x.nm, .int .u32 x.fid] 74)).mono HB.out.size))
      clear hbx hwf
      generalize hlast : lastK l m = lst at *
      clear hlast
      unfold leS at NO NX
      cases q1 : Pa.nameB x.nm.data.toList with
      | false =>
        rw [q1] at NC NO
        have EF := hid (NO.out rfl)
        clear NO NX
        go_wp2_with (go_at_call 111; refine NC.out.mono ?_; rintro _ w1 ⟨rfl, hb1⟩)
        go_ret
        exact ⟨ret_bool' EF.out.symm, BA.out.trans (hb1.mono BA.out.size)⟩
      | true =>
        rw [q1] at NC NO NX
        cases q2 : (Op.bytesLess x.nm.toList lst.toList || x.nm.toList == lst.toList) with
        | true =>
          rw [q2] at NO
          have EF := hid (NO.out (by simp))
          clear NO NX
          go_wp2_with (go_at_call 111; refine NC.out.mono ?_; rintro _ w1 ⟨rfl, hb1⟩; (have c0 : w1.cell? ⟨wr.heap.size, 0, none⟩ = some (.string x.nm) := cell_of_row2 ((hb1.block _ (lt_blkR HX.out)).trans HX.out) 0 rfl))
          all_goals go_ret
          all_goals exact ⟨ret_bool' EF.out.symm, BA.out.trans (hb1.mono BA.out.size)⟩
        | false =>
          rw [q2] at NX
          have ET := hid (NX.out (by simp))
          clear NO NX
          go_wp2_with (go_at_call 111; refine NC.out.mono ?_; rintro _ w1 ⟨rfl, hb1⟩; (have c0 : w1.cell? ⟨wr.heap.size, 0, none⟩ = some (.string x.nm) := cell_of_row2 ((hb1.block _ (lt_blkR HX.out)).trans HX.out) 0 rfl))
          go_roundg (gk - 1)
          case measure => omega
          case rel => exact ⟨m + 1, by omega, by go_num, by rw [LX.out], hid (BA.out.trans (hb1.mono BA.out.size)), ET⟩
    · have em : m = n := by omega
      have hge : ¬ (m : Int) < n := by omega
      have EF : Hid (namesOk l = true) := hid (by unfold namesOk; rw [← HN.out, ← em]; exact HK.out)
      go_wp2
      go_ret
      exact ⟨ret_bool' EF.out.symm, HB.out⟩
/-- Is a node right as far as it shows by itself? -/
def aloneB (x : Nd) : Bool := bif x.k == 1 || x.k == 3 then decide (x.zs.length ≤ 64) && decide (x.ks.length = 0) else bif x.k == 2 then decide (x.zs.length = 0) && (decide (x.ks.length ≤ 12) && namesOk x.ks) else false
set_option maxHeartbeats 4000000 in
theorem rightAlone_c (b o : Nat) (x : Nd) (w : World) (hc : NdC w b o x) (h : x.Ok w) :
    Calls Try.prog 105 #[.pointer (some ⟨b, o, none⟩)] w fun e w' => e = .returned (.bool (aloneB x)) ∧ Below w.heap.size w w' := by
  obtain ⟨y0, y1, y2, y3, y4, y5⟩ := hc.all
  have hK := h.2.2.2.2.2
  have RK := hid (fun (hm : x.ks.length ≤ 100000) => namesRise_c x.ka x.kc x.ks w hK hm)
  obtain ⟨nk, hnk⟩ : ∃ nk, nk = aloneB x := ⟨_, rfl⟩
  rw [← hnk]
  unfold aloneB at hnk
  have HE := hid hnk
  clear hc h hK hnk y0 y2 y3
  obtain ⟨fid, k, md, ln, da, dc, zs, ka, kc, ks⟩ := x
  simp only at *
  have fin : ∀ {bb : Bool}, nk = bb → Hid (Ending.returned (.bool bb) = .returned (.bool nk) ∧ Below w.heap.size w w) := fun e => hid ⟨by rw [e], Below.refl _ _⟩
  by_cases e1 : k = 1
  · subst e1
    by_cases q1 : zs.length ≤ 64
    · have q1I : (zs.length : Int) ≤ 64 := by omega
      by_cases q2 : ks.length = 0
      · have q2B : ((ks.length : Int) == 0) = true := by rw [q2]; rfl
        have F := fin (bb := true) (by rw [HE.out, decide_eq_true q1, decide_eq_true q2]; rfl)
        clear q2 HE fin
        go_enter Try.func105, Try.ntmps105
        go_wp2
        go_ret
        exact F.out
      · have q2B : ((ks.length : Int) == 0) = false := beq_eq_false_iff_ne.2 (by omega)
        have F := fin (bb := false) (by rw [HE.out, decide_eq_true q1, decide_eq_false q2]; rfl)
        clear HE fin
        go_enter Try.func105, Try.ntmps105
        go_wp2
        go_ret
        exact F.out
    · have q1I : ¬ (zs.length : Int) ≤ 64 := by omega
      have F := fin (bb := false) (by rw [HE.out, decide_eq_false q1]; rfl)
      clear HE fin
      go_enter Try.func105, Try.ntmps105
      go_wp2
      go_ret
      exact F.out
  · by_cases e3 : k = 3
    · subst e3
      by_cases q1 : zs.length ≤ 64
      · have q1I : (zs.length : Int) ≤ 64 := by omega
        by_cases q2 : ks.length = 0
        · have q2B : ((ks.length : Int) == 0) = true := by rw [q2]; rfl
          have F := fin (bb := true) (by rw [HE.out, decide_eq_true q1, decide_eq_true q2]; rfl)
          clear q2 HE fin
          go_enter Try.func105, Try.ntmps105
          go_wp2
          go_ret
          exact F.out
        · have q2B : ((ks.length : Int) == 0) = false := beq_eq_false_iff_ne.2 (by omega)
          have F := fin (bb := false) (by rw [HE.out, decide_eq_true q1, decide_eq_false q2]; rfl)
          clear HE fin
          go_enter Try.func105, Try.ntmps105
          go_wp2
          go_ret
          exact F.out
      · have q1I : ¬ (zs.length : Int) ≤ 64 := by omega
        have F := fin (bb := false) (by rw [HE.out, decide_eq_false q1]; rfl)
        clear HE fin
        go_enter Try.func105, Try.ntmps105
        go_wp2
        go_ret
        exact F.out
    · have r1 : (k == 1) = false := beq_eq_false_iff_ne.2 e1
      have r3 : (k == 3) = false := beq_eq_false_iff_ne.2 e3
      rw [r1, r3] at HE
      by_cases e2 : k = 2
      · subst e2
        by_cases q1 : zs.length = 0
        · have q1B : ((zs.length : Int) == 0) = true := by rw [q1]; rfl
          by_cases q2 : ks.length ≤ 12
          · have q2I : (ks.length : Int) ≤ 12 := by omega
            have RK2 := hid (RK.out (by omega))
            have HE2 : Hid (nk = namesOk ks) := hid (by rw [HE.out, decide_eq_true q1, decide_eq_true q2]; rfl)
            rw [← HE2.out] at RK2
            clear q1 RK HE HE2 fin
            go_enter Try.func105, Try.ntmps105
            go_wp2_with (go_at_call 112; refine RK2.out.mono ?_; rintro _ w1 ⟨rfl, hb1⟩)
            go_ret
            exact ⟨rfl, hb1⟩
          · have q2I : ¬ (ks.length : Int) ≤ 12 := by omega
            have F := fin (bb := false) (by rw [HE.out, decide_eq_true q1, decide_eq_false q2]; rfl)
            clear q1 HE fin
            go_enter Try.func105, Try.ntmps105
            go_wp2
            go_ret
            exact F.out
        · have q1B : ((zs.length : Int) == 0) = false := beq_eq_false_iff_ne.2 (by omega)
          have F := fin (bb := false) (by rw [HE.out, decide_eq_false q1]; rfl)
          clear HE fin
          go_enter Try.func105, Try.ntmps105
          go_wp2
          go_ret
          exact F.out
      · have r2 : (k == 2) = false := beq_eq_false_iff_ne.2 e2
        rw [r2] at HE
        have F := fin (bb := false) (by rw [HE.out]; rfl)
        clear HE fin
        go_enter Try.func105, Try.ntmps105
        go_wp2
        go_ret
        exact F.out
end Go.Proofs.Ytbgninmkglgfeaa
namespace Go.Proofs.Ytbgninmkglgfeaa
open Go.RowKit Go.ChangeShapes Go.WideShapes Go.ChangeAt Go.Maps
set_option linter.unusedVariables false
set_option linter.unusedSimpArgs false
set_option maxRecDepth 100000
def ptR : Value → Option (DataW (Option Addr) × List MemPlace)
  | .pointer x => some (.held x, [])
  | _ => none
/-- Pointers. -/
def ptE : Enc (Option Addr) := ⟨fun x => .pointer x, ptR, fun _ => rfl, fun {v z} h => by
  unfold ptR at h
  split at h
  · cases h; exact ⟨_, rfl, rfl⟩
  · cases h⟩
theorem zeroPt (w : World) : (zeroValue 150).run Try.prog w = .ok (ptE.enc none) w := by
  have h : (Try.prog.info? 150).map (fun i => i.zero) = some (some (.pointer none)) := by kernel_rfl
  cases hi : Try.prog.info? 150 with
  | none => rw [hi] at h; cases h
  | some i => rw [hi] at h; simp at h; simp [zeroValue, typeInfo, hi, h]; rfl
/-- Which node of a list a fid is, as far as it is gone through. -/
def plTo (l : List Nd) : Nat → Int → Option Nat
  | 0, _ => none
  | m + 1, f => updF (plTo l m) (l.getD m Nd.no).fid (some m) f
def plN (l : List Nd) : Nat → Nat
  | 0 => 0
  | m + 1 => addN (plTo l m) (l.getD m Nd.no).fid (plN l m)
theorem plTo_lt (l : List Nd) : ∀ (m : Nat) {f : Int} {i : Nat}, plTo l m f = some i → i < m ∧ (l.getD i Nd.no).fid = f
  | 0, f, i, h => by cases h
  | m + 1, f, i, h => by
    unfold plTo updF at h
    split at h
    · rename_i e
      cases h
      exact ⟨by omega, e.symm⟩
    · obtain ⟨h1, h2⟩ := plTo_lt l m h
      exact ⟨by omega, h2⟩
theorem plN_le (l : List Nd) : ∀ m, plN l m ≤ m
  | 0 => Nat.le_refl _
  | m + 1 => by
    have := plN_le l m
    unfold plN addN
    split <;> omega
/-- The nodes of a table: where each lies, and what it is. -/
abbrev Tab := Int → Option (Addr × Nd)
def Tab.ptr (N : Tab) : Int → Option (Option Addr) := fun f => (N f).map fun p => some p.1
/-- A table in memory. -/
def IsTab (w : World) (tb m : Nat) (N : Tab) : Prop := IsFm ptE w tb m N.ptr ∧ ∀ f p x, N f = some (p, x) → p.spot = none ∧ NdC w p.block p.off x ∧ x.Ok w ∧ x.fid = f
theorem IsTab.later {w w' : World} {tb m : Nat} {N : Tab} (h : IsTab w tb m N) (hb : Below w.heap.size w w') : IsTab w' tb m N :=
  ⟨h.1.out (Ou.of (S := fun _ => False) hb) (fun e => e), fun f p x e => by obtain ⟨h1, h2, h3, h4⟩ := h.2 f p x e; exact ⟨h1, h2.later hb, h3.later hb, h4⟩⟩
def ndF (a : Option Addr) (l : List Nd) (m : Nat) : Tab := fun f => (plTo l m f).map fun i => (⟨(a.getD ⟨0, 0, none⟩).block, (a.getD ⟨0, 0, none⟩).off + i * 6, none⟩, l.getD i Nd.no)
theorem ndF_ptr (b off : Nat) (l : List Nd) (m : Nat) : (ndF (some ⟨b, off, none⟩) l (m + 1)).ptr = updF (ndF (some ⟨b, off, none⟩) l m).ptr (l.getD m Nd.no).fid (some (some ⟨b, off + m * 6, none⟩)) := by
  funext f
  have e : plTo l (m + 1) f = updF (plTo l m) (l.getD m Nd.no).fid (some m) f := rfl
  unfold Tab.ptr ndF
  rw [e]
  unfold updF
  split <;> simp
theorem addN_ptr (a : Option Addr) (l : List Nd) (m : Nat) (f : Int) (n : Nat) : addN (ndF a l m).ptr f n = addN (plTo l m) f n := by
  unfold addN Tab.ptr ndF
  cases plTo l m f <;> rfl
theorem ht_tab : Try.prog.underlying 148 = some (.map 26 150) := Try.underlying148
theorem ns_tab {w : World} {a : Option Addr} {l : List Nd} {tb : Nat} (h : IsNs w a l) (hf : IsFm ptE w tb (plN l l.length) (ndF a l l.length).ptr) : IsTab w tb (plN l l.length) (ndF a l l.length) := by
  refine ⟨hf, fun f p x e => ?_⟩
  unfold ndF at e
  cases hp : plTo l l.length f with
  | none => rw [hp] at e; cases e
  | some i =>
    rw [hp] at e
    simp only [Option.map_some, Option.some.injEq, Prod.mk.injEq] at e
    obtain ⟨rfl, rfl⟩ := e
    obtain ⟨h1, h2⟩ := plTo_lt l _ hp
    obtain ⟨b, off, rfl, hc⟩ := h.2.2 (by omega)
    exact ⟨rfl, hc i h1, h.ok h1, h2⟩
theorem Ou.drewW {S : Nat → Prop} (w : World) : Ou S w w.drew := Ou.of (Below.drew (Below.refl _ _))
set_option maxHeartbeats 2000000 in
theorem tableOf_c (a : Option Addr) (cap : Nat) (l : List Nd) (w : World) (h : IsNs w a l) (hm : l.length ≤ 500) :
    Calls Try.prog 104 #[.slice a l.length cap] w fun e w' => e = .returned (.map (some w.heap.size)) ∧ IsTab w' w.heap.size (plN l l.length) (ndF a l l.length) ∧ Below w.heap.size w w' := by
  have H := hid h
  clear h
  have b0 := below_1 w (.map #[] 0)
  have B0 := hid b0
  have F0 := hid (IsFm.made ptE w)
  have ht := ht_tab
  obtain ⟨n, hn⟩ : ∃ n, n = l.length := ⟨_, rfl⟩
  have HN := hid hn
  have FIN : Hid (∀ W, Below w.heap.size w W → IsFm ptE W w.heap.size (plN l n) (ndF a l n).ptr → IsTab W w.heap.size (plN l l.length) (ndF a l l.length)) := hid (fun W hb hf => by rw [hn] at hf; exact ns_tab (H.out.later hb) hf)
  rw [← hn] at hm ⊢
  clear hn b0
  have hmm := @run_makeMap Try.prog
  go_enter Try.func104, Try.ntmps104
  go_wp2
  go_loopg [8] n (fun gk i wr => ∃ m : Nat, m + gk = n ∧ i = .int .i64 m ∧ Hid (Below w.heap.size w wr) ∧ Hid (IsFm ptE wr w.heap.size (plN l m) (ndF a l m).ptr))
  case atStart => exact ⟨0, by omega, rfl, B0, F0⟩
  case round =>
    obtain ⟨m, hm2, rfl, HB, HF⟩ := hrel
    by_cases hlt : m < n
    · have hltI : (m : Int) < n := by omega
      have hln : m < l.length := by rw [← HN.out]; exact hlt
      obtain ⟨b, off, rfl, _⟩ := H.out.2.2 (by omega)
      have hI := H.out.later HB.out
      have hbd := (hI.ok (i := m) hln).1
      obtain ⟨c0, _⟩ := (hI.at (i := m) hln).all
      have hfd := HF.out.out (S := fun _ => False) (Ou.drewW wr) (fun e => e)
      have hpl := plN_le l m
      obtain ⟨w3, SR, IM, MT⟩ := hfd.store (by omega) ht hbd.1 hbd.2 (some ⟨b, off + m * 6, none⟩)
      rw [addN_ptr, ← ndF_ptr] at IM
      rw [show ptE.enc (some ⟨b, off + m * 6, none⟩) = .pointer (some ⟨b, off + m * 6, none⟩) from rfl] at SR
      have HF3 : Hid (IsFm ptE w3 w.heap.size (plN l (m + 1)) (ndF (some ⟨b, off, none⟩) l (m + 1)).ptr) := hid IM
      have HB3 : Hid (Below w.heap.size w w3) := hid (HB.out.trans ((((Ou.drewW (S := fun k => k = w.heap.size) wr).trans (Ou.turned MT rfl)).below HB.out.size (fun k e => by omega))))
      have c0d : wr.drew.cell? ⟨b, off + m * 6, none⟩ = some (.int .u32 (l.getD m Nd.no).fid) := c0
      clear hI hfd hbd IM MT hln hpl
      generalize l.getD m Nd.no = x at *
      go_upto_region 5 with fail
      go_region
      go_wp2
      go_roundg (gk - 1)
      case measure => omega
      case rel => exact ⟨m + 1, by omega, by go_num, HB3, HF3⟩
    · have em : m = n := by omega
      have hge : ¬ (m : Int) < n := by omega
      have F := hid (FIN.out wr HB.out (by rw [← em]; exact HF.out))
      go_wp2
      go_ret
      exact ⟨rfl, by rw [← HN.out] at F; exact F.out, HB.out⟩
/-- Do all entries lead to nodes of a table other than the root? -/
def haveTo (N : Tab) (l : List Kd) : Nat → Bool
  | 0 => true
  | m + 1 => haveTo N l m && ((l.getD m Kd.no).fid != 1 && (N (l.getD m Kd.no).fid).isSome)
def haveB (N : Tab) (l : List Kd) : Bool := haveTo N l l.length
theorem have_no (N : Tab) (l : List Kd) (m : Nat) (h : ((l.getD m Kd.no).fid != 1 && (N (l.getD m Kd.no).fid).isSome) = false) : ∀ d, haveTo N l (m + 1 + d) = false
  | 0 => by simp only [Nat.add_zero, haveTo, h, Bool.and_false]
  | d + 1 => by rw [← Nat.add_assoc]; simp only [haveTo, have_no N l m h d, Bool.false_and]
theorem haveB_no {N : Tab} {l : List Kd} {m : Nat} (hm : m < l.length) (h : ((l.getD m Kd.no).fid != 1 && (N (l.getD m Kd.no).fid).isSome) = false) : haveB N l = false := by
  unfold haveB
  obtain ⟨d, hd⟩ : ∃ d, l.length = m + 1 + d := ⟨l.length - (m + 1), by omega⟩
  rw [hd]; exact have_no N l m h d
theorem haveTo_all {N : Tab} {l : List Kd} : ∀ {m : Nat}, haveTo N l m = true → ∀ i, i < m → (l.getD i Kd.no).fid ≠ 1 ∧ (N (l.getD i Kd.no).fid).isSome = true
  | 0, _, i, hi => by omega
  | m + 1, h, i, hi => by
    unfold haveTo at h
    rw [Bool.and_eq_true] at h
    by_cases e : i = m
    · subst e
      have := h.2
      rw [Bool.and_eq_true] at this
      exact ⟨by simpa using this.1, this.2⟩
    · exact haveTo_all h.1 i (by omega)
set_option maxHeartbeats 2000000 in
theorem haveKidsOf_c (tb m0 : Nat) (N : Tab) (b o : Nat) (x : Nd) (w : World) (hT : IsTab w tb m0 N) (hc : NdC w b o x) (h : x.Ok w) (hm : x.ks.length ≤ 100000) :
    Calls Try.prog 106 #[.map (some tb), .pointer (some ⟨b, o, none⟩)] w fun e w' => e = .returned (.bool (haveB N x.ks)) ∧ Below w.heap.size w w' := by
  obtain ⟨_, _, _, _, _, y5⟩ := hc.all
  have HK := hid h.2.2.2.2.2
  have HT := hid hT
  have ht := ht_tab
  clear hc h hT
  obtain ⟨fid, k, md, ln, da, dc, zs, ka, kc, l⟩ := x
  simp only at *
  obtain ⟨n, hn⟩ : ∃ n, n = l.length := ⟨_, rfl⟩
  rw [← hn] at hm y5
  have HN := hid hn
  clear hn
  go_enter Try.func106, Try.ntmps106
  go_wp2
  go_loopg [12] n (fun gk i wr => ∃ m : Nat, m + gk = n ∧ i = .int .i64 m ∧ Hid (Below w.heap.size w wr) ∧ Hid (haveTo N l m = true))
  case atStart => exact ⟨0, by omega, rfl, hid (Below.refl _ _), hid rfl⟩
  case round =>
    obtain ⟨m, hm2, rfl, HB, HH⟩ := hrel
    by_cases hlt : m < n
    · have hltI : (m : Int) < n := by omega
      have hln : m < l.length := by rw [← HN.out]; exact hlt
      obtain ⟨b1, off, rfl, _⟩ := HK.out.2.2 (by omega)
      have hK := HK.out.later HB.out
      obtain ⟨k0, k1⟩ := hK.at (i := m) hln
      have hwf := hK.wf (i := m) hln
      have NO := hid (haveB_no (N := N) (l := l) (m := m) hln)
      have NX : Hid (((l.getD m Kd.no).fid != 1 && (N (l.getD m Kd.no).fid).isSome) = true → haveTo N l (m + 1) = true) := hid (fun h => by simp only [haveTo, HH.out, h, Bool.and_self])
      clear hK hln
      generalize l.getD m Kd.no = y at *
      have bA := below_1 wr (.cells #[.string y.nm, .int .u32 y.fid] 74)
      have hA := heap_alloc_new wr (.cells #[.string y.nm, .int .u32 y.fid] 74)
      have c1 : (wr.alloc (.cells #[.string y.nm, .int .u32 y.fid] 74)).cell? ⟨wr.heap.size, 1, none⟩ = some (.int .u32 y.fid) := cell_of_row2 hA 1 rfl
      have HB2 := hid (HB.out.trans (bA.mono HB.out.size))
      have LK := (HT.out.later HB2.out).1.look ht zeroPt hwf.2.1 hwf.2.2
      clear hA bA
      by_cases q1 : y.fid = 1
      · have q1B : (y.fid == 1) = true := by rw [q1]; rfl
        have EF := hid (NO.out (by rw [q1]; rfl))
        clear NO NX LK q1
        go_wp2
        go_ret
        exact ⟨ret_bool' EF.out.symm, HB2.out⟩
      · have q1B : (y.fid == 1) = false := beq_eq_false_iff_ne.2 q1
        unfold Tab.ptr at LK
        cases q2 : N y.fid with
        | none =>
          have EF := hid (NO.out (by rw [q2]; simp))
          rw [q2] at LK
          rw [show ptE.enc ((Option.map (fun p : Addr × Nd => some p.1) none).getD none) = .pointer none from rfl] at LK
          clear NO NX
          go_wp2
          go_ret
          exact ⟨ret_bool' EF.out.symm, HB2.out⟩
        | some p =>
          have ET := hid (NX.out (by rw [q2]; simpa using q1))
          rw [q2] at LK
          rw [show ptE.enc ((Option.map (fun p : Addr × Nd => some p.1) (some p)).getD none) = .pointer (some p.1) from rfl] at LK
          clear NO NX
          go_wp2
          go_roundg (gk - 1)
          case measure => omega
          case rel => exact ⟨m + 1, by omega, by go_num, HB2, ET⟩
    · have em : m = n := by omega
      have hge : ¬ (m : Int) < n := by omega
      have EF : Hid (haveB N l = true) := hid (by unfold haveB; rw [← HN.out, ← em]; exact HH.out)
      go_wp2
      go_ret
      exact ⟨ret_bool' EF.out.symm, HB.out⟩
end Go.Proofs.Ytbgninmkglgfeaa
namespace Go.Proofs.Ytbgninmkglgfeaa
open Go.RowKit Go.ChangeShapes Go.WideShapes Go.ChangeAt Go.Maps
set_option linter.unusedVariables false
set_option linter.unusedSimpArgs false
set_option maxRecDepth 100000
/-- The fids that entries lead to. -/
def kfs (l : List Nd) : List Int := l.flatMap fun x => x.ks.map (·.fid)
/-- How often a fid stands in a list, as a map tells. -/
def cntF (P : List Int) : Int → Option Int := fun f => if P.count f = 0 then none else some (P.count f : Int)
theorem cntF_getD (P : List Int) (f : Int) : (cntF P f).getD 0 = (P.count f : Int) := by
  unfold cntF
  split
  · rename_i h; rw [h]; rfl
  · rfl
theorem cntF_snoc (P : List Int) (f : Int) : updF (cntF P) f (some ((P.count f : Int) + 1)) = cntF (P ++ [f]) := by
  funext g
  unfold updF cntF
  by_cases e : g = f
  · subst e
    rw [if_pos rfl, List.count_append]
    simp
  · rw [if_neg e, List.count_append, List.count_singleton]
    have : (f == g) = false := by rw [beq_eq_false_iff_ne]; exact fun h => e h.symm
    rw [this]
    simp
theorem kfs_take {l : List Nd} {m : Nat} (h : m < l.length) : kfs (l.take (m + 1)) = kfs (l.take m) ++ (l.getD m Nd.no).ks.map (·.fid) := by
  have e : l.take (m + 1) = l.take m ++ [l.getD m Nd.no] := by rw [List.take_add_one, List.getD, List.getElem?_eq_getElem h]; rfl
  unfold kfs
  rw [e, List.flatMap_append]
  simp only [List.flatMap_cons, List.flatMap_nil, List.append_nil]
theorem kfs_le {l : List Nd} (h : ∀ x ∈ l, x.ks.length ≤ 12) : (kfs l).length ≤ l.length * 12 := by
  unfold kfs
  induction l with
  | nil => simp
  | cons x t ih =>
    have h1 := h x (by simp)
    have h2 := ih (fun y hy => h y (by simp [hy]))
    rw [List.flatMap_cons, List.length_append, List.length_map, List.length_cons]
    omega
theorem map_take_kid {l : List Kd} {m : Nat} (h : m < l.length) : (l.take (m + 1)).map (·.fid) = (l.take m).map (·.fid) ++ [(l.getD m Kd.no).fid] := by rw [take_kid h, List.map_append]; rfl
/-- Has a node as many Links as entries lead to it, and as many as it may have? -/
def linkB (P : List Int) (x : Nd) : Bool := (x.ln == (P.count x.fid : Int)) && (x.fid == 1 || !(decide ((P.count x.fid : Int) < 1) || (x.k == 2 && decide ((1 : Int) < P.count x.fid))))
def linksTo (P : List Int) (l : List Nd) : Nat → Bool
  | 0 => true
  | m + 1 => linksTo P l m && linkB P (l.getD m Nd.no)
def linksB (l : List Nd) : Bool := linksTo (kfs l) l l.length
theorem links_no (P : List Int) (l : List Nd) (m : Nat) (h : linkB P (l.getD m Nd.no) = false) : ∀ d, linksTo P l (m + 1 + d) = false
  | 0 => by simp only [Nat.add_zero, linksTo, h, Bool.and_false]
  | d + 1 => by rw [← Nat.add_assoc]; simp only [linksTo, links_no P l m h d, Bool.false_and]
theorem linksB_no {l : List Nd} {m : Nat} (hm : m < l.length) (h : linkB (kfs l) (l.getD m Nd.no) = false) : linksB l = false := by
  unfold linksB
  obtain ⟨d, hd⟩ : ∃ d, l.length = m + 1 + d := ⟨l.length - (m + 1), by omega⟩
  rw [hd]; exact links_no _ l m h d
theorem zeroNu6 (w : World) : (zeroValue 3).run Try.prog w = .ok (numE.enc 0) w := by
  have h : (Try.prog.info? 3).map (fun i => i.zero) = some (some (.int .i64 0)) := by kernel_rfl
  cases hi : Try.prog.info? 3 with
  | none => rw [hi] at h; cases h
  | some i => rw [hi] at h; simp at h; simp [zeroValue, typeInfo, hi, h]; rfl
theorem ht_cnt : Try.prog.underlying 155 = some (.map 26 3) := Try.underlying155
/-- A map that tells how often each fid stands in a list. -/
def Cnt (w : World) (tb : Nat) (P : List Int) : Prop := ∃ c, c ≤ P.length ∧ IsFm numE w tb c (cntF P)
theorem Cnt.later {w w' : World} {tb : Nat} {P : List Int} (h : Cnt w tb P) (hb : Below w.heap.size w w') : Cnt w' tb P := by
  obtain ⟨c, h1, h2⟩ := h
  exact ⟨c, h1, h2.out (Ou.of (S := fun _ => False) hb) (fun e => e)⟩
theorem Cnt.look {w : World} {tb : Nat} {P : List Int} (h : Cnt w tb P) {f : Int} (h0 : 0 ≤ f) (h1 : f < 4294967296) : (Instr.lookup 155 (.map (some tb)) (.int .u32 f) false).run Try.prog w = .ok (.int .i64 (P.count f : Int)) w := by
  obtain ⟨c, _, h2⟩ := h
  have := h2.look ht_cnt zeroNu6 h0 h1
  rw [cntF_getD] at this
  exact this
theorem Cnt.add {w : World} {tb : Nat} {P : List Int} (h : Cnt w tb P) (hl : P.length < 999) {f : Int} (h0 : 0 ≤ f) (h1 : f < 4294967296) : ∃ w', (Instr.mapUpdate 155 (.map (some tb)) (.int .u32 f) (.int .i64 ((P.count f : Int) + 1))).run Try.prog w = .ok () w' ∧ Cnt w' tb (P ++ [f]) ∧ w.mapTurned w' tb := by
  obtain ⟨c, hc, h2⟩ := h
  obtain ⟨w', r1, r2, r3⟩ := h2.store (by omega) ht_cnt h0 h1 ((P.count f : Int) + 1)
  rw [cntF_snoc] at r2
  refine ⟨w', r1, ⟨_, ?_, r2⟩, r3⟩
  unfold addN
  rw [List.length_append]
  split <;> simp <;> omega
set_option maxHeartbeats 4000000 in
theorem rightLinks_c (a : Option Addr) (cap : Nat) (l : List Nd) (w : World) (h : IsNs w a l) (hm : l.length ≤ 40) (hk : ∀ x ∈ l, x.ks.length ≤ 12) :
    Calls Try.prog 107 #[.slice a l.length cap] w fun e w' => e = .returned (.bool (linksB l)) ∧ Below w.heap.size w w' := by
  have H := hid h
  have HK := hid hk
  have KL : Hid ((kfs l).length ≤ 480) := hid (by have := kfs_le hk; omega)
  have KLt : Hid (∀ m, (kfs (l.take m)).length ≤ 480) := hid (fun m => by
    have := kfs_le (l := l.take m) (fun x hx => hk x (List.mem_of_mem_take hx))
    rw [List.length_take] at this; omega)
  clear h hk
  have B0 := hid (below_1 w (.map #[] 0))
  have C0 : Hid (Cnt (w.alloc (.map #[] 0)) w.heap.size []) := hid ⟨0, Nat.le_refl _, by have := IsFm.made numE w; rwa [show (fun _ : Int => (none : Option Int)) = cntF [] from by funext f; simp [cntF]] at this⟩
  obtain ⟨n, hn⟩ : ∃ n, n = l.length := ⟨_, rfl⟩
  rw [← hn] at hm ⊢
  have HN := hid hn
  clear hn
  have hmm := @run_makeMap Try.prog
  go_enter Try.func107, Try.ntmps107
  go_wp2
  go_loopg [13] n (fun gk i wr => ∃ m : Nat, m + gk = n ∧ i = .int .i64 m ∧ Hid (Below w.heap.size w wr) ∧ Hid (Cnt wr w.heap.size (kfs (l.take m))))
  case atStart => exact ⟨0, by omega, rfl, B0, C0⟩
  case round =>
    clear B0 C0
    obtain ⟨m, hm2, rfl, HB, HC⟩ := hrel
    by_cases hlt : m < n
    · have hltI : (m : Int) < n := by omega
      have hln : m < l.length := by rw [← HN.out]; exact hlt
      obtain ⟨b, off, rfl, _⟩ := H.out.2.2 (by omega)
      have hI := H.out.later HB.out
      have HO := hid (H.out.ok (i := m) hln)
      obtain ⟨_, _, _, _, _, y5⟩ := (hI.at (i := m) hln).all
      have KT := hid (kfs_take hln)
      have h12 := HK.out _ (getD_mem l Nd.no hln)
      have hP := KLt.out m
      have hP2 := KLt.out (m + 1)
      rw [KT.out, List.length_append, List.length_map] at hP2
      clear hI hln
      generalize l.getD m Nd.no = x at *
      obtain ⟨P, hPe⟩ : ∃ P, P = kfs (l.take m) := ⟨_, rfl⟩
      rw [← hPe] at HC KT hP hP2
      clear hPe
      obtain ⟨fid, k, md, ln, da, dc, zs, ka, kc, ks⟩ := x
      simp only at *
      obtain ⟨nk, hnk⟩ : ∃ nk, nk = ks.length := ⟨_, rfl⟩
      rw [← hnk] at y5 h12 hP2
      have HNK := hid hnk
      clear hnk
      go_wp2
      generalize wr = wo at *
      obtain ⟨go, hgo⟩ : ∃ go, go = gk := ⟨_, rfl⟩
      subst hgo
      go_loopg [22] nk (fun gj j wr => ∃ i : Nat, i + gj = nk ∧ j = .int .i64 i ∧ Hid (Below w.heap.size w wr) ∧ Hid (Cnt wr w.heap.size (P ++ (ks.take i).map (·.fid))))
      case atStart => exact ⟨0, by omega, rfl, HB, hid (by simpa using HC.out)⟩
      case round =>
        obtain ⟨i, hi2, rfl, HB1, HC1⟩ := hrel
        by_cases hlt2 : i < nk
        · have hltI2 : (i : Int) < nk := by omega
          have hik : i < ks.length := by rw [← HNK.out]; exact hlt2
          have hKs := HO.out.2.2.2.2.2.later HB1.out
          obtain ⟨b1, off1, rfl, _⟩ := hKs.2.2 (by simp only; omega)
          obtain ⟨k0, k1⟩ := hKs.at (i := i) hik
          have hwf := hKs.wf (i := i) hik
          have MT := hid (map_take_kid hik)
          have hPi : (P ++ (ks.take i).map (·.fid)).length ≤ 492 := by rw [List.length_append, List.length_map, List.length_take]; omega
          clear hKs hik
          simp only at k0 k1 hwf
          generalize ks.getD i Kd.no = y at *
          obtain ⟨Q, hQ⟩ : ∃ Q, Q = P ++ (ks.take i).map (·.fid) := ⟨_, rfl⟩
          rw [← hQ] at HC1 hPi
          have HQ := hid hQ
          clear hQ
          have bA := below_1 wr (.cells #[.string y.nm, .int .u32 y.fid] 74)
          have hA := heap_alloc_new wr (.cells #[.string y.nm, .int .u32 y.fid] 74)
          have c1 : (wr.alloc (.cells #[.string y.nm, .int .u32 y.fid] 74)).cell? ⟨wr.heap.size, 1, none⟩ = some (.int .u32 y.fid) := cell_of_row2 hA 1 rfl
          have CA := HC1.out.later bA
          have LK := CA.look hwf.2.1 hwf.2.2
          obtain ⟨w3, SR, C3, MTn⟩ := CA.add (by omega) hwf.2.1 hwf.2.2
          have hcl : Q.count y.fid ≤ 1000 := Nat.le_trans List.count_le_length (by omega)
          obtain ⟨cn, hcn⟩ : ∃ cn : Int, cn = (Q.count y.fid : Int) := ⟨_, rfl⟩
          have kw : IntKind.i64.wrap (cn + 1) = cn + 1 := by rw [IntKind.wrap_i64]; omega
          rw [← hcn] at LK SR
          have HB3 : Hid (Below w.heap.size w w3) := hid ((HB1.out.trans (bA.mono HB1.out.size)).trans ((Ou.turned (S := fun k => k = w.heap.size) MTn rfl).below (Nat.le_trans HB1.out.size bA.size) (fun k e => by omega)))
          have HC3 : Hid (Cnt w3 w.heap.size (P ++ (ks.take (i + 1)).map (·.fid))) := hid (by rw [MT.out, ← List.append_assoc, ← HQ.out]; exact C3)
          clear CA C3 MTn hcn hcl hA bA hwf hPi
          go_wp2
          go_roundg (gk - 1)
          case measure => omega
          case rel => exact ⟨i + 1, by omega, by go_num, HB3, HC3⟩
        · have hge : ¬ (i : Int) < nk := by omega
          have HC4 : Hid (Cnt wr w.heap.size (kfs (l.take (m + 1)))) := hid (by
            have := HC1.out
            rw [List.take_of_length_le (by rw [← HNK.out]; omega), ← KT.out] at this
            exact this)
          go_wp2
          go_roundg (go - 1)
          case measure => omega
          case rel => exact ⟨m + 1, by omega, by go_num, HB1, HC4⟩
    · have hge : ¬ (m : Int) < n := by omega
      have HC2 : Hid (Cnt wr w.heap.size (kfs l)) := hid (by have := HC.out; rwa [List.take_of_length_le (by rw [← HN.out]; omega)] at this)
      clear HC
      go_wp2
      generalize wr = wo at *
      go_loopg [35] n (fun gj i wr => ∃ m : Nat, m + gj = n ∧ i = .int .i64 m ∧ Hid (wr = wo) ∧ Hid (linksTo (kfs l) l m = true))
      case atStart => exact ⟨0, by omega, rfl, hid rfl, hid rfl⟩
      case round =>
        obtain ⟨j, hj2, rfl, HW, HL⟩ := hrel
        have hwr := HW.out
        subst hwr
        by_cases hlt2 : j < n
        · have hltI2 : (j : Int) < n := by omega
          have hjl : j < l.length := by rw [← HN.out]; exact hlt2
          obtain ⟨b, off, rfl, _⟩ := H.out.2.2 (by omega)
          have hI := H.out.later HB.out
          have hbd := (H.out.ok (i := j) hjl)
          obtain ⟨y0, y1, _, y3, _, _⟩ := (hI.at (i := j) hjl).all
          have NO := hid (linksB_no (l := l) (m := j) hjl)
          have NX : Hid (linkB (kfs l) (l.getD j Nd.no) = true → linksTo (kfs l) l (j + 1) = true) := hid (fun h => by simp only [linksTo, HL.out, h, Bool.and_self])
          have LK := HC2.out.look hbd.1.1 hbd.1.2
          have hcl : (kfs l).count (l.getD j Nd.no).fid ≤ 1000 := Nat.le_trans List.count_le_length (by have := KL.out; omega)
          have ku : IntKind.i64.wrap (l.getD j Nd.no).ln = (l.getD j Nd.no).ln := by rw [IntKind.wrap_i64]; have := hbd.2.2.2.1; omega
          unfold linkB at NO NX
          clear hI hjl hbd
          generalize l.getD j Nd.no = x at *
          obtain ⟨cn, hcn⟩ : ∃ cn : Int, cn = ((kfs l).count x.fid : Int) := ⟨_, rfl⟩
          rw [← hcn] at LK NO NX
          clear hcn hcl
          by_cases q1 : x.ln = cn
          · have q1B : (x.ln != cn) = false := by rw [q1]; simp
            have q1C : (x.ln == cn) = true := by rw [q1]; simp
            rw [q1C] at NO NX
            by_cases q2 : x.fid = 1
            · have q2B : (x.fid == 1) = true := by rw [q2]; rfl
              rw [q2B] at NX
              have ET := hid (NX.out (by simp))
              clear NO NX q1 q2 q1C
              go_wp2
              go_roundg (gk - 1)
              case measure => omega
              case rel => exact ⟨j + 1, by omega, by go_num, hid rfl, ET⟩
            · have q2B : (x.fid == 1) = false := beq_eq_false_iff_ne.2 q2
              rw [q2B] at NO NX
              by_cases q3 : cn < 1
              · have EF := hid (NO.out (by rw [decide_eq_true q3]; simp))
                clear NO NX q1 q1C
                go_wp2
                go_ret
                exact ⟨ret_bool' EF.out.symm, HB.out⟩
              · by_cases q4 : x.k = 2
                · have q4B : (x.k == 2) = true := by rw [q4]; rfl
                  rw [q4B] at NO NX
                  by_cases q5 : 1 < cn
                  · have EF := hid (NO.out (by rw [decide_eq_true q5]; simp))
                    clear NO NX q1 q1C q4
                    go_wp2
                    go_ret
                    exact ⟨ret_bool' EF.out.symm, HB.out⟩
                  · have ET := hid (NX.out (by rw [decide_eq_false q5, decide_eq_false q3]; rfl))
                    clear NO NX q1 q1C q4
                    go_wp2
                    go_roundg (gk - 1)
                    case measure => omega
                    case rel => exact ⟨j + 1, by omega, by go_num, hid rfl, ET⟩
                · have q4B : (x.k == 2) = false := beq_eq_false_iff_ne.2 q4
                  rw [q4B] at NO NX
                  have ET := hid (NX.out (by rw [decide_eq_false q3]; rfl))
                  clear NO NX q1 q1C
                  go_wp2
                  go_roundg (gk - 1)
                  case measure => omega
                  case rel => exact ⟨j + 1, by omega, by go_num, hid rfl, ET⟩
          · have q1B : (x.ln != cn) = true := by rw [bne_iff_ne]; exact q1
            have q1C : (x.ln == cn) = false := beq_eq_false_iff_ne.2 q1
            rw [q1C] at NO
            have EF := hid (NO.out rfl)
            clear NO NX
            go_wp2
            go_ret
            exact ⟨ret_bool' EF.out.symm, HB.out⟩
        · have hge2 : ¬ (j : Int) < n := by omega
          have EF : Hid (linksB l = true) := hid (by unfold linksB; rw [← HN.out, show n = j by omega]; exact HL.out)
          go_wp2
          go_ret
          exact ⟨ret_bool' EF.out.symm, HB.out⟩
end Go.Proofs.Ytbgninmkglgfeaa
namespace Go.Proofs.Ytbgninmkglgfeaa
open Go.RowKit Go.ChangeShapes Go.WideShapes Go.ChangeAt Go.Maps
set_option linter.unusedVariables false
set_option linter.unusedSimpArgs false
set_option maxRecDepth 100000
def fdR : Value → Option (DataW Int × List MemPlace)
  | .int .u32 x => some (.held x, [])
  | _ => none
/-- Fids. -/
def fdE : Enc Int := ⟨fun x => .int .u32 x, fdR, fun _ => rfl, fun {v z} h => by
  unfold fdR at h
  split at h
  · cases h; exact ⟨_, rfl, rfl⟩
  · cases h⟩
section
variable {α : Type}
/-- The step of a loop over a map by fids. -/
theorem next_F (E : Enc α) (w : World) {ops : Array Oper} {rest : List Oper} {o : Oper} {a : Act} {Q : Exit → Act → World → Prop} (hg : o.guard = none) (it : Operand) (hop : o.op = Op.next it false)
    (tb r n : Nat) (D : DataW α) (left : Lit → Bool) (cnt : Nat) (hit : a.eval it = .pointer (some ⟨r, 0, none⟩)) (h : w.ranges Try.prog 26 E.rd tb r n D left cnt)
    (hDone : cnt = 0 → (∀ i, left (kyF i) = false) → wpList Try.prog ops Q rest (a.put o.dst (.tuple #[.bool false])) w)
    (hMore : ∀ (x : Int) (c : α) (w' : World) (cnt' : Nat), 0 ≤ x → x < 4294967296 → left (kyF x) = true → lookF D x = some c → w'.ranges Try.prog 26 E.rd tb r n D (fun z => left z && !z.sameKey (kyF x)) cnt' → cnt' < cnt →
      w.grownBy w' (some r) → w'.heap.size = w.heap.size → (Instr.entry (.pointer (some ⟨r, 0, none⟩))).run Try.prog w' = .ok (.tuple #[.int .u32 x, E.enc c]) w' → wpList Try.prog ops Q rest (a.put o.dst (.tuple #[.bool true, .int .u32 x, E.enc c])) w') :
    wpList Try.prog ops Q (o :: rest) a w := by
  have inv2 : ∀ v y, E.rd v = some y → ∃ c, v = E.enc c := fun v y hv => by obtain ⟨c, h1, _⟩ := E.inv hv; exact ⟨c, h1⟩
  refine wpList_next_ranges w hg it hop 26 lawF E.rd (Value.int .u32) E.enc (fun key kl hkey => by obtain ⟨x, rfl, _⟩ := Maps.keyOf_int_inv Try.underlying26 hkey; exact ⟨x, rfl⟩) inv2 tb r n D left cnt hit h (fun h0 hl => hDone h0 (fun i => hl _)) ?_
  intro x c kl y w' cnt' hkey hlk hv hat hrg hlt hgr hsz hen
  obtain ⟨x', ex, rfl, hwx⟩ := Maps.keyOf_int_inv Try.underlying26 hkey
  cases ex
  have hw2 := bd_u32 hwx
  rw [E.wr] at hv
  cases hv
  refine hMore x c w' cnt' hw2.1 hw2.2 hlk ?_ hrg hlt hgr hsz hen
  have hs : Maps.has D (kyF x) = true := by
    cases hh : Maps.has D (kyF x) with
    | true => rfl
    | false =>
      have e1 := Maps.atKey_of_not_has (z := DataW.nil) hh
      have e2 := hat DataW.nil
      rw [show (Lit.int IntKind.u32 x) = kyF x from rfl, e1] at e2
      cases e2
  have hat2 : D.atKey (kyF x) DataW.nil = DataW.held c := hat DataW.nil
  unfold lookF
  rw [if_pos hs, hat2]
end
/-- A table's node is a directory. -/
def isDirT (N : Tab) (g : Int) : Bool := match N g with
  | some (_, y) => y.k == 2
  | none => false
/-- A directory's entry leads to another one. -/
def Edge (N : Tab) (f g : Int) : Prop := ∃ p x i, N f = some (p, x) ∧ i < x.ks.length ∧ (x.ks.getD i Kd.no).fid = g ∧ isDirT N g = true
/-- Each directory stands in one alone. -/
def OneUp (N : Tab) : Prop := ∀ f f' g, Edge N f g → Edge N f' g → f = f'
/-- All entries lead to nodes of the table; they are few. -/
def Whole6 (N : Tab) : Prop := ∀ f p x, N f = some (p, x) → x.ks.length ≤ 12 ∧ ∀ i, i < x.ks.length → (N (x.ks.getD i Kd.no).fid).isSome = true
/-- The directory that each one stands in. -/
def IsPar (N : Tab) (G : Int → Option Int) : Prop := ∀ f g, G g = some f ↔ Edge N f g
theorem grown_ou {w w' : World} {r : Nat} (h : w.grownBy w' (some r)) : Ou (fun k => k = r) w w' := ⟨h.os, h.tape, h.output, h.size, fun i hi hn => h.block i hi (fun e => hn (by cases e; rfl))⟩
theorem grown_below {w w' : World} (h : w.grownBy w' none) : Below w.heap.size w w' := ⟨h.os, h.tape, h.output, h.size, fun i hi => h.block i hi (fun e => by cases e)⟩
theorem ht_par : Try.prog.underlying 157 = some (.map 26 26) := Try.underlying157
/-- What stands on the way through a table. -/
def ParAt (N : Tab) (G : Int → Option Int) (left : Lit → Bool) : Prop := (∀ f g, G g = some f → Edge N f g) ∧ ∀ f g, Edge N f g → left (kyF f) = false → (G g).isSome = true
theorem ptr_look {N : Tab} {D : DataW (Option Addr)} (h : ∀ i, N.ptr i = lookF D i) {x : Int} {c : Option Addr} (hl : lookF D x = some c) : ∃ p y, N x = some (p, y) ∧ c = some p := by
  rw [← h x] at hl
  unfold Tab.ptr at hl
  cases q : N x with
  | none => rw [q] at hl; cases hl
  | some z => rw [q] at hl; cases hl; exact ⟨z.1, z.2, rfl, rfl⟩
set_option maxHeartbeats 4000000 in
theorem parents_c (tb m0 : Nat) (N : Tab) (w : World) (hT : IsTab w tb m0 N) (hm0 : m0 ≤ 60) (hW : Whole6 N) (hU : OneUp N) :
    Calls Try.prog 113 #[.map (some tb)] w fun e w' => e = .returned (.map (some w.heap.size)) ∧ (∃ c G, IsFm fdE w' w.heap.size c G ∧ c ≤ 720 ∧ IsPar N G) ∧ Below w.heap.size w w' := by
  have htl := hT.1.lt
  have HT := hid hT
  have HW := hid hW
  have HU := hid hU
  have ht := ht_tab
  have B0 := hid (below_1 w (.map #[] 0))
  have F0 := hid (IsFm.made fdE w)
  have S0 : Hid ((w.alloc (.map #[] 0)).heap.size = w.heap.size + 1) := hid (by simp)
  obtain ⟨D, ho, hsz, hlk⟩ := (hT.later (below_1 w (.map #[] 0))).1
  have HO := hid ho
  have HSZ := hid hsz
  have HLK := hid hlk
  clear hT hW hU ho hsz hlk
  have hmm := @run_makeMap Try.prog
  go_enter Try.func113, Try.ntmps113
  go_wp2_with (at_range; refine wpList_range_own _ rfl _ 148 rfl 26 150 lawF ht ptE.rd tb m0 D rfl HO.out ?_; intro w0 hrg0 hg0 hs0)
  go_frame
  have R0 := hid hrg0
  have BG := hid (B0.out.trans ((grown_below hg0).mono B0.out.size))
  have FG := hid (F0.out.out (Ou.of (S := fun _ => False) (grown_below hg0)) (fun e => e))
  rw [S0.out] at R0 hs0
  have r_ne : w.heap.size + 1 ≠ tb := by omega
  clear hrg0 hg0 B0 F0
  rw [S0.out]
  go_loopg [4] (Maps.size D) (fun gk v wr => Hid (Below w.heap.size w wr) ∧ Hid (w.heap.size + 2 ≤ wr.heap.size) ∧ Hid (∃ left, wr.ranges Try.prog 26 ptE.rd tb (w.heap.size + 1) m0 D left gk ∧ ∃ c G, IsFm fdE wr w.heap.size c G ∧ c + 12 * gk ≤ 12 * m0 ∧ ParAt N G left))
  case atStart =>
    refine ⟨BG, hid (by omega), hid ⟨_, R0.out, 0, _, FG.out, by rw [HSZ.out]; omega, ?_⟩⟩
    refine ⟨(fun f g e => by cases e), fun f g he hl => ?_⟩
    obtain ⟨p, x, i, h1, _⟩ := he
    have e1 := (look_atF ptE HO.out f none).2.1
    rw [e1, ← HLK.out f] at hl
    unfold Tab.ptr at hl
    rw [h1] at hl
    cases hl
  case round =>
    clear BG FG R0
    obtain ⟨HB, HS, HI⟩ := hrel
    obtain ⟨left, hrg, c, G, hF, hcn, hP⟩ := HI.out
    have HRG := hid hrg
    have HF := hid hF
    have HP := hid hP
    clear HI hrg hF hP
    go_wp2_with (at_next; refine next_F ptE _ rfl _ rfl tb (w.heap.size + 1) m0 D left gk rfl HRG.out ?_ ?_)
    · intro hc0 hl0
      have FIN : Hid (IsPar N G) := hid (fun f g => ⟨HP.out.1 f g, fun he => by
        have := HP.out.2 f g he (hl0 f)
        cases q : G g with
        | none => rw [q] at this; cases this
        | some f' => rw [HU.out f f' g he (HP.out.1 f' g q)]⟩)
      go_wp2
      go_ret
      exact ⟨rfl, ⟨c, G, HF.out, by omega, FIN.out⟩, HB.out⟩
    · intro f pc w1 cnt1 hf0 hf1 hlf hlD hrg1 hlt hg1 hs1 hen
      obtain ⟨p, x, hN, rfl⟩ := ptr_look HLK.out hlD
      rw [show ptE.enc (some p) = .pointer (some p) from rfl] at hen ⊢
      have hB1 : Below w.heap.size w w1 := HB.out.trans ((grown_ou hg1).below HB.out.size (fun k e => by omega))
      have HB1 := hid hB1
      have HS1 : Hid (w.heap.size + 2 ≤ w1.heap.size) := hid (by rw [hs1]; exact HS.out)
      have HF1 := hid (HF.out.out (grown_ou hg1) (by omega))
      have HRG1 := hid hrg1
      obtain ⟨hps, hnc, hok, hfd⟩ := (HT.out.later hB1).2 f p x hN
      obtain ⟨pb, po, ps⟩ := p
      simp only at hps
      subst hps
      obtain ⟨_, _, _, _, _, y5⟩ := hnc.all
      have HOK := hid (HT.out.2 f _ x hN).2.2.1
      have HNF := hid hN
      obtain ⟨h12, hall⟩ := HW.out f _ x hN
      have HALL := hid hall
      have EDG : Hid (∀ i, i < x.ks.length → isDirT N (x.ks.getD i Kd.no).fid = true → Edge N f (x.ks.getD i Kd.no).fid) := hid (fun i hi hd => ⟨_, x, i, hN, hi, rfl, hd⟩)
      have EDR : Hid (∀ g, Edge N f g → ∃ i, i < x.ks.length ∧ (x.ks.getD i Kd.no).fid = g ∧ isDirT N g = true) := hid (fun g he => by
        obtain ⟨p', x', i, h1, h2, h3, h4⟩ := he
        rw [hN] at h1
        cases h1
        exact ⟨i, h2, h3, h4⟩)
      clear hrg1 hg1 hs1 hlD hlf hnc hok hfd hN hall hB1 HB HS HF HRG
      obtain ⟨fid, k, md, ln, da, dc, zs, ka, kc, ks⟩ := x
      simp only at *
      obtain ⟨nk, hnk⟩ : ∃ nk, nk = ks.length := ⟨_, rfl⟩
      rw [← hnk] at y5 h12
      have HNK := hid hnk
      clear hnk
      go_wp2
      obtain ⟨go, hgo⟩ : ∃ go, go = gk := ⟨_, rfl⟩
      subst hgo
      go_loopg [21] nk (fun gj j wr => ∃ i : Nat, i + gj = nk ∧ j = .int .i64 i ∧ Hid (Below w.heap.size w wr) ∧ Hid (w.heap.size + 2 ≤ wr.heap.size) ∧ Hid (wr.ranges Try.prog 26 ptE.rd tb (w.heap.size + 1) m0 D (fun z => left z && !z.sameKey (kyF f)) cnt1) ∧ Hid (∃ c G, IsFm fdE wr w.heap.size c G ∧ c + 12 * cnt1 + 12 ≤ 12 * m0 + i ∧ (∀ f g, G g = some f → Edge N f g) ∧ (∀ f' g, Edge N f' g → left (kyF f') = false → (G g).isSome = true) ∧ ∀ j, j < i → isDirT N (ks.getD j Kd.no).fid = true → (G (ks.getD j Kd.no).fid).isSome = true))
      case atStart => exact ⟨0, by omega, rfl, HB1, HS1, HRG1, hid ⟨c, G, HF1.out, by omega, HP.out.1, HP.out.2, fun j hj => by omega⟩⟩
      case round =>
        clear HB1 HS1 HRG1 HF1 HP
        obtain ⟨i, hi2, rfl, HB2, HS2, HRG2, HI2⟩ := hrel
        by_cases hlt2 : i < nk
        · have hltI2 : (i : Int) < nk := by omega
          have hik : i < ks.length := by rw [← HNK.out]; exact hlt2
          have HALi := hid (HALL.out i hik)
          have EDi := hid (EDG.out i hik)
          have hKs := HOK.out.2.2.2.2.2.later HB2.out
          obtain ⟨b1, off1, rfl, _⟩ := hKs.2.2 (by simp only; omega)
          obtain ⟨k0, k1⟩ := hKs.at (i := i) hik
          have hwf := hKs.wf (i := i) hik
          clear hKs hik
          simp only at k0 k1 hwf
          obtain ⟨c2, G2, hF2, hc2, hp1, hp2, hp3⟩ := HI2.out
          have HF2 := hid hF2
          have HP1 := hid hp1
          have HP2 := hid hp2
          have HP3 := hid hp3
          clear HI2 hF2 hp1 hp2 hp3
          have GI : Hid (ks.getD i Kd.no = ks.getD i Kd.no) := hid rfl
          obtain ⟨y, hy⟩ : ∃ y, y = ks.getD i Kd.no := ⟨_, rfl⟩
          rw [← hy] at k0 k1 hwf HALi EDi
          have HY := hid hy
          clear hy GI
          have bA := below_1 wr (.cells #[.string y.nm, .int .u32 y.fid] 74)
          have hA := heap_alloc_new wr (.cells #[.string y.nm, .int .u32 y.fid] 74)
          have c1 : (wr.alloc (.cells #[.string y.nm, .int .u32 y.fid] 74)).cell? ⟨wr.heap.size, 1, none⟩ = some (.int .u32 y.fid) := cell_of_row2 hA 1 rfl
          have HB3 := hid (HB2.out.trans (bA.mono HB2.out.size))
          have HS3 := hid (Nat.le_trans HS2.out bA.size)
          have HRG3 := hid (HRG2.out.alloc (.cells #[.string y.nm, .int .u32 y.fid] 74))
          have HF3 := hid (HF2.out.out (Ou.of (S := fun _ => False) bA) (fun e => e))
          have TL := HT.out.later HB3.out
          have LK := TL.1.look ht zeroPt hwf.2.1 hwf.2.2
          unfold Tab.ptr at LK
          cases qN : N y.fid with
          | none => rw [qN] at HALi; exact absurd HALi.out (by simp)
          | some z =>
            obtain ⟨q, yy⟩ := z
            rw [qN] at LK
            rw [show ptE.enc ((Option.map (fun p : Addr × Nd => some p.1) (some (q, yy))).getD none) = .pointer (some q) from rfl] at LK
            obtain ⟨hqs, hqc, _, _⟩ := TL.2 y.fid q yy qN
            obtain ⟨qb, qo, qs⟩ := q
            simp only at hqs
            subst hqs
            obtain ⟨_, z1, _⟩ := hqc.all
            have hdr : isDirT N y.fid = (yy.k == 2) := by unfold isDirT; rw [qN]
            rw [hdr] at EDi
            have hyf := hwf.2
            clear hA bA hqc TL hwf HB2 HS2 HRG2 HF2
            by_cases qk : yy.k = 2
            · have qkB : (yy.k == 2) = true := by rw [qk]; rfl
              obtain ⟨w3, SR, IM, MT⟩ := HF3.out.store (by omega) ht_par hyf.1 hyf.2 f
              rw [show fdE.enc f = .int .u32 f from rfl] at SR
              have hO3 := Ou.turned (S := fun k => k = w.heap.size) MT rfl
              have HB4 := hid (HB3.out.trans (hO3.below HB3.out.size (fun k e => by omega)))
              have HS4 := hid (Nat.le_trans HS3.out hO3.size)
              have HRG4 := hid (HRG3.out.kept MT.grown (by intro e; have := Option.some.inj e; omega) (by intro e; have := Option.some.inj e; omega))
              have hE := EDi.out qkB
              have HI4 : Hid (∃ c G, IsFm fdE w3 w.heap.size c G ∧ c + 12 * cnt1 + 12 ≤ 12 * m0 + (i + 1) ∧ (∀ f g, G g = some f → Edge N f g) ∧ (∀ f' g, Edge N f' g → left (kyF f') = false → (G g).isSome = true) ∧ ∀ j, j < i + 1 → isDirT N (ks.getD j Kd.no).fid = true → (G (ks.getD j Kd.no).fid).isSome = true) := hid (by
                refine ⟨_, _, IM, ?_, ?_, ?_, ?_⟩
                · unfold addN; split <;> omega
                · intro f' g hg
                  unfold updF at hg
                  split at hg
                  · rename_i e
                    cases hg
                    rw [e]; exact hE
                  · exact HP1.out f' g hg
                · intro f' g he hl
                  unfold updF
                  split
                  · rfl
                  · exact HP2.out f' g he hl
                · intro j hj hd
                  unfold updF
                  split
                  · rfl
                  · rename_i e
                    by_cases e2 : j = i
                    · subst e2
                      rw [← HY.out] at e
                      exact absurd rfl e
                    · exact HP3.out j (by omega) hd)
              clear HF3 HP1 HP2 HP3 hdr IM MT hO3 hE HB3 HS3 HRG3
              go_wp2
              go_roundg (gk - 1)
              case measure => omega
              case rel => exact ⟨i + 1, by omega, by go_num, HB4, HS4, HRG4, HI4⟩
            · have qkB : (yy.k == 2) = false := beq_eq_false_iff_ne.2 qk
              have HI3 : Hid (∃ c G, IsFm fdE (wr.alloc (.cells #[.string y.nm, .int .u32 y.fid] 74)) w.heap.size c G ∧ c + 12 * cnt1 + 12 ≤ 12 * m0 + (i + 1) ∧ (∀ f g, G g = some f → Edge N f g) ∧ (∀ f' g, Edge N f' g → left (kyF f') = false → (G g).isSome = true) ∧ ∀ j, j < i + 1 → isDirT N (ks.getD j Kd.no).fid = true → (G (ks.getD j Kd.no).fid).isSome = true) := hid ⟨c2, G2, HF3.out, by omega, HP1.out, HP2.out, fun j hj hd => by
                by_cases e : j = i
                · subst e
                  rw [← HY.out, hdr, qkB] at hd
                  cases hd
                · exact HP3.out j (by omega) hd⟩
              clear HF3 HP1 HP2 HP3 hdr
              go_wp2
              go_roundg (gk - 1)
              case measure => omega
              case rel => exact ⟨i + 1, by omega, by go_num, HB3, HS3, HRG3, HI3⟩
        · have hge : ¬ (i : Int) < nk := by omega
          obtain ⟨c2, G2, hF2, hc2, hp1, hp2, hp3⟩ := HI2.out
          have REL : Hid (∃ left, wr.ranges Try.prog 26 ptE.rd tb (w.heap.size + 1) m0 D left cnt1 ∧ ∃ c G, IsFm fdE wr w.heap.size c G ∧ c + 12 * cnt1 ≤ 12 * m0 ∧ ParAt N G left) := hid (by
            refine ⟨_, HRG2.out, c2, G2, hF2, by omega, hp1, fun f' g he hl => ?_⟩
            by_cases e : f' = f
            · subst e
              obtain ⟨i', q1, q2, q3⟩ := EDR.out g he
              rw [← q2] at q3 ⊢
              exact hp3 i' (by rw [← HNK.out] at q1; omega) q3
            · refine hp2 f' g he ?_
              simp only [same_kyF, decide_eq_false e, Bool.not_false, Bool.and_true] at hl
              exact hl)
          clear HI2 hF2 hp1 hp2 hp3 hc2
          go_wp2
          go_roundg cnt1
          case measure => exact hlt
          case rel => exact ⟨HB2, HS2, REL⟩
end Go.Proofs.Ytbgninmkglgfeaa
namespace Go.Proofs.Ytbgninmkglgfeaa.Rg
open Go.RowKit Go.ChangeShapes Go.WideShapes Go.ChangeAt Go.Shelf
attribute [local go_sem] Oper.semAt_some
set_option linter.unusedVariables false
set_option linter.unusedSimpArgs false
theorem lt_blk {w : World} {g : Nat} {o : Obj} (h : w.heap[g]? = some o) : g < w.heap.size := by
  have := (Array.getElem?_eq_some_iff.1 h).1; exact this
/-- The record of a loop over a function that yields, laid where the statement begins. -/
def recOf (fn : FuncId) (a : Act) (ps : Array Tmp) (assign body : Code) (D : Nat) (st : LoopState) : Loop := { state := st, pending := none, fn := fn, tmps := a.tmps, params := ps, assign := assign, body := body, defers := D }
/-- A loop over a function that yields, whose body always goes on: what the function's call leaves is what stands behind the loop. -/
theorem range_go {P : Program} {g : Operand} {ps : Array Tmp} {assign body : Code} {Q : Exit → Act → World → Prop} {a : Act} {w : World} {gf : Nat} {lb : Array Value} (hg : a.eval g = .func (.func gf) #[] lb)
    (eg : ∀ args w, (callFunc gf args).run P w = .ok (.enter gf args) w) (post : World → Prop)
    (hit : ∀ fn, CallsIn Fence.wide 2 P gf (#[.func (.yield (w.heap.size + 1)) #[] #[]] ++ lb) ((w.alloc (.deferred (some []))).alloc (.loop (recOf fn a ps assign body w.heap.size .ready))) fun e W' =>
      (∃ v, e = .returned v) ∧ W'.heap[w.heap.size + 1]? = some (.loop (recOf fn a ps assign body w.heap.size .ready)) ∧ W'.heap[w.heap.size]? = some (.deferred (some [])) ∧ post W')
    (hdone : ∀ W' o, post W' → W'.heap[w.heap.size]? = some (.deferred (some [])) → w.heap.size + 1 < W'.heap.size → Q .normal { a with defers := { target := .collected w.heap.size, args := #[] } :: a.defers } (W'.putObj (w.heap.size + 1) o)) :
    (Code.rangeFunc g ps assign body).wpIn Fence.wide 3 P Q a w := by
  refine wpIn_rangeFunc fun fn hfn => ?_
  refine ⟨w.heap.size + 1, [{ target := .collected w.heap.size, args := #[] }], (w.alloc (.deferred (some []))).alloc (.loop (recOf fn a ps assign body w.heap.size .ready)), { target := .fn (.func gf) lb, args := #[.func (.yield (w.heap.size + 1)) #[] #[]] }, (w.alloc (.deferred (some []))).alloc (.loop (recOf fn a ps assign body w.heap.size .ready)), gf, #[.func (.yield (w.heap.size + 1)) #[] #[]] ++ lb, (w.alloc (.deferred (some []))).alloc (.loop (recOf fn a ps assign body w.heap.size .ready)), ?_, ?_, fun _ _ => trivial, ?_, fun _ => by decide, ?_⟩
  · exact run_enterLoop_outer _ _ _ _ _
  · simp only [resolve, hg]
    simp [go_sem]
  · simp [invoke, go_sem, eg]
  · refine (hit fn).mono ?_
    rintro _ W' ⟨⟨v, rfl⟩, hl, hD, hp⟩
    exact ⟨none, _, run_endLoop hl (by simp [recOf]), hdone _ _ hp hD (lt_blk hl)⟩
/-- One round of such a loop. -/
theorem round_go {P : Program} {ps : Array Tmp} {assign body : Code} {a : Act} {fn : FuncId} {l D : Nat} {args : Array Value} {W : World} {R : World → Prop} (hl : W.heap[l]? = some (.loop (recOf fn a ps assign body D .ready))) (hs : args.size = ps.size)
    (h : assign.wpIn (Fence.wide.inRound l) 1 P (Exit.then (fun a₁ w₁ => w₁.heap[l]? = some (.loop (recOf fn a ps assign body D .ready)) ∧ body.wpIn (Fence.wide.inRound l) 1 P (fun e _ W3 => e = .normal ∧ W3.heap[l]? = some (.loop (recOf fn a ps assign body D .busy)) ∧ R (W3.putObj l (.loop (recOf fn a ps assign body D .ready)))) a₁ (w₁.putObj l (.loop (recOf fn a ps assign body D .busy)))) (fun _ _ _ => False))
      { tmps := (ps.zip args).foldl (fun t (p, v) => t.setIfInBounds p v) a.tmps, defers := [] } W) :
    YieldAt Fence.wide 1 P l args W fun e W' => e = .returned (.bool true) ∧ R W' := by
  refine ⟨fn, _, assign, body, run_yield (P := P) (args := args) hl hs, roundIn_of_wpIn trivial (wpIn_mono h ?_)⟩
  rintro e a1 w1 he
  cases e with
  | normal =>
    obtain ⟨hl1, hb⟩ := he
    refine ⟨_, run_beginRound hl1 rfl, wpIn_mono hb ?_⟩
    rintro e a3 W3 ⟨rfl, hl3, hR⟩
    exact ⟨_, _, run_endRound (P := P) none hl3, rfl, hR⟩
  | ret => exact he
  | exit id => exact he
  | goto t => exact he
  | panic ch => exact he
  | outgrown => exact he
/-- A step inside a round that hands back a value. -/
theorem wpListIn_run {F : Fence} (hF : ∀ f, F.fn f) {n : Nat} {P : Program} {ops : Array Oper} {rest : List Oper} {o : Oper} {a : Act} {Q : Exit → Act → World → Prop} {w : World} (hg : o.guard = none) (hnd : ∀ c, o.op ≠ .defer c) {v : Value} {w' : World}
    (hrun : (execOp a.eval o).run P w = .ok (.value v) w') (hK : wpListIn F n P ops Q rest (a.put o.dst v) w') : wpListIn F n P ops Q (o :: rest) a w := by
  refine wpListIn_plain hg fun K hK' => ?_
  unfold Oper.wpIn
  refine ⟨fun f _ => hF f, ?_⟩
  rw [Oper.semAt_plain _ _ _ hnd, hrun]
  exact hK' _ _ hK
/-- A step inside a round that hands back nothing. -/
theorem wpListIn_skip' {F : Fence} (hF : ∀ f, F.fn f) {n : Nat} {P : Program} {ops : Array Oper} {rest : List Oper} {o : Oper} {a : Act} {Q : Exit → Act → World → Prop} {w : World} (hg : o.guard = none) (hnd : ∀ c, o.op ≠ .defer c) {w' : World}
    (hrun : (execOp a.eval o).run P w = .ok .skip w') (hK : wpListIn F n P ops Q rest (a.put o.dst undef) w') : wpListIn F n P ops Q (o :: rest) a w := by
  refine wpListIn_plain hg fun K hK' => ?_
  unfold Oper.wpIn
  refine ⟨fun f _ => hF f, ?_⟩
  rw [Oper.semAt_plain _ _ _ hnd, hrun]
  exact hK' _ _ hK
end Go.Proofs.Ytbgninmkglgfeaa.Rg
namespace Go.Proofs.Ytbgninmkglgfeaa
open Go.RowKit Go.ChangeShapes Go.WideShapes Go.ChangeAt Go.Shelf Go.Maps
attribute [local go_sem] Oper.semAt_some
set_option linter.unusedVariables false
set_option linter.unusedSimpArgs false
set_option maxRecDepth 100000
/-- Is one met on the way up, above the first one? -/
def upB (G : Int → Option Int) (top : Int) : Nat → Int → Bool
  | 0, _ => false
  | k + 1, f => match G f with
    | none => false
    | some p => p == top || upB G top k p
def leadB (G : Int → Option Int) (n : Nat) (top f : Int) : Bool := f == top || upB G top n f
/-- The record of a loop that was left by a return. -/
def recD (fn : FuncId) (a : Act) (ps : Array Tmp) (assign body : Code) (D : Nat) : Loop := { state := .done, pending := some .ret, fn := fn, tmps := a.tmps, params := ps, assign := assign, body := body, defers := D }
/-- A loop over a function that yields, whose body may return. -/
theorem range_ret {P : Program} {g : Operand} {ps : Array Tmp} {assign body : Code} {Q : Exit → Act → World → Prop} {a : Act} {w : World} {gf : Nat} {lb : Array Value} (hg : a.eval g = .func (.func gf) #[] lb)
    (eg : ∀ args w, (callFunc gf args).run P w = .ok (.enter gf args) w) (post postR : World → Prop)
    (hit : ∀ fn, CallsIn Fence.wide 2 P gf (#[.func (.yield (w.heap.size + 1)) #[] #[]] ++ lb) ((w.alloc (.deferred (some []))).alloc (.loop (Rg.recOf fn a ps assign body w.heap.size .ready))) fun e W' =>
      (∃ v, e = .returned v) ∧ W'.heap[w.heap.size]? = some (.deferred (some [])) ∧ ((W'.heap[w.heap.size + 1]? = some (.loop (Rg.recOf fn a ps assign body w.heap.size .ready)) ∧ post W') ∨ (W'.heap[w.heap.size + 1]? = some (.loop (recD fn a ps assign body w.heap.size)) ∧ postR W')))
    (hdone : ∀ W' o, post W' → W'.heap[w.heap.size]? = some (.deferred (some [])) → w.heap.size + 1 < W'.heap.size → Q .normal { a with defers := { target := .collected w.heap.size, args := #[] } :: a.defers } (W'.putObj (w.heap.size + 1) o))
    (hret : ∀ W' o, postR W' → W'.heap[w.heap.size]? = some (.deferred (some [])) → w.heap.size + 1 < W'.heap.size → Q .ret { a with defers := { target := .collected w.heap.size, args := #[] } :: a.defers } (W'.putObj (w.heap.size + 1) o)) :
    (Code.rangeFunc g ps assign body).wpIn Fence.wide 3 P Q a w := by
  refine wpIn_rangeFunc fun fn hfn => ?_
  refine ⟨w.heap.size + 1, [{ target := .collected w.heap.size, args := #[] }], (w.alloc (.deferred (some []))).alloc (.loop (Rg.recOf fn a ps assign body w.heap.size .ready)), { target := .fn (.func gf) lb, args := #[.func (.yield (w.heap.size + 1)) #[] #[]] }, (w.alloc (.deferred (some []))).alloc (.loop (Rg.recOf fn a ps assign body w.heap.size .ready)), gf, #[.func (.yield (w.heap.size + 1)) #[] #[]] ++ lb, (w.alloc (.deferred (some []))).alloc (.loop (Rg.recOf fn a ps assign body w.heap.size .ready)), ?_, ?_, fun _ _ => trivial, ?_, fun _ => by decide, ?_⟩
  · exact run_enterLoop_outer _ _ _ _ _
  · simp only [resolve, hg]
    simp [go_sem]
  · simp [invoke, go_sem, eg]
  · refine (hit fn).mono ?_
    rintro _ W' ⟨⟨v, rfl⟩, hD, ⟨hl, hp⟩ | ⟨hl, hp⟩⟩
    · exact ⟨none, _, run_endLoop hl (by simp [Rg.recOf]), hdone _ _ hp hD (Rg.lt_blk hl)⟩
    · exact ⟨some .ret, _, run_endLoop hl (by simp [recD]), wpIn_ret (hret _ _ hp hD (Rg.lt_blk hl))⟩
/-- One round of such a loop. -/
theorem round_ret {P : Program} {ps : Array Tmp} {assign body : Code} {a : Act} {fn : FuncId} {l D : Nat} {args : Array Value} {W : World} {R : Bool → World → Prop} (hl : W.heap[l]? = some (.loop (Rg.recOf fn a ps assign body D .ready))) (hs : args.size = ps.size)
    (h : assign.wpIn (Fence.wide.inRound l) 1 P (Exit.then (fun a₁ w₁ => w₁.heap[l]? = some (.loop (Rg.recOf fn a ps assign body D .ready)) ∧ body.wpIn (Fence.wide.inRound l) 1 P (fun e _ W3 => W3.heap[l]? = some (.loop (Rg.recOf fn a ps assign body D .busy)) ∧ ((e = .normal ∧ R true (W3.putObj l (.loop (Rg.recOf fn a ps assign body D .ready)))) ∨ (e = .ret ∧ R false (W3.putObj l (.loop (recD fn a ps assign body D)))))) a₁ (w₁.putObj l (.loop (Rg.recOf fn a ps assign body D .busy)))) (fun _ _ _ => False))
      { tmps := (ps.zip args).foldl (fun t (p, v) => t.setIfInBounds p v) a.tmps, defers := [] } W) :
    YieldAt Fence.wide 1 P l args W fun e W' => ∃ b, e = .returned (.bool b) ∧ R b W' := by
  refine ⟨fn, _, assign, body, run_yield (P := P) (args := args) hl hs, roundIn_of_wpIn trivial (wpIn_mono h ?_)⟩
  rintro e a1 w1 he
  cases e with
  | normal =>
    obtain ⟨hl1, hb⟩ := he
    refine ⟨_, run_beginRound hl1 rfl, wpIn_mono hb ?_⟩
    rintro e a3 W3 ⟨hl3, ⟨rfl, hR⟩ | ⟨rfl, hR⟩⟩
    · exact ⟨_, _, run_endRound (P := P) none hl3, true, rfl, hR⟩
    · exact ⟨_, _, run_endRound (P := P) (some .ret) hl3, false, rfl, hR⟩
  | ret => exact he
  | exit id => exact he
  | goto t => exact he
  | panic ch => exact he
  | outgrown => exact he
/-- Where leadUpTo stands: its boxes, the loop's record. -/
def LU (w : World) (pb : Nat) (top cur : Int) (r : Bool) (rec : Obj) (W : World) : Prop :=
  Below w.heap.size w W ∧ W.heap.size = w.heap.size + 6 ∧ W.heap[w.heap.size]? = some (.cells #[.int .u32 top] 26 (0, 0)) ∧ W.heap[w.heap.size + 1]? = some (.cells #[.bool r] 4 (0, 0)) ∧
  W.heap[w.heap.size + 2]? = some (.cells #[.map (some pb)] 157 (0, 0)) ∧ W.heap[w.heap.size + 3]? = some (.cells #[.int .u32 cur] 26 (0, 0)) ∧
  W.heap[w.heap.size + 4]? = some (.deferred (some [])) ∧ W.heap[w.heap.size + 5]? = some rec
theorem LU.cur {w W : World} {pb : Nat} {top cur : Int} {r : Bool} {rec : Obj} (h : LU w pb top cur r rec W) (v : Int) : LU w pb top v r rec (W.setCell ⟨w.heap.size + 3, 0, none⟩ (.int .u32 v)) := by
  obtain ⟨h1, h2, h3, h4, h5, h6, h7, h8⟩ := h
  have o : ∀ k, k ≠ w.heap.size + 3 → (W.setCell ⟨w.heap.size + 3, 0, none⟩ (.int .u32 v)).heap[k]? = W.heap[k]? := fun k hk => heap_setCell_other _ _ _ _ hk
  exact ⟨h1.setCell (p := ⟨w.heap.size + 3, 0, none⟩) (by show w.heap.size ≤ w.heap.size + 3; omega) _, by simpa [World.setCell] using h2, (o _ (by omega)).trans h3, (o _ (by omega)).trans h4, (o _ (by omega)).trans h5, heap_setBox _ h6, (o _ (by omega)).trans h7, (o _ (by omega)).trans h8⟩
theorem LU.rec {w W : World} {pb : Nat} {top cur : Int} {r : Bool} {rec : Obj} (h : LU w pb top cur r rec W) (o : Obj) : LU w pb top cur r o (W.putObj (w.heap.size + 5) o) := by
  obtain ⟨h1, h2, h3, h4, h5, h6, h7, h8⟩ := h
  have q : ∀ k, k ≠ w.heap.size + 5 → (W.putObj (w.heap.size + 5) o).heap[k]? = W.heap[k]? := fun k hk => World.putObj_heap_other hk
  exact ⟨h1.trans ⟨rfl, rfl, rfl, by simp, fun k hk => q k (by omega)⟩, by simpa using h2, (q _ (by omega)).trans h3, (q _ (by omega)).trans h4, (q _ (by omega)).trans h5, (q _ (by omega)).trans h6, (q _ (by omega)).trans h7, World.putObj_heap_same (by omega)⟩
theorem LU.res {w W : World} {pb : Nat} {top cur : Int} {r : Bool} {rec : Obj} (h : LU w pb top cur r rec W) (v : Bool) : LU w pb top cur v rec (W.setCell ⟨w.heap.size + 1, 0, none⟩ (.bool v)) := by
  obtain ⟨h1, h2, h3, h4, h5, h6, h7, h8⟩ := h
  have o : ∀ k, k ≠ w.heap.size + 1 → (W.setCell ⟨w.heap.size + 1, 0, none⟩ (.bool v)).heap[k]? = W.heap[k]? := fun k hk => heap_setCell_other _ _ _ _ hk
  exact ⟨h1.setCell (p := ⟨w.heap.size + 1, 0, none⟩) (by show w.heap.size ≤ w.heap.size + 1; omega) _, by simpa [World.setCell] using h2, (o _ (by omega)).trans h3, heap_setBox _ h4, (o _ (by omega)).trans h5, (o _ (by omega)).trans h6, (o _ (by omega)).trans h7, (o _ (by omega)).trans h8⟩
theorem zeroFd (w : World) : (zeroValue 26).run Try.prog w = .ok (fdE.enc 0) w := by
  have h : (Try.prog.info? 26).map (fun i => i.zero) = some (some (.int .u32 0)) := by kernel_rfl
  cases hi : Try.prog.info? 26 with
  | none => rw [hi] at h; cases h
  | some i => rw [hi] at h; simp at h; simp [zeroValue, typeInfo, hi, h]; rfl
set_option maxHeartbeats 2000000 in
theorem upward1_in (w : World) (pb n : Nat) (G : Int → Option Int) (hF : IsFm fdE w pb n G) (hn : n ≤ 1000) (hG : ∀ g p, G g = some p → 0 ≤ p ∧ p < 4294967296) (top f0 : Int) (h0 : 0 ≤ f0) (h1 : f0 < 4294967296) (Rr Rd : Obj)
    (hY : ∀ cur g W, LU w pb top cur false Rr W → YieldAt Fence.wide 1 Try.prog (w.heap.size + 5) #[.int .u32 g] W fun e W' => ∃ b, e = .returned (.bool b) ∧ b = !(g == top) ∧ LU w pb top cur (!b) (bif b then Rr else Rd) W')
    (W : World) (hW : LU w pb top f0 false Rr W) :
    CallsIn Fence.wide 2 Try.prog 117 #[.func (.yield (w.heap.size + 5)) #[] #[], .pointer (some ⟨w.heap.size + 3, 0, none⟩), .pointer (some ⟨w.heap.size + 2, 0, none⟩)] W fun e W' => (∃ v, e = .returned v) ∧ ∃ cur, LU w pb top cur (leadB G n top f0) (bif leadB G n top f0 then Rd else Rr) W' := by
  have HF := hid hF
  have HG := hid hG
  have HY := hid hY
  clear hF hG hY
  refine callsIn_of_wp Try.func117 rfl trivial ?_ rfl
  simp only [Try.ntmps117, List.size_toArray, List.length_cons, List.length_nil, Nat.reduceAdd, Nat.reduceSub, Array.replicate_succ, Array.replicate_zero, List.push_toArray, List.append_toArray, List.nil_append, List.cons_append]
  have c3 := cell_box hW.2.2.2.2.2.1
  obtain ⟨fn, tmps, assign, body, hy, hR⟩ := HY.out f0 f0 W hW
  have HR := hid hR
  clear hR
  obtain ⟨LB, hLB⟩ : ∃ LB, LB = leadB G n top f0 := ⟨_, rfl⟩
  rw [← hLB]
  unfold leadB at hLB
  gi_wp2_with fail
  refine HR.out.mono ?_
  rintro _ W1 ⟨b, rfl, hb, hL1⟩
  cases q : (f0 == top) with
  | true =>
    rw [q] at hb hLB
    have eLB : LB = true := hLB
    subst eLB
    simp only [Bool.not_true] at hb
    subst hb
    have HL1 := hid hL1
    clear hLB hL1 hW q h0 h1 hn
    gi_wp2
    first
      | exact body_end (by kernel_rfl) rfl ⟨⟨_, rfl⟩, f0, HL1.out⟩
      | (refine bodyPost_ret (results_none (by kernel_rfl) _ _ _) rfl ?_; exact ⟨⟨_, rfl⟩, f0, HL1.out⟩)
      | (go_end0; exact ⟨⟨_, rfl⟩, f0, HL1.out⟩)
  | false =>
    rw [q] at hb hLB
    simp only [Bool.not_false, Bool.false_or] at hb hLB
    subst hb
    simp only [cond_true, Bool.not_true] at hL1
    have c2 := cell_box hL1.2.2.2.2.1
    have LN := (HF.out.out (Ou.of (S := fun _ => False) hL1.1) (fun e => e)).len ht_par 3
    have HLB := hid hLB
    have HL1 := hid hL1
    have B0 := hid (show 0 ≤ f0 ∧ f0 < 4294967296 from ⟨h0, h1⟩)
    have HN := hid hn
    clear hLB hW hL1 h0 h1 hn q
    gi_wp2
    gi_loopw [12] (fun v wr => ∃ (m : Nat) (cur : Int), m ≤ n ∧ v = .int .i64 m ∧ Hid (0 ≤ cur ∧ cur < 4294967296) ∧ Hid (LU w pb top cur false Rr wr) ∧ Hid (LB = upB G top (n - m) cur)) (fun v _ => n - (intOf v).toNat)
    case atStart => exact ⟨0, f0, by omega, rfl, B0, HL1, HLB⟩
    case round =>
      clear HL1 HLB B0
      obtain ⟨m, cur, hm, rfl, HBD, HL, HE⟩ := hrel
      by_cases hlt : m < n
      · have hltI : (m : Int) < n := by omega
        obtain ⟨k, hk⟩ : ∃ k, n - m = k + 1 := ⟨n - m - 1, by omega⟩
        have hk2 : n - (m + 1) = k := by omega
        rw [hk] at HE
        unfold upB at HE
        have d2 := cell_box HL.out.2.2.2.2.1
        have d3 := cell_box HL.out.2.2.2.2.2.1
        have LK := (HF.out.out (Ou.of (S := fun _ => False) HL.out.1) (fun e => e)).lookOk ht_par zeroFd HBD.out.1 HBD.out.2
        cases hg : G cur with
        | none =>
          rw [hg] at LK HE
          rw [show fdE.enc ((none : Option Int).getD 0) = .int .u32 0 from rfl, show (none : Option Int).isSome = false from rfl] at LK
          have eLB := HE.out
          simp only at eLB
          subst eLB
          clear HE hk hk2 c2 LN
          gi_wp2
          refine ⟨fun _ h => (by cases h), ?_⟩
          gi_wp2
          first
            | exact body_end (by kernel_rfl) rfl ⟨⟨_, rfl⟩, cur, HL.out⟩
            | (refine bodyPost_ret (results_none (by kernel_rfl) _ _ _) rfl ?_; exact ⟨⟨_, rfl⟩, cur, HL.out⟩)
            | (go_end0; exact ⟨⟨_, rfl⟩, cur, HL.out⟩)
        | some p =>
          have hp := hid (HG.out cur p hg)
          rw [hg] at LK HE
          rw [show fdE.enc ((some p : Option Int).getD 0) = .int .u32 p from rfl, show (some p : Option Int).isSome = true from rfl] at LK
          obtain ⟨fn2, tmps2, assign2, body2, hy2, hR2⟩ := HY.out cur p wr HL.out
          have HR2 := hid hR2
          simp only at HE
          clear hR2 hk c2 LN hy c3
          gi_wp2_with fail
          refine HR2.out.mono ?_
          rintro _ W3 ⟨b, rfl, hb, hL3⟩
          cases q : (p == top) with
          | true =>
            rw [q] at hb HE
            have eLB : LB = true := HE.out
            subst eLB
            simp only [Bool.not_true] at hb
            subst hb
            have HL1 := hid hL3
            clear HE hL3 q hk2 hy2
            gi_wp2
            first
              | exact body_end (by kernel_rfl) rfl ⟨⟨_, rfl⟩, cur, HL1.out⟩
              | (refine bodyPost_ret (results_none (by kernel_rfl) _ _ _) rfl ?_; exact ⟨⟨_, rfl⟩, cur, HL1.out⟩)
              | (go_end0; exact ⟨⟨_, rfl⟩, cur, HL1.out⟩)
          | false =>
            rw [q] at hb HE
            simp only [Bool.not_false, Bool.false_or] at hb HE
            subst hb
            simp only [cond_true, Bool.not_true] at hL3
            have e3 := cell_box hL3.2.2.2.2.2.1
            have f3 := frozen_box hL3.2.2.2.2.2.1
            have HL3 := hid (hL3.cur p)
            have HE3 : Hid (LB = upB G top (n - (m + 1)) p) := hid (by rw [hk2]; exact HE.out)
            clear hL3 q HE hk2 hy2
            gi_wp2
            have hn9 := HN.out
            have hw9 : wrap64 ((m : Int) + 1) = ((m + 1 : Nat) : Int) := by unfold wrap64; omega
            go_roundw
            case rel => exact ⟨m + 1, p, by omega, by rw [hw9], hp, HL3, HE3⟩
            case measure => rw [hw9]; simp [intOf]; omega
      · have hge : ¬ (m : Int) < n := by omega
        have eLB : LB = false := by have := HE.out; rw [show n - m = 0 by omega] at this; exact this
        subst eLB
        clear HE
        gi_wp2
        first
          | exact body_end (by kernel_rfl) rfl ⟨⟨_, rfl⟩, cur, HL.out⟩
          | (refine bodyPost_ret (results_none (by kernel_rfl) _ _ _) rfl ?_; exact ⟨⟨_, rfl⟩, cur, HL.out⟩)
          | (go_end0; exact ⟨⟨_, rfl⟩, cur, HL.out⟩)
end Go.Proofs.Ytbgninmkglgfeaa
namespace Go.Proofs.Ytbgninmkglgfeaa
open Go.RowKit Go.ChangeShapes Go.WideShapes Go.ChangeAt Go.Shelf Go.Maps
attribute [local go_sem] Oper.semAt_some
set_option linter.unusedVariables false
set_option linter.unusedSimpArgs false
set_option maxRecDepth 100000
set_option maxHeartbeats 400000 in
theorem upward_c (pb : Nat) (f : Int) (w : World) :
    Calls Try.prog 116 #[.map (some pb), .int .u32 f] w fun e w' => e = .returned (.func (.func 117) #[] #[.pointer (some ⟨w.heap.size + 1, 0, none⟩), .pointer (some ⟨w.heap.size, 0, none⟩)]) ∧ w' = (w.alloc (.cells #[.map (some pb)] 157)).alloc (.cells #[.int .u32 f] 26) := by
  go_enter Try.func116, Try.ntmps116
  go_wp2
  go_ret
  exact ⟨rfl, rfl⟩
set_option maxHeartbeats 2000000 in
theorem leadUpTo_c (pb n : Nat) (G : Int → Option Int) (w : World) (hF : IsFm fdE w pb n G) (hn : n ≤ 1000) (hG : ∀ g p, G g = some p → 0 ≤ p ∧ p < 4294967296) (top f0 : Int) (h0 : 0 ≤ f0) (h1 : f0 < 4294967296) :
    Calls Try.prog 114 #[.map (some pb), .int .u32 top, .int .u32 f0] w fun e w' => e = .returned (.bool (leadB G n top f0)) ∧ Below w.heap.size w w' := by
  have UP := hid (fun Rr Rd => upward1_in w pb n G hF hn hG top f0 h0 h1 Rr Rd)
  clear hF hn hG h0 h1
  refine (callsIn_wide (n := 3)).1 ?_
  refine callsIn_of_wp_marks Try.func114 rfl trivial ?_ rfl
  simp only [Try.ntmps114, List.size_toArray, List.length_cons, List.length_nil, Nat.reduceAdd, Nat.reduceSub, Array.replicate_succ, Array.replicate_zero, List.push_toArray, List.append_toArray, List.nil_append, List.cons_append]
  gi_wp2_with fail
  refine ⟨trivial, (callsIn_wide.2 (upward_c _ _ _)).mono ?_⟩
  rintro _ _ ⟨rfl, rfl⟩
  gi_wp2_with fail
  have b1 := below_1 w (.cells #[.int .u32 top] 26)
  have x1 := heap_alloc_new w (.cells #[.int .u32 top] 26)
  have b2 := below_1 (w.alloc (.cells #[.int .u32 top] 26)) (.cells #[.bool false] 4)
  have x2 := heap_alloc_new (w.alloc (.cells #[.int .u32 top] 26)) (.cells #[.bool false] 4)
  have b3 := below_1 ((w.alloc (.cells #[.int .u32 top] 26)).alloc (.cells #[.bool false] 4)) (.cells #[.map (some pb)] 157)
  have x3 := heap_alloc_new ((w.alloc (.cells #[.int .u32 top] 26)).alloc (.cells #[.bool false] 4)) (.cells #[.map (some pb)] 157)
  have b4 := below_1 (((w.alloc (.cells #[.int .u32 top] 26)).alloc (.cells #[.bool false] 4)).alloc (.cells #[.map (some pb)] 157)) (.cells #[.int .u32 f0] 26)
  have x4 := heap_alloc_new (((w.alloc (.cells #[.int .u32 top] 26)).alloc (.cells #[.bool false] 4)).alloc (.cells #[.map (some pb)] 157)) (.cells #[.int .u32 f0] 26)
  have s1 : (w.alloc (.cells #[.int .u32 top] 26)).heap.size = w.heap.size + 1 := by simp
  have s2 : ((w.alloc (.cells #[.int .u32 top] 26)).alloc (.cells #[.bool false] 4)).heap.size = w.heap.size + 2 := by simp
  have s3 : (((w.alloc (.cells #[.int .u32 top] 26)).alloc (.cells #[.bool false] 4)).alloc (.cells #[.map (some pb)] 157)).heap.size = w.heap.size + 3 := by simp
  have hsz : ((((w.alloc (.cells #[.int .u32 top] 26)).alloc (.cells #[.bool false] 4)).alloc (.cells #[.map (some pb)] 157)).alloc (.cells #[.int .u32 f0] 26)).heap.size = w.heap.size + 4 := by simp
  rw [s1] at b2 x2
  rw [s2] at b3 x3
  rw [s3] at b4 x4
  have q3 := (b4.block _ (by omega)).trans x3
  have q2 := (b4.block _ (by omega)).trans ((b3.block _ (by omega)).trans x2)
  have q1 := (b4.block _ (by omega)).trans ((b3.block _ (by omega)).trans ((b2.block _ (by omega)).trans x1))
  have hA0 := ((b1.trans (b2.mono (by omega))).trans (b3.mono (by omega))).trans (b4.mono (by omega))
  have q4 := x4
  clear b1 b2 b3 b4 x1 x2 x3 x4 s1 s2 s3
  generalize ((((w.alloc (.cells #[.int .u32 top] 26)).alloc (.cells #[.bool false] 4)).alloc (.cells #[.map (some pb)] 157)).alloc (.cells #[.int .u32 f0] 26)) = W at *
  refine range_ret (gf := 117) (lb := #[.pointer (some ⟨w.heap.size + 3, 0, none⟩), .pointer (some ⟨w.heap.size + 2, 0, none⟩)]) (by first | rfl | simp) (enters_of Try.func117 (by kernel_rfl) rfl) (fun W' => leadB G n top f0 = false ∧ ∃ cur R, LU w pb top cur false R W') (fun W' => leadB G n top f0 = true ∧ ∃ cur R, LU w pb top cur true R W') ?_ ?_ ?_
  · intro fn
    generalize hR : Rg.recOf fn _ _ _ _ _ = R
    generalize hRD : recD fn _ _ _ _ _ = RD
    have h5 : W.heap.size + 1 = w.heap.size + 5 := by omega
    have hD1 : ((W.alloc (.deferred (some []))).alloc (.loop (R .ready))).heap[w.heap.size + 4]? = some (.deferred (some [])) := by
      rw [Below.heap_alloc _ _ _ (by simp; omega), ← hsz]; exact heap_alloc_new W _
    have hL1 : ((W.alloc (.deferred (some []))).alloc (.loop (R .ready))).heap[w.heap.size + 5]? = some (.loop (R .ready)) := by
      have := heap_alloc_new (W.alloc (.deferred (some []))) (.loop (R .ready)); rw [World.size_alloc, h5] at this; exact this
    have hB1 : Below W.heap.size W ((W.alloc (.deferred (some []))).alloc (.loop (R .ready))) := ((Below.refl _ _).alloc (Nat.le_refl _) _).alloc (by simp) _
    have hz1 : ((W.alloc (.deferred (some []))).alloc (.loop (R .ready))).heap.size = w.heap.size + 6 := by simp; omega
    generalize ((W.alloc (.deferred (some []))).alloc (.loop (R .ready))) = W1 at *
    have hLU : LU w pb top f0 false (.loop (R .ready)) W1 := ⟨hA0.trans (hB1.mono hA0.size), hz1, (hB1.block _ (by omega)).trans q1, (hB1.block _ (by omega)).trans q2, (hB1.block _ (by omega)).trans q3, (hB1.block _ (by omega)).trans q4, hD1, hL1⟩
    rw [hsz, show w.heap.size + 4 + 1 = w.heap.size + 5 from rfl]
    refine (UP.out (.loop (R .ready)) (.loop RD) ?_ W1 hLU).mono ?_
    · intro cur g V hV
      rw [hsz] at hR hRD
      subst hR
      subst hRD
      refine (round_ret (R := fun b W' => b = !(g == top) ∧ LU w pb top cur (!b) (bif b then _ else _) W') hV.2.2.2.2.2.2.2 (by rfl) ?_)
      gi_wp2
      generalize Obj.loop (Rg.recOf fn _ _ _ _ (w.heap.size + 4) LoopState.ready) = Rr at *
      generalize Obj.loop (Rg.recOf fn _ _ _ _ (w.heap.size + 4) LoopState.busy) = Rb at *
      generalize Obj.loop (recD fn _ _ _ _ (w.heap.size + 4)) = Rd at *
      refine ⟨hV.2.2.2.2.2.2.2, ?_⟩
      have hV2 := hV.rec Rb
      have c0 := cell_box hV2.2.2.1
      have c1 := cell_box hV2.2.2.2.1
      have f1 := frozen_box hV2.2.2.2.1
      have HV2 := hid hV2
      clear hV hV2 hLU hD1 hL1
      generalize V.putObj (w.heap.size + 5) Rb = V2 at *
      by_cases q : g = top
      · have qB : (g == top) = true := by rw [q]; simp
        have HV3 := hid (HV2.out.res true)
        clear q
        gi_wp2
        first | exact ⟨HV3.out.2.2.2.2.2.2.2, HV3.out.rec _⟩ | exact ⟨HV3.out.2.2.2.2.2.2.2, .inr ⟨rfl, by rw [qB]; rfl, HV3.out.rec _⟩⟩
      · have qB : (g == top) = false := beq_eq_false_iff_ne.2 q
        gi_wp2
        first | exact ⟨HV2.out.2.2.2.2.2.2.2, HV2.out.rec _⟩ | exact ⟨HV2.out.2.2.2.2.2.2.2, .inl ⟨rfl, by rw [qB]; rfl, HV2.out.rec _⟩⟩
    · rintro e V ⟨he, cur, hV⟩
      refine ⟨he, hV.2.2.2.2.2.2.1, ?_⟩
      cases hb : leadB G n top f0 with
      | true => rw [hb] at hV; exact .inr ⟨hV.2.2.2.2.2.2.2, rfl, cur, _, hV⟩
      | false => rw [hb] at hV; exact .inl ⟨hV.2.2.2.2.2.2.2, rfl, cur, _, hV⟩
  · rintro W' o ⟨hb, cur, R, hV⟩ hD hl
    rw [hsz, show w.heap.size + 4 + 1 = w.heap.size + 5 from rfl]
    have hV2 := hV.rec o
    have c1 := cell_box hV2.2.2.2.1
    have f1 := frozen_box hV2.2.2.2.1
    have HV3 := hid (hV2.res false)
    clear hV hV2 hD hl
    generalize W'.putObj (w.heap.size + 5) o = W2 at *
    gi_wp2
    have hV3 := HV3.out
    generalize W2.setCell ⟨w.heap.size + 1, 0, none⟩ (.bool false) = W3 at *
    have c3 : (W3.putObj (w.heap.size + 4) (.deferred none)).cell? ⟨w.heap.size + 1, 0, none⟩ = some (.bool false) := cell_box ((World.putObj_heap_other (by omega)).trans hV3.2.2.2.1)
    have hB3 : Below w.heap.size w (W3.putObj (w.heap.size + 4) (.deferred none)) := hV3.1.trans ⟨rfl, rfl, rfl, by simp, fun q hq => World.putObj_heap_other (by omega)⟩
    refine ⟨by simp, .inl ⟨_, _, rfl, run_takeDeferred hV3.2.2.2.2.2.2.1, ?_⟩⟩
    exact ⟨.bool false, by simp [results, Try.results114, go_sem, c3], by rw [hb], hB3⟩
  · rintro W' o ⟨hb, cur, R, hV⟩ hD hl
    rw [hsz, show w.heap.size + 4 + 1 = w.heap.size + 5 from rfl]
    have hV3 := hV.rec o
    generalize W'.putObj (w.heap.size + 5) o = W3 at *
    have c3 : (W3.putObj (w.heap.size + 4) (.deferred none)).cell? ⟨w.heap.size + 1, 0, none⟩ = some (.bool true) := cell_box ((World.putObj_heap_other (by omega)).trans hV3.2.2.2.1)
    have hB3 : Below w.heap.size w (W3.putObj (w.heap.size + 4) (.deferred none)) := hV3.1.trans ⟨rfl, rfl, rfl, by simp, fun q hq => World.putObj_heap_other (by omega)⟩
    refine ⟨by simp, .inl ⟨_, _, rfl, run_takeDeferred hV3.2.2.2.2.2.2.1, ?_⟩⟩
    exact ⟨.bool true, by simp [results, Try.results114, go_sem, c3], by rw [hb], hB3⟩
end Go.Proofs.Ytbgninmkglgfeaa
namespace Go.Proofs.Ytbgninmkglgfeaa
open Go.RowKit Go.ChangeShapes Go.WideShapes Go.ChangeAt Go.Maps
set_option linter.unusedVariables false
set_option linter.unusedSimpArgs false
set_option maxRecDepth 100000
def litI : Lit → Int
  | .int _ i => i
  | _ => 0
/-- The fids that a map holds, each once. -/
theorem IsFm.list {α : Type} {E : Enc α} {w : World} {b m : Nat} {f : Int → Option α} (h : IsFm E w b m f) : ∃ ks : List Int, ks.Pairwise (· ≠ ·) ∧ (∀ i, i ∈ ks ↔ (f i).isSome = true) ∧ ks.length = m := by
  obtain ⟨D, ho, hs, hf⟩ := h
  obtain ⟨es, e, hp, hsh⟩ := entriesF E ho
  subst e
  refine ⟨es.map fun p => litI p.1, ?_, fun i => ?_, ?_⟩
  · rw [List.pairwise_map]
    refine hp.imp_of_mem (fun {p q} hp1 hq1 hne e => hne ?_)
    obtain ⟨i, s, rfl, _⟩ := hsh p hp1
    obtain ⟨j, t, rfl, _⟩ := hsh q hq1
    simp only [litI, kyF] at e ⊢
    rw [e]
  · rw [hf i, ← Maps.has_eq_look_of (E := E) ho i, Maps.has_eq, List.any_eq_true, List.mem_map]
    constructor
    · rintro ⟨p, hp1, rfl⟩
      refine ⟨p, hp1, ?_⟩
      obtain ⟨j, s, rfl, _⟩ := hsh p hp1
      simp [litI, kyF, Lit.sameKey]
    · rintro ⟨p, hp1, hp2⟩
      refine ⟨p, hp1, ?_⟩
      obtain ⟨j, s, rfl, _⟩ := hsh p hp1
      rw [same_kyF] at hp2
      simpa [litI, kyF] using hp2
  · rw [List.length_map, ← hs]; rfl
theorem nodup_len : ∀ {a b : List Int}, a.Pairwise (· ≠ ·) → (∀ i, i ∈ a → i ∈ b) → a.length ≤ b.length
  | [], b, _, _ => Nat.zero_le _
  | x :: a, b, hp, h => by
    rw [List.pairwise_cons] at hp
    have hx := h x (by simp)
    have hl : (b.erase x).length + 1 = b.length := by
      have := List.length_erase_of_mem hx
      have h2 : 0 < b.length := List.length_pos_of_mem hx
      omega
    have := nodup_len (a := a) (b := b.erase x) hp.2 (fun i hi => (List.mem_erase_of_ne (fun e => hp.1 i hi e.symm)).2 (h i (by simp [hi])))
    rw [List.length_cons]
    omega
theorem nodup_same {a b : List Int} (ha : a.Pairwise (· ≠ ·)) (hb : b.Pairwise (· ≠ ·)) (h : ∀ i, i ∈ a ↔ i ∈ b) : a.length = b.length :=
  Nat.le_antisymm (nodup_len ha (fun i hi => (h i).1 hi)) (nodup_len hb (fun i hi => (h i).2 hi))
/-- A directory is below itself. -/
def RingN (N : Tab) : Prop := ∃ (G : Int → Option Int) (ks : List Int) (f p : Int), ks.Pairwise (· ≠ ·) ∧ (∀ i, i ∈ ks ↔ (G i).isSome = true) ∧ IsPar N G ∧ G f = some p ∧ leadB G ks.length f p = true
theorem ring_of {N : Tab} {G : Int → Option Int} {n : Nat} {ks : List Int} (h1 : ks.Pairwise (· ≠ ·)) (h2 : ∀ i, i ∈ ks ↔ (G i).isSome = true) (h3 : ks.length = n) (hP : IsPar N G) : RingN N ↔ ∃ f p, G f = some p ∧ leadB G n f p = true := by
  constructor
  · rintro ⟨G', ks', f, p, q1, q2, q3, q4, q5⟩
    have e : G' = G := by
      funext g
      cases hg : G g with
      | none =>
        cases hg' : G' g with
        | none => rfl
        | some x => have := (hP x g).2 ((q3 x g).1 hg'); rw [hg] at this; cases this
      | some x => exact (q3 x g).2 ((hP x g).1 hg)
    subst e
    rw [nodup_same q1 h1 (fun i => (q2 i).trans (h2 i).symm), h3] at q5
    exact ⟨f, p, q4, q5⟩
  · rintro ⟨f, p, q4, q5⟩
    exact ⟨G, ks, f, p, h1, h2, hP, q4, by rw [h3]; exact q5⟩
theorem below_grown0 {w w' : World} (h : Below w.heap.size w w') : w.grownBy w' none := ⟨h.os, h.tape, h.output, h.size, fun i hi _ => h.block i hi⟩
/-- What holdRing answers. -/
def RingP (N : Tab) (w : World) (e : Ending) (w' : World) : Prop := ∃ b, e = .returned (.bool b) ∧ (b = true ↔ RingN N) ∧ Below w.heap.size w w'
set_option maxHeartbeats 2000000 in
theorem holdRing_c (tb m0 : Nat) (N : Tab) (w : World) (hT : IsTab w tb m0 N) (hm0 : m0 ≤ 60) (hW : Whole6 N) (hU : OneUp N) :
    Calls Try.prog 108 #[.map (some tb)] w fun e w' => RingP N w e w' := by
  have HK : Hid (∀ f p x, N f = some (p, x) → 0 ≤ f ∧ f < 4294967296) := hid (fun f p x e => hT.1.keys (i := f) (s := some p) (by unfold Tab.ptr; rw [e]; rfl))
  have PC := hid (parents_c tb m0 N w hT hm0 hW hU)
  clear hT hW hU hm0
  go_enter Try.func108, Try.ntmps108
  go_wp2_with (first
    | (go_at_call 113; refine PC.out.mono ?_; rintro _ w1 ⟨rfl, ⟨c, G, hF, hc, hP⟩, hb1⟩
       have HF := hid hF
       have HP := hid hP
       have HC := hid hc
       have HB1 := hid hb1
       obtain ⟨D, ho, hsz, hlk⟩ := hF
       have HO := hid ho
       have HSZ := hid hsz
       have HLK := hid hlk
       clear ho hsz hlk hP hc hb1)
    | (at_range; refine wpList_range_own _ rfl _ 157 rfl 26 26 lawF ht_par fdE.rd w.heap.size c D rfl HO.out ?_; intro w0 hrg0 hg0 hs0))
  go_frame
  have R0 := hid hrg0
  have B0 := hid (grown_below hg0)
  obtain ⟨r, hr⟩ : ∃ r, r = w1.heap.size := ⟨_, rfl⟩
  rw [← hr] at R0 ⊢
  have HRr := hid hr
  have GB : Hid (∀ g p, G g = some p → 0 ≤ p ∧ p < 4294967296) := hid (fun g p e => by
    obtain ⟨pp, x, i, h1, _⟩ := (HP.out p g).1 e
    exact HK.out p pp x h1)
  obtain ⟨ks, k1, k2, k3⟩ := HF.out.list
  have RO := hid (ring_of k1 k2 k3 HP.out)
  have GK : Hid (∀ g p, G g = some p → 0 ≤ g ∧ g < 4294967296) := hid (fun g p e => HF.out.keys e)
  clear hrg0 hg0 hs0 hr k1 k2 k3 ks PC HK
  go_loopg [4] (Maps.size D) (fun gk v wr => Hid (Below w1.heap.size w1 wr) ∧ Hid (r < wr.heap.size) ∧ Hid (∃ left, wr.ranges Try.prog 26 fdE.rd w.heap.size r c D left gk ∧ ∀ f p, G f = some p → left (kyF f) = false → leadB G c f p = false))
  case atStart =>
    refine ⟨B0, hid R0.out.lt, hid ⟨_, R0.out, fun f p e hl => ?_⟩⟩
    have e1 := (look_atF fdE HO.out f 0).2.1
    rw [e1, ← HLK.out f, e] at hl
    cases hl
  case round =>
    clear R0 B0
    obtain ⟨HB, HS, HI⟩ := hrel
    obtain ⟨left, hrg, hlead⟩ := HI.out
    have HRG := hid hrg
    have HL := hid hlead
    clear HI hrg hlead
    go_wp2_with (at_next; refine next_F fdE _ rfl _ rfl w.heap.size r c D left gk rfl HRG.out ?_ ?_)
    · intro hc0 hl0
      have FIN : Hid (RingP N w (.returned (.bool false)) wr) := hid ⟨false, rfl, ⟨(fun h => by cases h), fun h => by
        obtain ⟨f, p, e1, e2⟩ := RO.out.1 h
        rw [HL.out f p e1 (hl0 f)] at e2
        cases e2⟩, HB1.out.trans (HB.out.mono HB1.out.size)⟩
      go_wp2
      go_ret
      exact FIN.out
    · intro f p w2 cnt1 hf0 hf1 hlf hlD hrg1 hlt hg1 hs1 hen
      rw [show fdE.enc p = .int .u32 p from rfl] at hen ⊢
      rw [← HLK.out f] at hlD
      have hB2 : Below w1.heap.size w1 w2 := HB.out.trans ((grown_ou hg1).below HB.out.size (fun k e => by have := HRr.out; omega))
      have HB2 := hid hB2
      have hp := GB.out f p hlD
      have LC := hid (leadUpTo_c w.heap.size c G w2 (HF.out.out (Ou.of (S := fun _ => False) hB2) (fun e => e)) (by have := HC.out; omega) GB.out f p hp.1 hp.2)
      have HG := hid hlD
      have HRG1 := hid hrg1
      have HS2 : Hid (r < w2.heap.size) := hid (by rw [hs1]; exact HS.out)
      clear hlD hB2 hrg1 hg1 hs1 hp hlf HB HRG HS
      cases hq : leadB G c f p with
      | true =>
        rw [hq] at LC
        have RT : Hid (RingN N) := hid (RO.out.2 ⟨f, p, HG.out, hq⟩)
        clear hq
        go_wp2_with (go_at_call 114; refine LC.out.mono ?_; rintro _ w3 ⟨rfl, hb3⟩)
        go_ret
        exact ⟨true, rfl, ⟨fun _ => RT.out, fun _ => rfl⟩, HB1.out.trans ((HB2.out.trans (hb3.mono HB2.out.size)).mono HB1.out.size)⟩
      | false =>
        rw [hq] at LC
        have HQ := hid hq
        clear hq
        go_wp2_with (go_at_call 114; refine LC.out.mono ?_; rintro _ w3 ⟨rfl, hb3⟩)
        have HB3 := hid (HB2.out.trans (hb3.mono HB2.out.size))
        have HS3 : Hid (r < w3.heap.size) := hid (Nat.lt_of_lt_of_le HS2.out hb3.size)
        have HI3 : Hid (∃ left, w3.ranges Try.prog 26 fdE.rd w.heap.size r c D left cnt1 ∧ ∀ f p, G f = some p → left (kyF f) = false → leadB G c f p = false) := hid (by
          refine ⟨_, HRG1.out.kept (below_grown0 hb3) (by simp) (by simp), fun f' p' e hl => ?_⟩
          by_cases q : f' = f
          · subst q
            rw [HG.out] at e
            cases e
            exact HQ.out
          · refine HL.out f' p' e ?_
            simp only [same_kyF, decide_eq_false q, Bool.not_false, Bool.and_true] at hl
            exact hl)
        clear hb3
        go_roundg cnt1
        case measure => exact hlt
        case rel => exact ⟨HB3, HS3, HI3⟩
end Go.Proofs.Ytbgninmkglgfeaa
namespace Go.Proofs.Ytbgninmkglgfeaa
open Go.RowKit Go.ChangeShapes Go.WideShapes Go.ChangeAt Go.Maps
set_option linter.unusedVariables false
set_option linter.unusedSimpArgs false
set_option maxRecDepth 100000
/-- The nodes of a list by their fids, wherever they lie. -/
def N0 (l : List Nd) : Tab := ndF none l l.length
/-- Are nodes a tree? -/
def RightP (l : List Nd) : Prop := l.length ≤ 40 ∧ fidsUp l = true ∧ isDirT (N0 l) 1 = true ∧ (∀ x ∈ l, aloneB x = true ∧ haveB (N0 l) x.ks = true) ∧ linksB l = true ∧ ¬ RingN (N0 l)
theorem nd_some (a : Option Addr) (l : List Nd) (m : Nat) (f : Int) : (ndF a l m f).map (·.2) = (ndF none l m f).map (·.2) := by
  unfold ndF
  cases plTo l m f <;> rfl
theorem nd_isSome (a : Option Addr) (l : List Nd) (m : Nat) (f : Int) : (ndF a l m f).isSome = (ndF none l m f).isSome := by
  unfold ndF
  cases plTo l m f <;> rfl
theorem dir_any (a : Option Addr) (l : List Nd) (m : Nat) (g : Int) : isDirT (ndF a l m) g = isDirT (ndF none l m) g := by
  unfold isDirT ndF
  cases plTo l m g <;> rfl
theorem edge_any (a : Option Addr) (l : List Nd) (m : Nat) (f g : Int) : Edge (ndF a l m) f g ↔ Edge (ndF none l m) f g := by
  have key : ∀ a b : Option Addr, Edge (ndF a l m) f g → Edge (ndF b l m) f g := fun a b h => by
    obtain ⟨p, x, i, h1, h2, h3, h4⟩ := h
    rw [dir_any] at h4
    unfold ndF at h1
    cases hp : plTo l m f with
    | none => rw [hp] at h1; cases h1
    | some j =>
      rw [hp] at h1
      cases h1
      refine ⟨⟨(b.getD ⟨0, 0, none⟩).block, (b.getD ⟨0, 0, none⟩).off + j * 6, none⟩, l.getD j Nd.no, i, ?_, h2, h3, by rw [dir_any]; exact h4⟩
      unfold ndF
      rw [hp]; rfl
  exact ⟨key _ _, key _ _⟩
theorem ring_any (a : Option Addr) (l : List Nd) (m : Nat) : RingN (ndF a l m) ↔ RingN (ndF none l m) := by
  have e : ∀ G, IsPar (ndF a l m) G ↔ IsPar (ndF none l m) G := fun G => by
    unfold IsPar
    constructor
    · intro h f g; rw [h f g, edge_any]
    · intro h f g; rw [h f g, edge_any a]
  unfold RingN
  simp only [e]
theorem haveTo_any (a : Option Addr) (l : List Nd) (m : Nat) (ks : List Kd) : ∀ n, haveTo (ndF a l m) ks n = haveTo (ndF none l m) ks n
  | 0 => rfl
  | n + 1 => by simp only [haveTo, haveTo_any a l m ks n, nd_isSome a]
theorem haveB_any (a : Option Addr) (l : List Nd) (m : Nat) (ks : List Kd) : haveB (ndF a l m) ks = haveB (ndF none l m) ks := haveTo_any a l m ks _
theorem alone_few {x : Nd} (h : aloneB x = true) : x.ks.length ≤ 12 := by
  unfold aloneB at h
  cases q : (x.k == 1 || x.k == 3) with
  | true =>
    rw [q] at h
    simp only [cond_true, Bool.and_eq_true, decide_eq_true_eq] at h
    omega
  | false =>
    rw [q] at h
    cases q2 : (x.k == 2) with
    | true =>
      rw [q2] at h
      simp only [cond_false, cond_true, Bool.and_eq_true, decide_eq_true_eq] at h
      exact h.2.1
    | false => rw [q2] at h; cases h
theorem linksTo_all {P : List Int} {l : List Nd} : ∀ {m : Nat}, linksTo P l m = true → ∀ i, i < m → linkB P (l.getD i Nd.no) = true
  | 0, _, i, hi => by omega
  | m + 1, h, i, hi => by
    unfold linksTo at h
    rw [Bool.and_eq_true] at h
    by_cases e : i = m
    · subst e; exact h.2
    · exact linksTo_all h.1 i (by omega)
theorem kfs_mem {l : List Nd} {i j : Nat} {g : Int} (hi : i < l.length) (hj : j < (l.getD i Nd.no).ks.length) (hg : ((l.getD i Nd.no).ks.getD j Kd.no).fid = g) : g ∈ kfs l := by
  unfold kfs
  rw [List.mem_flatMap]
  refine ⟨_, getD_mem l Nd.no hi, ?_⟩
  rw [List.mem_map]
  exact ⟨_, getD_mem _ Kd.no hj, hg⟩
theorem kfs_two {l : List Nd} {i i' j j' : Nat} {g : Int} (hlt : i < i') (hi' : i' < l.length) (hj : j < (l.getD i Nd.no).ks.length) (hg : ((l.getD i Nd.no).ks.getD j Kd.no).fid = g) (hj' : j' < (l.getD i' Nd.no).ks.length) (hg' : ((l.getD i' Nd.no).ks.getD j' Kd.no).fid = g) : 2 ≤ (kfs l).count g := by
  have e0 : l = l.take (i' + 1) ++ l.drop (i' + 1) := (List.take_append_drop _ _).symm
  have e1 : kfs l = kfs (l.take (i' + 1)) ++ kfs (l.drop (i' + 1)) := by
    unfold kfs
    rw [← List.flatMap_append, ← e0]
  rw [e1, kfs_take hi', List.count_append, List.count_append]
  have h1 : 0 < (kfs (l.take i')).count g := by
    rw [List.count_pos_iff]
    have et : (l.take i').getD i Nd.no = l.getD i Nd.no := by simp [List.getD, List.getElem?_take, hlt]
    refine kfs_mem (l := l.take i') (i := i) (j := j) (by rw [List.length_take]; omega) (by rw [et]; exact hj) (by rw [et]; exact hg)
  have h2 : 0 < ((l.getD i' Nd.no).ks.map (·.fid)).count g := by
    rw [List.count_pos_iff, List.mem_map]
    exact ⟨_, getD_mem _ Kd.no hj', hg'⟩
  omega
/-- Where entries are counted right, each directory stands in one alone. -/
theorem one_up {a : Option Addr} {l : List Nd} (hL : linksB l = true) (hH : ∀ x ∈ l, haveB (ndF a l l.length) x.ks = true) : OneUp (ndF a l l.length) := by
  intro f f' g h h'
  obtain ⟨p, x, j, h1, h2, h3, h4⟩ := h
  obtain ⟨p', x', j', h1', h2', h3', _⟩ := h'
  unfold ndF at h1 h1'
  cases hp : plTo l l.length f with
  | none => rw [hp] at h1; cases h1
  | some i =>
    cases hp' : plTo l l.length f' with
    | none => rw [hp'] at h1'; cases h1'
    | some i' =>
      rw [hp] at h1
      rw [hp'] at h1'
      cases h1
      cases h1'
      obtain ⟨li, ei⟩ := plTo_lt l _ hp
      obtain ⟨li', ei'⟩ := plTo_lt l _ hp'
      have hc : (kfs l).count g ≤ 1 := by
        unfold isDirT ndF at h4
        cases hg : plTo l l.length g with
        | none => rw [hg] at h4; cases h4
        | some k =>
          rw [hg] at h4
          simp only [Option.map_some] at h4
          obtain ⟨lk, ek⟩ := plTo_lt l _ hg
          have hb := linksTo_all hL k lk
          have hne : g ≠ 1 := by
            have := (haveTo_all (hH _ (getD_mem l Nd.no li)) j h2).1
            rw [h3] at this
            exact this
          unfold linkB at hb
          rw [ek, h4] at hb
          have hne2 : (g == 1) = false := beq_eq_false_iff_ne.2 hne
          rw [hne2] at hb
          simp only [Bool.false_or, Bool.true_and, Bool.and_eq_true, Bool.not_eq_true', Bool.or_eq_false_iff, decide_eq_false_iff_not] at hb
          omega
      rcases Nat.lt_trichotomy i i' with q | q | q
      · have := kfs_two q li' h2 h3 h2' h3'; omega
      · subst q; rw [← ei, ← ei']
      · have := kfs_two q li h2' h3' h2 h3; omega
theorem whole_6 {a : Option Addr} {l : List Nd} (hA : ∀ x ∈ l, aloneB x = true) (hH : ∀ x ∈ l, haveB (ndF a l l.length) x.ks = true) : Whole6 (ndF a l l.length) := by
  intro f p x h
  unfold ndF at h
  cases hp : plTo l l.length f with
  | none => rw [hp] at h; cases h
  | some i =>
    rw [hp] at h
    cases h
    obtain ⟨li, _⟩ := plTo_lt l _ hp
    have hm := getD_mem l Nd.no li
    exact ⟨alone_few (hA _ hm), fun j hj => (haveTo_all (hH _ hm) j hj).2⟩
/-- What Right answers. -/
def RtP (l : List Nd) (w : World) (e : Ending) (w' : World) : Prop := ∃ b, e = .returned (.bool b) ∧ (b = true ↔ RightP l) ∧ Below w.heap.size w w'
theorem RtP.no {l : List Nd} {w w' : World} (h : ¬ RightP l) (hb : Below w.heap.size w w') : RtP l w (.returned (.bool false)) w' := ⟨false, rfl, ⟨(fun e => by cases e), fun e => absurd e h⟩, hb⟩
set_option maxHeartbeats 4000000 in
theorem right_c (a : Option Addr) (cap : Nat) (l : List Nd) (w : World) (h : IsNs w a l) (hm : l.length ≤ 100000) :
    Calls Try.prog 74 #[.slice a l.length cap] w fun e w' => RtP l w e w' := by
  have H := hid h
  have FC := hid (fidsRise_c a cap l w h hm)
  have TC := hid (fun (h4 : l.length ≤ 40) => tableOf_c a cap l w h (by omega))
  have ht := ht_tab
  clear h
  by_cases q40 : 40 < l.length
  · have qI : (40 : Int) < l.length := by omega
    have F : Hid (RtP l w (.returned (.bool false)) w) := hid (RtP.no (fun h => by have := h.1; omega) (Below.refl _ _))
    go_enter Try.func74, Try.ntmps74
    go_wp2
    go_ret
    exact F.out
  · have qI : ¬ (40 : Int) < l.length := by omega
    have TC2 := hid (TC.out (by omega))
    clear TC
    cases qu : fidsUp l with
    | false =>
      rw [qu] at FC
      have F : Hid (RtP l w (.returned (.bool false)) w) := hid (RtP.no (fun h => by have := h.2.1; rw [qu] at this; cases this) (Below.refl _ _))
      clear qu
      go_enter Try.func74, Try.ntmps74
      go_wp2_with (go_at_call 103; refine FC.out.mono ?_; rintro _ w0 ⟨rfl, hw0⟩; have hw1 := hw0.symm; clear hw0; subst hw1)
      go_ret
      exact F.out
    | true =>
      rw [qu] at FC
      have HU := hid qu
      clear qu
      obtain ⟨N, hN⟩ : ∃ N, N = ndF a l l.length := ⟨_, rfl⟩
      rw [← hN] at TC2
      have HN := hid hN
      have hd1 := dir_any a l l.length 1
      rw [← hN] at hd1
      have HD1 := hid hd1
      have HHV : Hid (∀ ks, haveB N ks = haveB (N0 l) ks) := hid (fun ks => by rw [hN]; exact haveB_any a l l.length ks)
      have HRG : Hid (RingN N ↔ RingN (N0 l)) := hid (by rw [hN]; exact ring_any a l l.length)
      have HW6 : Hid ((∀ x ∈ l, aloneB x = true) → (∀ x ∈ l, haveB N x.ks = true) → Whole6 N) := hid (fun h1 h2 => by rw [hN] at h2 ⊢; exact whole_6 h1 h2)
      have HO6 : Hid (linksB l = true → (∀ x ∈ l, haveB N x.ks = true) → OneUp N) := hid (fun h1 h2 => by rw [hN] at h2 ⊢; exact one_up h1 h2)
      have HPL := hid (plN_le l l.length)
      clear hN hd1 HN
      cases qd : isDirT N 1 with
      | false =>
        have ND : Hid (¬ RightP l) := hid (fun h => by have := h.2.2.1; unfold N0 at this; rw [← HD1.out, qd] at this; cases this)
        unfold isDirT at qd
        cases q1 : N 1 with
        | none =>
          clear qd
          go_enter Try.func74, Try.ntmps74
          go_wp2_with (first
            | (go_at_call 104; refine TC2.out.mono ?_; rintro _ w1 ⟨rfl, hT, hb1⟩
               have LK := hT.1.look ht zeroPt (i := 1) (by omega) (by omega)
               unfold Tab.ptr at LK
               rw [q1, show ptE.enc ((Option.map (fun p : Addr × Nd => some p.1) none).getD none) = .pointer none from rfl] at LK
               have HB := hid hb1
               clear hT hb1)
            | (go_at_call 103; refine FC.out.mono ?_; rintro _ w0 ⟨rfl, hw0⟩; have hw1 := hw0.symm; clear hw0; subst hw1))
          go_ret
          exact RtP.no ND.out HB.out
        | some z =>
          obtain ⟨p, x⟩ := z
          rw [q1] at qd
          simp only at qd
          have qk : (x.k != 2) = true := by rw [bne, qd]; rfl
          have qk2 : ¬ x.k = 2 := by rwa [beq_eq_false_iff_ne] at qd
          go_enter Try.func74, Try.ntmps74
          go_wp2_with (first
            | (go_at_call 104; refine TC2.out.mono ?_; rintro _ w1 ⟨rfl, hT, hb1⟩
               have LK := hT.1.look ht zeroPt (i := 1) (by omega) (by omega)
               unfold Tab.ptr at LK
               rw [q1, show ptE.enc ((Option.map (fun p : Addr × Nd => some p.1) (some (p, x))).getD none) = .pointer (some p) from rfl] at LK
               obtain ⟨hps, hnc, _, _⟩ := hT.2 1 p x q1
               obtain ⟨pb, po, ps⟩ := p
               simp only at hps
               subst hps
               have c1 := hnc.all.2.1
               simp only at c1
               have HB := hid hb1
               clear hT hb1 hnc)
            | (go_at_call 103; refine FC.out.mono ?_; rintro _ w0 ⟨rfl, hw0⟩; have hw1 := hw0.symm; clear hw0; subst hw1))
          go_ret
          exact RtP.no ND.out HB.out
      | true =>
        have HDT : Hid (isDirT (N0 l) 1 = true) := hid (by unfold N0; rw [← HD1.out]; exact qd)
        clear HD1
        unfold isDirT at qd
        cases q1 : N 1 with
        | none => rw [q1] at qd; cases qd
        | some z =>
          obtain ⟨p, x⟩ := z
          rw [q1] at qd
          simp only at qd
          have qk : x.k = 2 := by simpa using qd
          clear qd
          obtain ⟨xf, xk, xm, xl, xda, xdc, xzs, xka, xkc, xks⟩ := x
          simp only at qk
          subst qk
          obtain ⟨n, hn⟩ : ∃ n, n = l.length := ⟨_, rfl⟩
          have HNL := hid hn
          rw [← hn] at FC TC2 q40 qI HPL
          go_enter Try.func74, Try.ntmps74
          rw [← hn]
          clear hn
          go_wp2_with (first
            | (go_at_call 104; refine TC2.out.mono ?_; rintro _ w1 ⟨rfl, hT, hb1⟩
               have LK := hT.1.look ht zeroPt (i := 1) (by omega) (by omega)
               unfold Tab.ptr at LK
               rw [q1, show ptE.enc ((Option.map (fun p : Addr × Nd => some p.1) (some (p, (⟨xf, 2, xm, xl, xda, xdc, xzs, xka, xkc, xks⟩ : Nd)))).getD none) = .pointer (some p) from rfl] at LK
               obtain ⟨hps, hnc, _, _⟩ := hT.2 1 p _ q1
               obtain ⟨pb, po, ps⟩ := p
               simp only at hps
               subst hps
               have c1 := hnc.all.2.1
               simp only at c1
               have HB := hid hb1
               have HT := hid hT
               clear hT hb1 hnc)
            | (go_at_call 103; refine FC.out.mono ?_; rintro _ w0 ⟨rfl, hw0⟩; have hw1 := hw0.symm; clear hw0; subst hw1))
          clear FC TC2 LK c1 q1
          go_loopg [29] n (fun gk i wr => ∃ m : Nat, m + gk = n ∧ i = .int .i64 m ∧ Hid (Below w1.heap.size w1 wr) ∧ Hid (∀ i, i < m → aloneB (l.getD i Nd.no) = true ∧ haveB N (l.getD i Nd.no).ks = true))
          case atStart => exact ⟨0, by omega, rfl, hid (Below.refl _ _), hid (fun i hi => by omega)⟩
          case round =>
            obtain ⟨m, hm2, rfl, HB2, HI⟩ := hrel
            have HBW := hid (HB.out.trans (HB2.out.mono HB.out.size))
            by_cases hlt : m < n
            · have hltI : (m : Int) < n := by omega
              have hln : m < l.length := by rw [← HNL.out]; exact hlt
              obtain ⟨b, off, rfl, _⟩ := H.out.2.2 (by omega)
              have hI := H.out.later HBW.out
              have hC := hI.at (i := m) hln
              have hO := hI.ok (i := m) hln
              have hmem := getD_mem l Nd.no hln
              have AC := hid (rightAlone_c b (off + m * 6) _ wr hC hO)
              cases qa : aloneB (l.getD m Nd.no) with
              | false =>
                rw [qa] at AC
                have ND : Hid (¬ RightP l) := hid (fun h => by have := (h.2.2.2.1 _ hmem).1; rw [qa] at this; cases this)
                clear hI hC hO hmem qa hln
                go_wp2_with (go_at_call 105; refine AC.out.mono ?_; rintro _ w3 ⟨rfl, hb3⟩)
                go_ret
                exact RtP.no ND.out (HBW.out.trans (hb3.mono HBW.out.size))
              | true =>
                rw [qa] at AC
                have KC := hid (fun W (hW : Below wr.heap.size wr W) => haveKidsOf_c w.heap.size _ N b (off + m * 6) _ W (HT.out.later (HB2.out.trans (hW.mono HB2.out.size))) (hC.later hW) (hO.later hW) (by have := alone_few qa; omega))
                cases qh : haveB N (l.getD m Nd.no).ks with
                | false =>
                  rw [qh] at KC
                  have ND : Hid (¬ RightP l) := hid (fun h => by have := (h.2.2.2.1 _ hmem).2; rw [← HHV.out, qh] at this; cases this)
                  clear hI hC hO hmem qa hln qh
                  go_wp2_with (first
                    | (go_at_call 106; refine (KC.out _ B3.out).mono ?_; rintro _ w4 ⟨rfl, hb4⟩)
                    | (go_at_call 105; refine AC.out.mono ?_; rintro _ w3 ⟨rfl, hb3⟩; have B3 := hid hb3; clear hb3))
                  go_ret
                  exact RtP.no ND.out (HBW.out.trans ((B3.out.trans (hb4.mono B3.out.size)).mono HBW.out.size))
                | true =>
                  rw [qh] at KC
                  have HI2 : Hid (∀ i, i < m + 1 → aloneB (l.getD i Nd.no) = true ∧ haveB N (l.getD i Nd.no).ks = true) := hid (fun i hi => by
                    by_cases e : i = m
                    · subst e; exact ⟨qa, qh⟩
                    · exact HI.out i (by omega))
                  clear hI hC hO hmem qa hln qh HI
                  go_wp2_with (first
                    | (go_at_call 106; refine (KC.out _ B3.out).mono ?_; rintro _ w4 ⟨rfl, hb4⟩)
                    | (go_at_call 105; refine AC.out.mono ?_; rintro _ w3 ⟨rfl, hb3⟩; have B3 := hid hb3; clear hb3))
                  have HB4 := hid (HB2.out.trans ((B3.out.trans (hb4.mono B3.out.size)).mono HB2.out.size))
                  clear hb4
                  go_roundg (gk - 1)
                  case measure => omega
                  case rel => exact ⟨m + 1, by omega, by go_num, HB4, HI2⟩
            · have hge : ¬ (m : Int) < n := by omega
              have ALL : Hid (∀ x ∈ l, aloneB x = true ∧ haveB N x.ks = true) := hid (fun x hx => by
                obtain ⟨i, hi, rfl⟩ := List.getElem_of_mem hx
                have := HI.out i (by have := HNL.out; omega)
                simpa [List.getD, hi] using this)
              clear HI
              have A1 := hid (fun x hx => (ALL.out x hx).1)
              have A2 := hid (fun x hx => (ALL.out x hx).2)
              have RL := hid (rightLinks_c a cap l wr (H.out.later HBW.out) (by have := HNL.out; omega) (fun x hx => alone_few (A1.out x hx)))
              rw [← HNL.out] at RL
              cases ql : linksB l with
              | false =>
                rw [ql] at RL
                have ND : Hid (¬ RightP l) := hid (fun h => by have := h.2.2.2.2.1; rw [ql] at this; cases this)
                clear ql
                go_wp2_with (go_at_call 107; refine RL.out.mono ?_; rintro _ w3 ⟨rfl, hb3⟩)
                go_ret
                exact RtP.no ND.out (HBW.out.trans (hb3.mono HBW.out.size))
              | true =>
                rw [ql] at RL
                have HC := hid (fun W (hW : Below wr.heap.size wr W) => holdRing_c w.heap.size _ N W (HT.out.later (HB2.out.trans (hW.mono HB2.out.size))) (by have h1 := HPL.out; have h2 := HNL.out; omega) (HW6.out A1.out A2.out) (HO6.out ql A2.out))
                have FIN : Hid (∀ b, (b = true ↔ RingN N) → ((!b) = true ↔ RightP l)) := hid (fun b hb => by
                  constructor
                  · intro e
                    refine ⟨by have := HNL.out; omega, HU.out, HDT.out, fun x hx => ⟨A1.out x hx, by rw [← HHV.out]; exact A2.out x hx⟩, ql, fun hr => ?_⟩
                    rw [hb.2 (HRG.out.2 hr)] at e
                    cases e
                  · intro h
                    cases b with
                    | false => rfl
                    | true => exact absurd (HRG.out.1 (hb.1 rfl)) h.2.2.2.2.2)
                unfold RingP at HC
                clear ql
                go_wp2_with (first
                  | (go_at_call 108; refine (HC.out _ B3.out).mono ?_; rintro _ w4 ⟨b4, rfl, hq4, hb4⟩; have Q4 := hid hq4; clear hq4)
                  | (go_at_call 107; refine RL.out.mono ?_; rintro _ w3 ⟨rfl, hb3⟩; have B3 := hid hb3; clear hb3))
                go_ret
                exact ⟨_, rfl, FIN.out b4 Q4.out, HBW.out.trans ((B3.out.trans (hb4.mono B3.out.size)).mono HBW.out.size)⟩
end Go.Proofs.Ytbgninmkglgfeaa
