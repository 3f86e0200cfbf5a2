/-
  Rows of fids; they are sorted (at most twelve).
  Maps by fids: what a look, a store, a deletion is, how many there are.
-/
import Derived.Test.YtkokjkaclcjnjaaGreatDoorPtAa
import Derived.ChangeArms
import Derived.ChangeOld
import Derived.Below
import Derived.Deep.RegionHeld3
import Derived.Deep.LoopGhost
import Derived.Deep.RegionWith
import Derived.BigQuiet
import Derived.Deep.QuietTactic
import Derived.Maps.RangeWalk
import Derived.Maps.OwnSet
import Derived.Stop.BytesEq
import Derived.Laws.Rows
import Derived.Deep.MidRow
namespace Go.Proofs.YtkokjkaclcjnjaaGreatDoor
open Go.RowKit Go.ChangeShapes Go.WideShapes Go.ChangeAt
set_option linter.unusedVariables false
set_option linter.unusedSimpArgs false
set_option maxRecDepth 100000
structure Ou (S : Nat → Prop) (w w' : World) : Prop where
 os : w'.os = w.os
 tape : w'.tape = w.tape
 output : w'.output = w.output
 size : w.heap.size ≤ w'.heap.size
 block : ∀ k, k < w.heap.size → ¬ S k → w'.heap[k]? = w.heap[k]?
theorem Ou.refl (S : Nat → Prop) (w : World) : Ou S w w := ⟨rfl, rfl, rfl, Nat.le_refl _, fun _ _ _ => rfl⟩
theorem Ou.trans {S : Nat → Prop} {a b c : World} (h : Ou S a b) (k : Ou S b c) : Ou S a c :=
 ⟨k.os.trans h.os, k.tape.trans h.tape, k.output.trans h.output, Nat.le_trans h.size k.size, fun i hi hS => (k.block i (Nat.lt_of_lt_of_le hi h.size) hS).trans (h.block i hi hS)⟩
theorem Ou.mono {S T : Nat → Prop} {a b : World} (h : Ou S a b) (k : ∀ i, S i → T i) : Ou T a b := ⟨h.os, h.tape, h.output, h.size, fun i hi hS => h.block i hi fun e => hS (k i e)⟩
theorem Ou.of {S : Nat → Prop} {w w' : World} (h : Below w.heap.size w w') : Ou S w w' := ⟨h.os, h.tape, h.output, h.size, fun i hi _ => h.block i hi⟩
theorem Ou.below {S : Nat → Prop} {w w' : World} {B : Nat} (h : Ou S w w') (hB : B ≤ w.heap.size) (hS : ∀ k, S k → B ≤ k) : Below B w w' :=
 ⟨h.os, h.tape, h.output, h.size, fun i hi => h.block i (by omega) (fun e => by have := hS i e; omega)⟩
theorem Ou.alloc {S : Nat → Prop} {a w : World} (h : Ou S a w) (o : Obj) : Ou S a (w.alloc o) :=
 h.trans (Ou.of ((Below.refl _ _).alloc (Nat.le_refl _) o))
theorem Ou.drew {S : Nat → Prop} {a w : World} (h : Ou S a w) : Ou S a w.drew := ⟨h.os, h.tape, h.output, h.size, h.block⟩
theorem Ou.set {S : Nat → Prop} {a w : World} (h : Ou S a w) {g o : Nat} {v : Value} (hS : S g) : Ou S a (w.setCell ⟨g, o, none⟩ v) :=
 h.trans ⟨rfl, rfl, rfl, by simp [World.setCell], fun k hk hn => heap_setCell_other _ _ _ _ (fun e => hn (e ▸ hS))⟩
theorem Ou.drewN {S : Nat → Prop} {a w : World} (h : Ou S a w) (k : Nat) : Ou S a (w.drewN k) := ⟨h.os, h.tape, h.output, h.size, h.block⟩
end Go.Proofs.YtkokjkaclcjnjaaGreatDoor
namespace Go.Proofs.YtkokjkaclcjnjaaGreatDoor
open Go.RowKit Go.ChangeShapes Go.WideShapes Go.ChangeAt Go.Maps
set_option linter.unusedVariables false
set_option linter.unusedSimpArgs false
set_option maxRecDepth 100000
structure Enc (α : Type) where
 enc : α → Value
 rd : Value → Option (DataW α × List MemPlace)
 wr : ∀ a, rd (enc a) = some (.held a, [])
 inv : ∀ {v z}, rd v = some z → ∃ a, v = enc a ∧ z = (.held a, [])
def numR : Value → Option (DataW Int × List MemPlace)
 | .int .i64 x => some (.held x, [])
 | _ => none
def numE : Enc Int := ⟨fun x => .int .i64 x, numR, fun _ => rfl, fun {v z} h => by
 unfold numR at h
 split at h
 · cases h; exact ⟨_, rfl, rfl⟩
 · cases h⟩
theorem lawF : Keyed Tryz.prog 31 := int_keyed Tryz.underlying31
def kyF (i : Int) : Lit := .int .u32 i
theorem kyF_ne {i j : Int} (h : j ≠ i) : kyF j ≠ kyF i := fun e => h (by unfold kyF at e; cases e; rfl)
theorem keyF {i : Int} (h0 : 0 ≤ i) (h1 : i < 4294967296) : keyOf Tryz.prog 31 (.int .u32 i) = some (kyF i) :=
 keyOf_int_mk Tryz.underlying31 (by simp [Lit.wf, IntKind.min, IntKind.max, IntKind.signed, IntKind.bits]; omega)
theorem same_kyF {i j : Int} : (kyF i).sameKey (kyF j) = decide (i = j) := by simp [kyF, Lit.sameKey]
theorem keyLitF (i : Int) : WideAt.IsKeyLit (kyF i) := by unfold kyF; trivial
section
variable {α : Type}
def lookF (D : DataW α) (i : Int) : Option α :=
 if Maps.has D (kyF i) = true then (match D.atKey (kyF i) .nil with | .held s => some s | _ => none) else none
def updF (f : Int → Option α) (i : Int) (v : Option α) : Int → Option α := fun j => if j = i then v else f j
theorem entriesF (E : Enc α) {w : World} {b n : Nat} {D : DataW α} (h : w.ownsMap Tryz.prog 31 E.rd b n D) :
   ∃ es, D = .map es ∧ es.Pairwise (fun p q => p.1 ≠ q.1) ∧ (∀ p ∈ es, ∃ i s, p = (kyF i, .held s) ∧ 0 ≤ i ∧ i < 4294967296) := by
 obtain ⟨es0, e0, hpw, _⟩ := h.entries lawF
 refine ⟨es0, e0, hpw, ?_⟩
 obtain ⟨es, clock, hb, F, hs, hD⟩ := h
 rw [e0] at hD
 cases hD
 intro p hp
 rw [mem_sorted, List.mem_map] at hp
 obtain ⟨x, hx, rfl⟩ := hp
 obtain ⟨y, hy⟩ := F.reads x hx
 rw [WideElems.rg_of hy]
 have k1 := WideElems.rd_key hy
 obtain ⟨z, hz, e2⟩ := WideElems.rd_val hy
 obtain ⟨i, _, e3, hw⟩ := Maps.keyOf_int_inv Tryz.underlying31 k1
 obtain ⟨s, h2, h3⟩ := E.inv hz
 refine ⟨i, s, ?_, ?_⟩
 · obtain ⟨y1, y2⟩ := y
   simp only at e2 e3
   rw [e3, e2, h3]
   rfl
 · have := bd_u32 hw
   omega
theorem findF : ∀ {es : List (Lit × DataW α)}, es.Pairwise (fun p q => p.1 ≠ q.1) → ∀ {i : Int} {s : α}, (kyF i, DataW.held s) ∈ es → es.find? (fun p => p.1.sameKey (kyF i)) = some (kyF i, DataW.held s)
 | [], _, i, s, hm => by cases hm
 | x :: l, hp, i, s, hm => by
   rw [List.pairwise_cons] at hp
   rcases List.mem_cons.1 hm with rfl | hm'
   · simp [List.find?_cons, same_kyF]
   · have hne : x.1 ≠ kyF i := hp.1 _ hm'
     rw [List.find?_cons, Maps.sameKey_ne hne]
     exact findF hp.2 hm'
theorem has_memF {es : List (Lit × DataW α)} {i : Int} {s : α} (hm : (kyF i, DataW.held s) ∈ es) : Maps.has (.map es) (kyF i) = true := by
 rw [Maps.has_eq, List.any_eq_true]; exact ⟨_, hm, by simp [same_kyF]⟩
theorem at_memF {es : List (Lit × DataW α)} (hp : es.Pairwise (fun p q => p.1 ≠ q.1)) {i : Int} {s : α} (hm : (kyF i, DataW.held s) ∈ es) (z : DataW α) : DataW.atKey (.map es) (kyF i) z = .held s := by
 simp [DataW.atKey, findF hp hm]
theorem look_memF {es : List (Lit × DataW α)} (hp : es.Pairwise (fun p q => p.1 ≠ q.1)) {i : Int} {s : α} (hm : (kyF i, DataW.held s) ∈ es) : lookF (.map es) i = some s := by
 unfold lookF
 rw [if_pos (has_memF hm), at_memF hp hm]
theorem look_noneF {D : DataW α} {i : Int} (h : Maps.has D (kyF i) = false) : lookF D i = none := by unfold lookF; rw [if_neg (by simp [h])]
theorem look_atF (E : Enc α) {w : World} {b n : Nat} {D : DataW α} (h : w.ownsMap Tryz.prog 31 E.rd b n D) (i : Int) (z : α) : D.atKey (kyF i) (.held z) = .held ((lookF D i).getD z) ∧ Maps.has D (kyF i) = (lookF D i).isSome ∧ ∀ s, lookF D i = some s → 0 ≤ i ∧ i < 4294967296 := by
 obtain ⟨es, e, hp, hs⟩ := entriesF E h
 subst e
 cases hh : Maps.has (.map es) (kyF i) with
 | false => rw [Maps.atKey_of_not_has hh, look_noneF hh]; exact ⟨rfl, rfl, fun s e => by cases e⟩
 | true =>
   rw [Maps.has_eq, List.any_eq_true] at hh
   obtain ⟨p, hp1, hp2⟩ := hh
   obtain ⟨j, s, rfl, hj⟩ := hs p hp1
   rw [same_kyF] at hp2
   simp at hp2
   subst hp2
   rw [look_memF hp hp1, at_memF hp hp1]
   exact ⟨rfl, rfl, fun _ _ => hj⟩
theorem Maps.has_eq_look_of {E : Enc α} {w : World} {b n : Nat} {D : DataW α} (h : w.ownsMap Tryz.prog 31 E.rd b n D) (i : Int) : Maps.has D (kyF i) = (lookF D i).isSome := by
 cases hl : lookF D i with
 | none =>
   cases hh : Maps.has D (kyF i) with
   | false => rfl
   | true =>
     exfalso
     obtain ⟨es, e, hp, hs⟩ := entriesF E h
     subst e
     rw [Maps.has_eq, List.any_eq_true] at hh
     obtain ⟨p, hp1, hp2⟩ := hh
     obtain ⟨j, s, rfl, hj⟩ := hs p hp1
     rw [same_kyF] at hp2
     simp at hp2
     subst hp2
     rw [look_memF hp hp1] at hl
     cases hl
 | some s => have := (look_atF E h i s).2.1; rw [hl] at this; exact this
theorem look_putF {D : DataW α} (h : Maps.IsMap D) (i : Int) (s : α) (j : Int) : lookF (D.put (kyF i) (.held s)) j = updF (lookF D) i (some s) j := by
 unfold updF
 by_cases hj : j = i
 · subst hj
   rw [if_pos rfl]
   unfold lookF
   rw [Maps.has_put_same h (keyLitF _), if_pos rfl, Maps.atKey_put_same h (keyLitF _)]
 · rw [if_neg hj]
   unfold lookF
   rw [Maps.has_put_other (kyF_ne hj), Maps.atKey_put_other (kyF_ne hj)]
theorem look_delF {D : DataW α} (i : Int) (j : Int) : lookF (D.del (kyF i)) j = updF (lookF D) i none j := by
 unfold updF
 by_cases hj : j = i
 · subst hj
   rw [if_pos rfl, look_noneF Maps.has_del_same]
 · rw [if_neg hj]
   unfold lookF
   rw [Maps.has_del_other (kyF_ne hj), Maps.atKey_del_other (kyF_ne hj)]
def IsFm (E : Enc α) (w : World) (b m : Nat) (f : Int → Option α) : Prop := ∃ D, w.ownsMap Tryz.prog 31 E.rd b m D ∧ Maps.size D = m ∧ ∀ i, f i = lookF D i
theorem IsFm.lt {E : Enc α} {w : World} {b m : Nat} {f : Int → Option α} (h : IsFm E w b m f) : b < w.heap.size := by obtain ⟨D, ho, _⟩ := h; exact ho.lt
theorem IsFm.out {E : Enc α} {S : Nat → Prop} {w w' : World} {b m : Nat} {f : Int → Option α} (h : IsFm E w b m f) (ho : Ou S w w') (hS : ¬ S b) : IsFm E w' b m f := by
 have hl := h.lt
 obtain ⟨D, ⟨es, clock, hb, r⟩, hf⟩ := h
 exact ⟨D, ⟨es, clock, by rw [ho.block b hl hS]; exact hb, r⟩, hf⟩
theorem IsFm.keys {E : Enc α} {w : World} {b m : Nat} {f : Int → Option α} (h : IsFm E w b m f) {i : Int} {s : α} (hi : f i = some s) : 0 ≤ i ∧ i < 4294967296 := by
 obtain ⟨D, ho, _, hf⟩ := h
 exact (look_atF E ho i s).2.2 s (by rw [← hf i]; exact hi)
theorem IsFm.made (E : Enc α) (w : World) : IsFm E (w.alloc (.map #[] 0)) w.heap.size 0 (fun _ => none) :=
 ⟨.map [], World.ownsMap_made w Tryz.prog 31 E.rd, rfl, fun i => by simp [lookF, Maps.has]⟩
theorem Ou.turned {S : Nat → Prop} {w w' : World} {b : Nat} (h : w.mapTurned w' b) (hS : S b) : Ou S w w' :=
 have g := h.grown
 ⟨g.os, g.tape, g.output, g.size, fun i hi hn => g.block i hi (fun e => by cases e; exact hn hS)⟩
def addN (f : Int → Option α) (i : Int) (m : Nat) : Nat := if (f i).isSome then m else m + 1
def delN (f : Int → Option α) (i : Int) (m : Nat) : Nat := if (f i).isSome then m - 1 else m
theorem IsFm.look {E : Enc α} {w : World} {b m : Nat} {f : Int → Option α} (h : IsFm E w b m f) {tm te : TypeId} (ht : Tryz.prog.underlying tm = some (.map 31 te)) {z : α} (hz : ∀ w, (zeroValue te).run Tryz.prog w = .ok (E.enc z) w) {i : Int} (h0 : 0 ≤ i) (h1 : i < 4294967296) :
   (Instr.lookup tm (.map (some b)) (.int .u32 i) false).run Tryz.prog w = .ok (E.enc ((f i).getD z)) w := by
 obtain ⟨D, ho, _, hf⟩ := h
 obtain ⟨v, ps, hrun, hv⟩ := ho.lookup lawF ht (hz w) (E.wr z) (keyF h0 h1)
 obtain ⟨e1, _⟩ := look_atF E ho i z
 rw [e1] at hv
 obtain ⟨s, rfl, e3⟩ := E.inv hv
 cases e3
 rw [hf i]
 exact hrun
theorem IsFm.lookOk {E : Enc α} {w : World} {b m : Nat} {f : Int → Option α} (h : IsFm E w b m f) {tm te : TypeId} (ht : Tryz.prog.underlying tm = some (.map 31 te)) {z : α} (hz : ∀ w, (zeroValue te).run Tryz.prog w = .ok (E.enc z) w) {i : Int} (h0 : 0 ≤ i) (h1 : i < 4294967296) :
   (Instr.lookup tm (.map (some b)) (.int .u32 i) true).run Tryz.prog w = .ok (.tuple #[E.enc ((f i).getD z), .bool (f i).isSome]) w := by
 obtain ⟨D, ho, _, hf⟩ := h
 obtain ⟨v, ps, hrun, hv⟩ := ho.look_ok lawF ht (hz w) (E.wr z) (keyF h0 h1)
 obtain ⟨e1, e2, _⟩ := look_atF E ho i z
 rw [e1] at hv
 rw [e2] at hrun
 obtain ⟨s, rfl, e3⟩ := E.inv hv
 cases e3
 rw [hf i]
 exact hrun
theorem IsFm.len {E : Enc α} {w : World} {b m : Nat} {f : Int → Option α} (h : IsFm E w b m f) {tm te : TypeId} (ht : Tryz.prog.underlying tm = some (.map 31 te)) (ty : TypeId) : (Builtin.len_ #[tm] ty #[.map (some b)]).run Tryz.prog w = .ok (.int .i64 (m : Int)) w := by
 obtain ⟨D, ho, hs, hf⟩ := h
 have := ho.len ht ty
 rw [hs] at this
 exact this
theorem own_size {E : Enc α} {w : World} {b n : Nat} {D : DataW α} (h : w.ownsMap Tryz.prog 31 E.rd b n D) : w.ownsMap Tryz.prog 31 E.rd b (Maps.size D) D := by
 obtain ⟨es, clock, hb, F, hs, rfl⟩ := h
 exact ⟨es, clock, hb, F, by simp [Maps.size, length_sorted], rfl⟩
theorem IsFm.store {E : Enc α} {w : World} {b m : Nat} {f : Int → Option α} (h : IsFm E w b m f) (hm : m < 1000) {tm te : TypeId} (ht : Tryz.prog.underlying tm = some (.map 31 te)) {i : Int} (h0 : 0 ≤ i) (h1 : i < 4294967296) (s : α) :
   ∃ w', (Instr.mapUpdate tm (.map (some b)) (.int .u32 i) (E.enc s)).run Tryz.prog w = .ok () w' ∧ IsFm E w' b (addN f i m) (updF f i (some s)) ∧ w.mapTurned w' b := by
 obtain ⟨D, ho, hs, hf⟩ := h
 obtain ⟨w', hrun, ho', ht'⟩ := ho.store lawF ht (by unfold maxLen; omega) (keyF h0 h1) (E.wr s)
 refine ⟨w', hrun, ⟨D.put (kyF i) (.held s), ?_, ?_, fun j => ?_⟩, ht'⟩
 · have e : Maps.size (D.put (kyF i) (.held s)) = addN f i m := by
     rw [Maps.size_put (ho.tidy lawF)]
     unfold addN
     rw [(look_atF E ho i s).2.1, ← hf i, hs]
   rw [← e]
   exact own_size ho'
 · rw [Maps.size_put (ho.tidy lawF)]
   unfold addN
   rw [(look_atF E ho i s).2.1, ← hf i, hs]
 · rw [look_putF ho.isMap]; unfold updF; rw [hf]
theorem IsFm.drop {E : Enc α} {w : World} {b m : Nat} {f : Int → Option α} (h : IsFm E w b m f) {tm te : TypeId} (ht : Tryz.prog.underlying tm = some (.map 31 te)) {i : Int} (h0 : 0 ≤ i) (h1 : i < 4294967296) (ty : TypeId) :
   ∃ w', (Builtin.delete_ #[tm, 31] ty #[.map (some b), .int .u32 i]).run Tryz.prog w = .ok (.tuple #[]) w' ∧ IsFm E w' b (delN f i m) (updF f i none) ∧ w.mapTurned w' b := by
 obtain ⟨D, ho, hs, hf⟩ := h
 obtain ⟨w', hrun, ho', ht'⟩ := ho.drop lawF ht (keyF h0 h1) ty
 have e : Maps.size (D.del (kyF i)) = delN f i m := by
   have e1 := Maps.size_del (k := kyF i) (ho.tidy lawF)
   unfold delN
   cases hh : (f i).isSome with
   | true =>
     have h2 : Maps.has D (kyF i) = true := by
       rw [Maps.has_eq_look_of (E := E) ho i, ← hf i]; exact hh
     rw [h2] at e1
     simp at e1 ⊢
     omega
   | false =>
     have h2 : Maps.has D (kyF i) = false := by
       rw [Maps.has_eq_look_of (E := E) ho i, ← hf i]; exact hh
     rw [h2] at e1
     simp at e1 ⊢
     omega
 refine ⟨w', hrun, ⟨D.del (kyF i), ?_, e, fun j => ?_⟩, ht'⟩
 · rw [← e]; exact own_size ho'
 · rw [look_delF]; unfold updF; rw [hf]
end
end Go.Proofs.YtkokjkaclcjnjaaGreatDoor
