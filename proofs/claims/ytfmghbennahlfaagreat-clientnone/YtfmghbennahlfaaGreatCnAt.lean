/-
  
-/
import Derived.Test.YtfmghbennahlfaaGreatCnAa
import Derived.Maps.RangeWalk
import Derived.Maps.OwnSet
import Derived.Stop.BytesEq
import Derived.Laws.Rows
import Derived.Deep.RegionHeld3
import Derived.Deep.MidRow
import Derived.Deep.WholeRow
import Derived.Laws.ResultCell
namespace Go.Proofs.YtfmghbennahlfaaGreat
open Go.RowKit Go.ChangeShapes Go.WideShapes Go.ChangeAt Go.Maps
set_option linter.unusedVariables false
set_option linter.unusedSimpArgs false
abbrev Sec := List Int
def IsSec (s : Sec) : Prop := s.length = 32 ∧ ∀ x ∈ s, 0 ≤ x ∧ x < 256
def by8 (x : Int) : Value := .int .u8 x
def secV (s : Sec) : Value := .agg (s.map by8).toArray
def zsec : Sec := List.replicate 32 0
theorem zsec_is : IsSec zsec := ⟨by simp [zsec], fun x hx => by have := List.eq_of_mem_replicate hx; omega⟩
def num8 : Value → Int | .int _ x => x | _ => 0
def is8 : Value → Bool | .int .u8 x => decide (0 ≤ x ∧ x < 256) | _ => false
def secR : Value → Option (DataW Sec × List MemPlace)
 | .agg cs => if cs.size = 32 ∧ cs.toList.all is8 = true then some (.held (cs.toList.map num8), []) else none
 | _ => none
theorem is8_by {v : Value} (h : is8 v = true) : v = by8 (num8 v) ∧ 0 ≤ num8 v ∧ num8 v < 256 := by
 unfold is8 at h
 split at h
 · simp at h; exact ⟨rfl, h.1, h.2⟩
 · cases h
theorem secR_mk {s : Sec} (h : IsSec s) : secR (secV s) = some (.held s, []) := by
 unfold secR secV
 have h1 : (s.map by8).all is8 = true := by
   rw [List.all_eq_true]
   intro v hv
   obtain ⟨x, hx, rfl⟩ := List.mem_map.1 hv
   have := h.2 x hx
   simp [by8, is8, this]
 have h2 : (s.map by8).map num8 = s := by
   rw [List.map_map]
   conv => rhs; rw [← List.map_id s]
   exact List.map_congr_left fun x _ => rfl
 simp only [List.size_toArray, List.length_map, h.1, true_and]
 rw [if_pos h1]
 simp only [h2]
theorem secR_inv {v : Value} {z : DataW Sec × List MemPlace} (h : secR v = some z) : ∃ s, IsSec s ∧ v = secV s ∧ z = (.held s, []) := by
 unfold secR at h
 split at h
 · rename_i cs
   split at h
   · rename_i hc
     cases h
     refine ⟨cs.toList.map num8, ⟨by simp [hc.1], fun x hx => ?_⟩, ?_, rfl⟩
     · obtain ⟨u, hu, rfl⟩ := List.mem_map.1 hx
       exact (is8_by (List.all_eq_true.1 hc.2 u hu)).2
     · unfold secV
       rw [List.map_map]
       have : cs.toList.map (by8 ∘ num8) = cs.toList := by
         conv => rhs; rw [← List.map_id cs.toList]
         exact List.map_congr_left fun u hu => ((is8_by (List.all_eq_true.1 hc.2 u hu)).1).symm
       rw [this]
   · cases h
 · cases h
theorem secV_one (s : Sec) : ((s.map by8).toArray).all (·.oneCell') = true := by
 rw [Array.all_eq_true_iff_forall_mem]
 intro v hv
 have hv' : v ∈ s.map by8 := by simpa using hv
 obtain ⟨x, _, rfl⟩ := List.mem_map.1 hv'
 rfl
theorem secEq {P : Program} (w : World) (t e : TypeId) (ht : P.underlying t = some (.array 32 e)) (he : P.underlying e = some (.int .u8)) (hsz : ∀ w, (sizeOf e).run P w = .ok 1 w)
   {s u : Sec} (hs : IsSec s) (hu : IsSec u) : (binOp .eql t (secV s) (secV u)).run P w = .ok (.bool (s == u)) w := by
 have key : ∀ l : Sec, IsSec l → secV l = .agg ((l.map fun x => x.toNat.toUInt8).map Extern.Stop.cell).toArray := by
   intro l hl
   unfold secV
   rw [List.map_map]
   congr 2
   apply List.map_congr_left
   intro x hx
   have := hl.2 x hx
   simp only [by8, Function.comp, Extern.Stop.cell]
   congr 1
   simp
   omega
 rw [key s hs, key u hu, run_eql_bytes w t e 32 ht he hsz _ _ (by simp [hs.1]) (by simp [hu.1])]
 congr 2
 rw [Bool.eq_iff_iff]
 simp only [beq_iff_eq]
 constructor
 · intro h
   have h2 := congrArg (List.map (fun b : UInt8 => (b.toNat : Int))) h
   rw [List.map_map, List.map_map] at h2
   have e : ∀ l : Sec, IsSec l → l.map ((fun b : UInt8 => (b.toNat : Int)) ∘ fun x => x.toNat.toUInt8) = l := fun l hl => by
     conv => rhs; rw [← List.map_id l]
     apply List.map_congr_left
     intro x hx
     have := hl.2 x hx
     simp
     omega
   rwa [e s hs, e u hu] at h2
 · intro h; rw [h]
theorem law3 : Keyed Tryz.prog 3 := int_keyed Tryz.underlying3
theorem zeroS (w : World) : (zeroValue 260).run Tryz.prog w = .ok (secV zsec) w := by
 have h : (Tryz.prog.info? 260).map (fun i => i.zero) = some (some (secV zsec)) := by kernel_rfl
 cases hi : Tryz.prog.info? 260 with
 | none => rw [hi] at h; cases h
 | some i => rw [hi] at h; simp at h; simp [zeroValue, typeInfo, hi, h]
theorem sizeS : (Tryz.prog.info? 260).map (·.size) = some 32 := by kernel_rfl
theorem zlit : (#[.int .u8 0, .int .u8 0, .int .u8 0, .int .u8 0, .int .u8 0, .int .u8 0, .int .u8 0, .int .u8 0, .int .u8 0, .int .u8 0, .int .u8 0, .int .u8 0, .int .u8 0, .int .u8 0, .int .u8 0, .int .u8 0, .int .u8 0, .int .u8 0, .int .u8 0, .int .u8 0, .int .u8 0, .int .u8 0, .int .u8 0, .int .u8 0, .int .u8 0, .int .u8 0, .int .u8 0, .int .u8 0, .int .u8 0, .int .u8 0, .int .u8 0, .int .u8 0] : Array Value) = (zsec.map by8).toArray := rfl
def ky (i : Int) : Lit := .int .i64 i
def look (D : DataW Sec) (i : Int) : Option Sec :=
 if Maps.has D (ky i) = true then (match D.atKey (ky i) .nil with | .held s => some s | _ => none) else none
def upd (f : Int → Option Sec) (i : Int) (v : Option Sec) : Int → Option Sec := fun j => if j = i then v else f j
theorem ky_ne {i j : Int} (h : j ≠ i) : ky j ≠ ky i := fun e => h (by unfold ky at e; cases e; rfl)
theorem few_keys : ∀ (n : Nat) (l : List Int), l.Pairwise (· ≠ ·) → (∀ x ∈ l, 0 ≤ x ∧ x < n) → l.length ≤ n
 | 0, l, _, h => by
   cases l with
   | nil => simp
   | cons x l => have := h x (by simp); omega
 | n + 1, l, hp, h => by
   have h1 := few_keys n (l.filter fun x => decide (x ≠ (n : Int))) (hp.filter _) (fun x hx => by
     obtain ⟨hx1, hx2⟩ := List.mem_filter.1 hx
     have h3 := h x hx1
     simp at hx2
     omega)
   have h2 : ∀ l : List Int, l.Pairwise (· ≠ ·) → l.length ≤ (l.filter fun x => decide (x ≠ (n : Int))).length + 1 := by
     intro l
     induction l with
     | nil => simp
     | cons x l ih =>
       intro hq
       rw [List.pairwise_cons] at hq
       by_cases hx : x = (n : Int)
       · subst hx
         have : l.filter (fun x => decide (x ≠ (n : Int))) = l := List.filter_eq_self.2 fun y hy => by simpa using (hq.1 y hy).symm
         rw [List.filter_cons_of_neg (by simp), this]
         simp
       · have := ih hq.2
         rw [List.filter_cons_of_pos (by simpa using hx)]
         simp only [List.length_cons]
         omega
   have := h2 l hp
   omega
def kyNum : Lit → Int | .int _ x => x | _ => 0
def IsM (w : World) (b N : Nat) (f : Int → Option Sec) : Prop :=
 (∃ D, w.ownsMap Tryz.prog 3 secR b N D ∧ ∀ i, f i = look D i) ∧ ∀ i s, f i = some s → IsSec s ∧ 0 ≤ i ∧ i < N
theorem own_entries {w : World} {b n : Nat} {D : DataW Sec} (h : w.ownsMap Tryz.prog 3 secR b n D) :
   ∃ es, D = .map es ∧ es.Pairwise (fun p q => p.1 ≠ q.1) ∧ (∀ p ∈ es, ∃ i s, p = (ky i, .held s) ∧ IsSec s) := by
 obtain ⟨es0, e0, hpw, _⟩ := h.entries law3
 refine ⟨es0, e0, hpw, ?_⟩
 obtain ⟨es, clock, hb, F, hs, hD⟩ := h
 rw [e0] at hD
 cases hD
 intro p hp
 rw [mem_sorted, List.mem_map] at hp
 obtain ⟨x, hx, rfl⟩ := hp
 obtain ⟨y, hy⟩ := F.reads x hx
 rw [WideElems.rg_of hy]
 have k1 := WideElems.rd_key hy
 obtain ⟨z, hz, e2⟩ := WideElems.rd_val hy
 obtain ⟨i, _, e3, _⟩ := Maps.keyOf_int_inv Tryz.underlying3 k1
 obtain ⟨s, h1, h2, h3⟩ := secR_inv hz
 refine ⟨i, s, ?_, h1⟩
 obtain ⟨y1, y2⟩ := y
 simp only at e2 e3
 rw [e3, e2, h3]
 rfl
theorem same_ky {i j : Int} : (ky i).sameKey (ky j) = decide (i = j) := by simp [ky, Lit.sameKey]
theorem find_mem : ∀ {es : List (Lit × DataW Sec)}, es.Pairwise (fun p q => p.1 ≠ q.1) → ∀ {i : Int} {s : Sec}, (ky i, DataW.held s) ∈ es → es.find? (fun p => p.1.sameKey (ky i)) = some (ky i, DataW.held s)
 | [], _, i, s, hm => by cases hm
 | x :: l, hp, i, s, hm => by
   rw [List.pairwise_cons] at hp
   rcases List.mem_cons.1 hm with rfl | hm'
   · simp [List.find?_cons, same_ky]
   · have hne : x.1 ≠ ky i := hp.1 _ hm'
     rw [List.find?_cons, Maps.sameKey_ne hne]
     exact find_mem hp.2 hm'
theorem has_mem {es : List (Lit × DataW Sec)} {i : Int} {s : Sec} (hm : (ky i, DataW.held s) ∈ es) : Maps.has (.map es) (ky i) = true := by
 rw [Maps.has_eq, List.any_eq_true]; exact ⟨_, hm, by simp [same_ky]⟩
theorem at_mem {es : List (Lit × DataW Sec)} (hp : es.Pairwise (fun p q => p.1 ≠ q.1)) {i : Int} {s : Sec} (hm : (ky i, DataW.held s) ∈ es) (z : DataW Sec) : DataW.atKey (.map es) (ky i) z = .held s := by
 simp [DataW.atKey, find_mem hp hm]
theorem look_mem {es : List (Lit × DataW Sec)} (hp : es.Pairwise (fun p q => p.1 ≠ q.1)) {i : Int} {s : Sec} (hm : (ky i, DataW.held s) ∈ es) : look (.map es) i = some s := by
 unfold look
 rw [if_pos (has_mem hm), at_mem hp hm]
theorem own_few {w : World} {b n N : Nat} {D : DataW Sec} (h : w.ownsMap Tryz.prog 3 secR b n D) (hk : ∀ i s, look D i = some s → 0 ≤ i ∧ i < N) : w.ownsMap Tryz.prog 3 secR b N D := by
 obtain ⟨es, e, hp, hs⟩ := own_entries h
 subst e
 have h1 : es.length ≤ N := by
   have := few_keys N (es.map fun p => kyNum p.1) (by
     rw [List.pairwise_map]
     refine hp.imp_of_mem fun {a c} ha hc hne => ?_
     obtain ⟨i, s, rfl, _⟩ := hs a ha
     obtain ⟨j, u, rfl, _⟩ := hs c hc
     intro e
     apply hne
     have : i = j := e
     rw [this]) (fun x hx => by
     obtain ⟨p, hp1, rfl⟩ := List.mem_map.1 hx
     obtain ⟨i, s, rfl, _⟩ := hs p hp1
     exact hk i s (look_mem hp hp1))
   simpa using this
 obtain ⟨es', clock, hb, F, hs', hD⟩ := h
 refine ⟨es', clock, hb, F, ?_, hD⟩
 have : es.length = es'.size := by
   cases hD
   rw [length_read]
 omega
theorem look_none {D : DataW Sec} {i : Int} (h : Maps.has D (ky i) = false) : look D i = none := by unfold look; rw [if_neg (by simp [h])]
theorem look_at {w : World} {b n : Nat} {D : DataW Sec} (h : w.ownsMap Tryz.prog 3 secR b n D) (i : Int) (z : Sec) : D.atKey (ky i) (.held z) = .held ((look D i).getD z) ∧ Maps.has D (ky i) = (look D i).isSome := by
 obtain ⟨es, e, hp, hs⟩ := own_entries h
 subst e
 cases hh : Maps.has (.map es) (ky i) with
 | false => rw [Maps.atKey_of_not_has hh, look_none hh]; exact ⟨rfl, rfl⟩
 | true =>
   rw [Maps.has_eq, List.any_eq_true] at hh
   obtain ⟨p, hp1, hp2⟩ := hh
   obtain ⟨j, s, rfl, _⟩ := hs p hp1
   rw [same_ky] at hp2
   simp at hp2
   subst hp2
   rw [look_mem hp hp1, at_mem hp hp1]
   exact ⟨rfl, rfl⟩
theorem keyLit (i : Int) : WideAt.IsKeyLit (ky i) := by unfold ky; trivial
theorem look_put {D : DataW Sec} (h : Maps.IsMap D) (i : Int) (s : Sec) (j : Int) : look (D.put (ky i) (.held s)) j = upd (look D) i (some s) j := by
 unfold upd
 by_cases hj : j = i
 · subst hj
   rw [if_pos rfl]
   unfold look
   rw [Maps.has_put_same h (keyLit _), if_pos rfl, Maps.atKey_put_same h (keyLit _)]
 · rw [if_neg hj]
   unfold look
   rw [Maps.has_put_other (ky_ne hj), Maps.atKey_put_other (ky_ne hj)]
theorem look_del {D : DataW Sec} (i : Int) (j : Int) : look (D.del (ky i)) j = upd (look D) i none j := by
 unfold upd
 by_cases hj : j = i
 · subst hj
   rw [if_pos rfl, look_none Maps.has_del_same]
 · rw [if_neg hj]
   unfold look
   rw [Maps.has_del_other (ky_ne hj), Maps.atKey_del_other (ky_ne hj)]
theorem key3 {i : Int} (h0 : -9223372036854775808 ≤ i) (h1 : i < 9223372036854775808) : keyOf Tryz.prog 3 (.int .i64 i) = some (ky i) :=
 keyOf_int_mk Tryz.underlying3 (by simp [Lit.wf, IntKind.min, IntKind.max, IntKind.signed, IntKind.bits]; omega)
end Go.Proofs.YtfmghbennahlfaaGreat
namespace Go.Proofs.YtfmghbennahlfaaGreat
open Go.RowKit Go.ChangeShapes Go.WideShapes Go.ChangeAt Go.Maps
set_option linter.unusedVariables false
set_option linter.unusedSimpArgs false
structure Out (S : Nat → Prop) (w w' : World) : Prop where
 os : w'.os = w.os
 tape : w'.tape = w.tape
 output : w'.output = w.output
 size : w.heap.size ≤ w'.heap.size
 block : ∀ k, k < w.heap.size → ¬ S k → w'.heap[k]? = w.heap[k]?
theorem Out.refl (S : Nat → Prop) (w : World) : Out S w w := ⟨rfl, rfl, rfl, Nat.le_refl _, fun _ _ _ => rfl⟩
theorem Out.trans {S : Nat → Prop} {a b c : World} (h : Out S a b) (k : Out S b c) : Out S a c :=
 ⟨k.os.trans h.os, k.tape.trans h.tape, k.output.trans h.output, Nat.le_trans h.size k.size, fun i hi hS => (k.block i (Nat.lt_of_lt_of_le hi h.size) hS).trans (h.block i hi hS)⟩
theorem Out.mono {S T : Nat → Prop} {a b : World} (h : Out S a b) (k : ∀ i, S i → T i) : Out T a b := ⟨h.os, h.tape, h.output, h.size, fun i hi hS => h.block i hi fun e => hS (k i e)⟩
theorem Out.of {S : Nat → Prop} {w w' : World} (h : Below w.heap.size w w') : Out S w w' := ⟨h.os, h.tape, h.output, h.size, fun i hi _ => h.block i hi⟩
theorem Out.below {S : Nat → Prop} {w w' : World} {B : Nat} (h : Out S w w') (hB : B ≤ w.heap.size) (hS : ∀ k, S k → B ≤ k) : Below B w w' :=
 ⟨h.os, h.tape, h.output, h.size, fun i hi => h.block i (by omega) (fun e => by have := hS i e; omega)⟩
theorem Out.alloc {S : Nat → Prop} {a w : World} (h : Out S a w) (o : Obj) : Out S a (w.alloc o) :=
 h.trans (Out.of ((Below.refl _ _).alloc (Nat.le_refl _) o))
theorem Out.turned {S : Nat → Prop} {w w' : World} {b : Nat} (h : w.mapTurned w' b) (hS : S b) : Out S w w' :=
 have g := h.grown
 ⟨g.os, g.tape, g.output, g.size, fun i hi hn => g.block i hi (fun e => by cases e; exact hn hS)⟩
theorem Out.grown {S : Nat → Prop} {w w' : World} {row : Option Nat} (g : w.grownBy w' row) (hS : ∀ k, row = some k → S k) : Out S w w' :=
 ⟨g.os, g.tape, g.output, g.size, fun i hi hn => g.block i hi (fun e => hn (hS i e.symm))⟩
theorem Out.drew {S : Nat → Prop} {a w : World} (h : Out S a w) : Out S a w.drew := ⟨h.os, h.tape, h.output, h.size, h.block⟩
theorem lt_blk {w : World} {g : Nat} {o : Obj} (h : w.heap[g]? = some o) : g < w.heap.size := by
 have := (Array.getElem?_eq_some_iff.1 h).1; exact this
theorem IsM.lt {w : World} {b N : Nat} {f : Int → Option Sec} (h : IsM w b N f) : b < w.heap.size := by
 obtain ⟨⟨D, ho, _⟩, _⟩ := h; exact ho.lt
theorem IsM.out {S : Nat → Prop} {w w' : World} {b N : Nat} {f : Int → Option Sec} (h : IsM w b N f) (ho : Out S w w') (hS : ¬ S b) : IsM w' b N f := by
 have hl := h.lt
 obtain ⟨⟨D, ⟨es, clock, hb, r⟩, hf⟩, h2⟩ := h
 exact ⟨⟨D, ⟨es, clock, by rw [ho.block b hl hS]; exact hb, r⟩, hf⟩, h2⟩
theorem ranges_out {S : Nat → Prop} {w w' : World} {b r n : Nat} {D : DataW Sec} {left : Lit → Bool} {cnt : Nat} (h : w.ranges Tryz.prog 3 secR b r n D left cnt) (ho : Out S w w') (hb : ¬ S b) (hr : ¬ S r) :
   w'.ranges Tryz.prog 3 secR b r n D left cnt := by
 have l1 := h.owns.lt
 have l2 := h.lt
 obtain ⟨es, clock, since, seen, c0, e1, F, s1, e2, e3, q⟩ := h
 exact ⟨es, clock, since, seen, c0, by rw [ho.block b l1 hb]; exact e1, F, s1, e2, by rw [ho.block r l2 hr]; exact e3, q⟩
theorem IsM.made (w : World) (N : Nat) : IsM (w.alloc (.map #[] 0)) w.heap.size N (fun _ => none) :=
 ⟨⟨.map [], (World.ownsMap_made w Tryz.prog 3 secR).mono (Nat.zero_le _), fun i => by simp [look, Maps.has]⟩, fun i s h => by cases h⟩
theorem bd_key {i : Int} {N : Nat} (h0 : 0 ≤ i) (h1 : i < N) (hN : N ≤ 2048) : -9223372036854775808 ≤ i ∧ i < 9223372036854775808 := by omega
theorem IsM.store {w : World} {b N : Nat} {f : Int → Option Sec} (h : IsM w b N f) {i : Int} (h0 : 0 ≤ i) (h1 : i < N) (hN : N ≤ 2048) {s : Sec} (hs : IsSec s) :
   ∃ w', (Instr.mapUpdate 122 (.map (some b)) (.int .i64 i) (secV s)).run Tryz.prog w = .ok () w' ∧ IsM w' b N (upd f i (some s)) ∧ w.mapTurned w' b := by
 obtain ⟨⟨D, ho, hf⟩, h2⟩ := h
 have hb := bd_key h0 h1 hN
 obtain ⟨w', hrun, ho', ht⟩ := ho.store law3 Tryz.underlying122 (by unfold maxLen; omega) (key3 hb.1 hb.2) (secR_mk hs)
 have h3 : ∀ j u, upd f i (some s) j = some u → IsSec u ∧ 0 ≤ j ∧ j < N := by
   intro j u hu
   unfold upd at hu
   split at hu
   · rename_i e; have e2 := Option.some.inj hu; rw [e, ← e2]; exact ⟨hs, h0, h1⟩
   · exact h2 j u hu
 have h4 : ∀ j, upd f i (some s) j = look (D.put (ky i) (.held s)) j := fun j => by
   rw [look_put ho.isMap]; unfold upd; rw [hf]
 exact ⟨w', hrun, ⟨⟨_, own_few ho' (fun j u hu => (h3 j u (by rw [h4]; exact hu)).2), h4⟩, h3⟩, ht⟩
theorem IsM.drop {w : World} {b N : Nat} {f : Int → Option Sec} (h : IsM w b N f) {i : Int} (h0 : -9223372036854775808 ≤ i) (h1 : i < 9223372036854775808) (ty : TypeId) :
   ∃ w', (Builtin.delete_ #[122, 3] ty #[.map (some b), .int .i64 i]).run Tryz.prog w = .ok (.tuple #[]) w' ∧ IsM w' b N (upd f i none) ∧ w.mapTurned w' b ∧
     ∀ r n D left cnt, w.ranges Tryz.prog 3 secR b r n D left cnt → ∃ cnt', w'.ranges Tryz.prog 3 secR b r n (D.del (ky i)) (fun z => left z && !z.sameKey (ky i)) cnt' ∧ cnt' ≤ cnt := by
 obtain ⟨⟨D, ho, hf⟩, h2⟩ := h
 obtain ⟨w', hrun, ho', ht⟩ := ho.drop law3 Tryz.underlying122 (key3 h0 h1) ty
 refine ⟨w', hrun, ⟨⟨_, ho', fun j => ?_⟩, fun j u hu => ?_⟩, ht, fun r n D' left cnt hr => ?_⟩
 · rw [look_del]; unfold upd; rw [hf]
 · unfold upd at hu
   split at hu
   · cases hu
   · exact h2 j u hu
 · obtain ⟨w2, cnt', hrun2, r1, r2, _⟩ := hr.drop law3 Tryz.underlying122 (key3 h0 h1) ty
   rw [hrun] at hrun2
   cases hrun2
   exact ⟨cnt', r1, r2⟩
section
variable (w : World) {ops : Array Oper} {rest : List Oper} {o : Oper} {a : Act} {Q : Exit → Act → World → Prop}
theorem wpList_look_ok (hg : o.guard = none) (m x : Operand) (hop : o.op = Op.lookup 122 m x true) (b N : Nat) (f : Int → Option Sec) (hm : a.eval m = .map (some b)) (h : IsM w b N f)
   (i : Int) (hx : a.eval x = .int .i64 i) (h0 : -9223372036854775808 ≤ i) (h1 : i < 9223372036854775808)
   (hK : wpList Tryz.prog ops Q rest (a.put o.dst (.tuple #[secV ((f i).getD zsec), .bool (f i).isSome])) w) : wpList Tryz.prog ops Q (o :: rest) a w := by
 obtain ⟨⟨D, ho, hf⟩, _⟩ := h
 refine wpList_lookup_own_ok w hg m x 122 hop 3 260 law3 Tryz.underlying122 secR (zeroS w) (.held zsec) [] (secR_mk zsec_is) b N D hm ho _ (ky i) hx (key3 h0 h1) ?_
 intro v ps hv
 obtain ⟨e1, e2⟩ := look_at ho i zsec
 rw [e1] at hv
 obtain ⟨s, _, rfl, e3⟩ := secR_inv hv
 cases e3
 rw [e2, ← hf i]
 exact hK
theorem wpList_look (hg : o.guard = none) (m x : Operand) (hop : o.op = Op.lookup 122 m x false) (b N : Nat) (f : Int → Option Sec) (hm : a.eval m = .map (some b)) (h : IsM w b N f)
   (i : Int) (hx : a.eval x = .int .i64 i) (h0 : -9223372036854775808 ≤ i) (h1 : i < 9223372036854775808)
   (hK : wpList Tryz.prog ops Q rest (a.put o.dst (secV ((f i).getD zsec))) w) : wpList Tryz.prog ops Q (o :: rest) a w := by
 obtain ⟨⟨D, ho, hf⟩, _⟩ := h
 obtain ⟨v, ps, hrun, hv⟩ := ho.lookup law3 Tryz.underlying122 (zeroS w) (secR_mk zsec_is) (key3 h0 h1)
 obtain ⟨e1, e2⟩ := look_at ho i zsec
 rw [e1] at hv
 obtain ⟨s, _, rfl, e3⟩ := secR_inv hv
 cases e3
 refine wpList_plain hg fun K' hK' => ?_
 unfold Oper.wp
 simp only [execOp, hop, hm, hx, Sem.run_bind, hrun, Result.andThen, Sem.run_pure]
 rw [← hf i]
 exact hK' _ _ hK
theorem wpList_drop (hg : o.guard = none) (m x : Operand) (hop : o.op = Op.call { callee := Callee.builtin Builtin.delete, args := #[m, x], argTypes := #[122, 3] }) (b N : Nat) (f : Int → Option Sec) (hm : a.eval m = .map (some b)) (h : IsM w b N f)
   (i : Int) (hx : a.eval x = .int .i64 i) (h0 : -9223372036854775808 ≤ i) (h1 : i < 9223372036854775808)
   (hK : ∀ w', IsM w' b N (upd f i none) → w.mapTurned w' b →
     (∀ r n D left cnt, w.ranges Tryz.prog 3 secR b r n D left cnt → ∃ cnt', w'.ranges Tryz.prog 3 secR b r n (D.del (ky i)) (fun z => left z && !z.sameKey (ky i)) cnt' ∧ cnt' ≤ cnt) → wpList Tryz.prog ops Q rest (a.put o.dst (.tuple #[])) w') :
   wpList Tryz.prog ops Q (o :: rest) a w := by
 refine wpList_plain hg fun K' hK' => ?_
 obtain ⟨w', hrun, r1, r2, r3⟩ := h.drop h0 h1 o.type
 unfold Oper.wp
 simp [execOp, hop, resolve, invoke, builtin, hm, hx, hrun, Result.andThen]
 exact hK' _ _ (hK w' r1 r2 r3)
theorem wpList_storeS (hg : o.guard = none) (x y : Operand) (T : TypeId) (hop : o.op = .store T x y) (hT : (Tryz.prog.info? T).map (·.size) = some 32) (H : Nat) (hx : a.eval x = .pointer (some ⟨H, 0, none⟩)) (hH : w.heap.size = H) (s : Sec) (hy : a.eval y = secV s) (hs : s.length = 32)
   (c : Array Value) (hc : c.size = 32) (h : wpList Tryz.prog ops Q rest (a.put o.dst undef) (w.alloc (.cells (s.map by8).toArray T))) : wpList Tryz.prog ops Q (o :: rest) a (w.alloc (.cells c T)) := by
 subst hH
 refine wpList_store_row hg T x y hop w.heap.size (s.map by8).toArray hx hy T c (heap_alloc_new w _) (by rw [hT]; simp [hs]) (by simp [hs, hc]) (secV_one s) ?_
 rw [World.setRow_alloc_new]
 exact h
theorem wpList_loadS (hg : o.guard = none) (x : Operand) (T : TypeId) (hop : o.op = .load T x) (hT : (Tryz.prog.info? T).map (·.size) = some 32) {e : TypeId} (hu : Tryz.prog.underlying T = some (.array 32 e)) (g : Nat) (hx : a.eval x = .pointer (some ⟨g, 0, none⟩)) (s : Sec) (hs : s.length = 32)
   (t : TypeId) (fr : Nat × Nat) (hb : w.heap[g]? = some (.cells (s.map by8).toArray t fr)) (h : wpList Tryz.prog ops Q rest (a.put o.dst (secV s)) w) : wpList Tryz.prog ops Q (o :: rest) a w :=
 wpList_load_row hg T x hop g hx t (s.map by8).toArray fr _ hb hu rfl (by rw [hT]; simp [hs]) h
end
def IsD (w : World) (d b1 b2 N : Nat) (on : Int → Sec) (c : Int → Option Sec) : Prop :=
 w.heap[d]? = some (.cells #[.int .i64 N, .map (some b1), .map (some b2)] 124 (0, 0)) ∧ b1 ≠ b2 ∧ 1 ≤ N ∧ N ≤ 2048 ∧ IsM w b2 N c ∧ ∃ m, IsM w b1 N m ∧ ∀ i, on i = (m i).getD zsec
theorem IsD.out {S : Nat → Prop} {w w' : World} {d b1 b2 N : Nat} {on : Int → Sec} {c : Int → Option Sec} (h : IsD w d b1 b2 N on c) (ho : Out S w w') (hd : ¬ S d) (h1 : ¬ S b1) (h2 : ¬ S b2) : IsD w' d b1 b2 N on c := by
 obtain ⟨e, ne, n1, n2, hc, m, hm, he⟩ := h
 exact ⟨by rw [ho.block d (lt_blk e) hd]; exact e, ne, n1, n2, hc.out ho h2, m, hm.out ho h1, he⟩
theorem IsD.later {w w' : World} {d b1 b2 N : Nat} {on : Int → Sec} {c : Int → Option Sec} (h : IsD w d b1 b2 N on c) (hb : Below w.heap.size w w') : IsD w' d b1 b2 N on c :=
 h.out (S := fun _ => False) (Out.of hb) id id id
theorem IsD.cells {w : World} {d b1 b2 N : Nat} {on : Int → Sec} {c : Int → Option Sec} (h : IsD w d b1 b2 N on c) :
   w.cell? ⟨d, 0, none⟩ = some (.int .i64 N) ∧ w.cell? ⟨d, 1, none⟩ = some (.map (some b1)) ∧ w.cell? ⟨d, 2, none⟩ = some (.map (some b2)) ∧ d < w.heap.size ∧ b1 < w.heap.size ∧ b2 < w.heap.size ∧ d ≠ b1 ∧ d ≠ b2 ∧ b1 ≠ b2 := by
 obtain ⟨e, ne, n1, n2, hc, m, hm, he⟩ := h
 refine ⟨by simp [World.cell?, e], by simp [World.cell?, e], by simp [World.cell?, e], lt_blk e, hm.lt, hc.lt, ?_, ?_, ne⟩
 · intro h
   obtain ⟨⟨D, ⟨es, clock, hb, _⟩, _⟩, _⟩ := hm
   rw [← h, e] at hb; cases hb
 · intro h
   obtain ⟨⟨D, ⟨es, clock, hb, _⟩, _⟩, _⟩ := hc
   rw [← h, e] at hb; cases hb
theorem range_sec {w : World} {g : Nat} {s : Sec} {t : TypeId} {fr : Nat × Nat} (h : w.heap[g]? = some (.cells (s.map by8).toArray t fr)) : w.rangeAt g 0 (s.map by8) := fun j v hv => by
 rw [Nat.zero_add, cell_of_row _ _ _ _ _ _ h]; simpa using hv
abbrev pD (d : Nat) : Value := .pointer (some ⟨d, 0, none⟩)
def faultB (N : Nat) (i : Int) : Int := if 0 ≤ i ∧ i < N then 0 else 2
set_option maxHeartbeats 400000 in
theorem fault_c {w : World} {d b1 b2 N : Nat} {on : Int → Sec} {c : Int → Option Sec} (h : IsD w d b1 b2 N on c) (i : Int) : Calls Tryz.prog 263 #[pD d, .int .i64 i] w fun e w' => e = .returned (.int .i64 (faultB N i)) ∧ w' = w := by
 obtain ⟨c0, c1, c2, l0, l1, l2, d1, d2, d3⟩ := h.cells
 clear h c1 c2 l1 l2 d1 d2 d3
 by_cases h0 : i < 0
 · have e : faultB N i = 2 := by unfold faultB; rw [if_neg (by omega)]
   have E := hid e
   clear e
   go_enter Tryz.func263, Tryz.ntmps263
   go_wp2
   go_ret
   exact ⟨ret_int E.out.symm, rfl⟩
 · by_cases h1 : (N : Int) ≤ i
   · have e : faultB N i = 2 := by unfold faultB; rw [if_neg (by omega)]
     have E := hid e
     clear e
     go_enter Tryz.func263, Tryz.ntmps263
     go_wp2
     go_ret
     exact ⟨ret_int E.out.symm, rfl⟩
   · have e : faultB N i = 0 := by unfold faultB; rw [if_pos (by omega)]
     have E := hid e
     clear e
     go_enter Tryz.func263, Tryz.ntmps263
     go_wp2
     go_ret
     exact ⟨ret_int E.out.symm, rfl⟩
set_option maxHeartbeats 400000 in
theorem new_none (n : Int) (w : World) (h : n < 1 ∨ 2048 < n) : Calls Tryz.prog 24 #[.int .i64 n] w fun e w' => e = .returned (.pointer none) ∧ w' = w := by
 by_cases h1 : n < 1
 · go_enter Tryz.func24, Tryz.ntmps24
   go_wp2
   go_ret
   exact ⟨rfl, rfl⟩
 · have h2 : 2048 < n := by omega
   go_enter Tryz.func24, Tryz.ntmps24
   go_wp2
   go_ret
   exact ⟨rfl, rfl⟩
set_option maxHeartbeats 400000 in
theorem new_c (N : Nat) (w : World) (h1 : 1 ≤ N) (h2 : N ≤ 2048) : Calls Tryz.prog 24 #[.int .i64 N] w fun e w' =>
   e = .returned (pD (w.heap.size + 2)) ∧ IsD w' (w.heap.size + 2) w.heap.size (w.heap.size + 1) N (fun _ => zsec) (fun _ => none) ∧ Below w.heap.size w w' ∧ w'.heap.size = w.heap.size + 3 := by
 have hmm := @run_makeMap Tryz.prog
 have g1 : ¬ (N : Int) < 1 := by omega
 have g2 : ¬ (2048 : Int) < (N : Int) := by omega
 go_enter Tryz.func24, Tryz.ntmps24
 go_wp2
 go_ret
 refine ⟨rfl, ⟨?_, by omega, h1, h2, ?_, fun _ => none, ?_, fun _ => rfl⟩, ?_, by simp⟩
 · have := heap_alloc_new ((w.alloc (.map #[] 0)).alloc (.map #[] 0)) (.cells #[.int .i64 N, .map (some w.heap.size), .map (some (w.heap.size + 1))] 124 (0, 0))
   simpa using this
 · have := IsM.made (w.alloc (.map #[] 0)) N
   have h3 := this.out (S := fun _ => False) ((Out.refl _ _).alloc (.cells #[.int .i64 N, .map (some w.heap.size), .map (some (w.heap.size + 1))] 124 (0, 0))) id
   simpa using h3
 · have := IsM.made w N
   exact this.out (S := fun _ => False) (((Out.refl _ _).alloc _).alloc _) id
 · exact (((Below.refl _ _).alloc (Nat.le_refl _) _).alloc (by simp) _).alloc (by simp; omega) _
set_option maxHeartbeats 400000 in
theorem size_nil (w : World) : Calls Tryz.prog 103 #[.pointer none] w fun e w' => e = .returned (.int .i64 0) ∧ w' = w := by
 go_enter Tryz.func103, Tryz.ntmps103
 go_wp2
 go_ret
 exact ⟨rfl, rfl⟩
set_option maxHeartbeats 400000 in
theorem size_c {w : World} {d b1 b2 N : Nat} {on : Int → Sec} {c : Int → Option Sec} (h : IsD w d b1 b2 N on c) : Calls Tryz.prog 103 #[pD d] w fun e w' => e = .returned (.int .i64 N) ∧ w' = w := by
 obtain ⟨c0, c1, c2, l0, l1, l2, d1, d2, d3⟩ := h.cells
 clear h c1 c2 l1 l2 d1 d2 d3
 go_enter Tryz.func103, Tryz.ntmps103
 go_wp2
 go_ret
 exact ⟨rfl, rfl⟩
set_option maxRecDepth 100000 in
set_option maxHeartbeats 1000000 in
theorem write_c {w : World} {d b1 b2 N : Nat} {on : Int → Sec} {c : Int → Option Sec} (h : IsD w d b1 b2 N on c) (i : Int) (s : Sec) (hs : IsSec s) (h0 : 0 ≤ i) (h1 : i < N) :
   Calls Tryz.prog 208 #[pD d, .int .i64 i, secV s] w fun e w' => e = .returned (.int .i64 0) ∧ IsD w' d b1 b2 N on (upd c i (some s)) ∧ Out (fun k => k = b2) w w' := by
 unfold secV
 have hb1 : Below w.heap.size w (w.alloc (.cells (s.map by8).toArray 260)) := (Below.refl _ _).alloc (Nat.le_refl _) _
 have hf := fault_c (h.later hb1) i
 have e : faultB N i = 0 := by unfold faultB; rw [if_pos (by omega)]
 rw [e] at hf
 clear e
 have H := hid h
 have h' := h.later hb1
 have hr : (w.alloc (.cells (s.map by8).toArray 260)).heap[w.heap.size]? = some (.cells (s.map by8).toArray 260) := heap_alloc_new w _
 have hlt : w.heap.size < (w.alloc (.cells (s.map by8).toArray 260)).heap.size := by simp
 have B0 := hid hb1
 clear h hb1
 go_enter Tryz.func208, Tryz.ntmps208
 go_wp2_with (go_at_call 263; refine hf.mono ?_; rintro e w' ⟨rfl, rfl⟩)
 clear hf
 generalize (w.alloc (.cells (s.map by8).toArray 260)) = W at *
 obtain ⟨c0, c1, c2, l0, l1, l2, d1, d2, d3⟩ := h'.cells
 have hR : W.rangeAt w.heap.size 0 (s.map by8) := range_sec hr
 have hu := Tryz.underlying260
 have hi : (Tryz.prog.info? 260).map (·.size) = some (s.map by8).length := by rw [sizeS]; simp [hs.1]
 have hl32 : (s.map by8).length = 32 := by simp [hs.1]
 have h1c : ∀ v ∈ s.map by8, v.oneCell' = true := fun v hv => by obtain ⟨x, _, rfl⟩ := List.mem_map.1 hv; rfl
 obtain ⟨w1, hmu, m1, t1⟩ := IsM.store (w := W.drew) (b := b2) (N := N) (f := c) h'.2.2.2.2.1 h0 h1 h'.2.2.2.1 hs
 have o1 : Out (fun k => k = b2) W w1 := ((Out.refl _ W).drew).trans (Out.turned t1 rfl)
 have k1 : w1.cell? ⟨d, 2, none⟩ = some (.map (some b2)) := by
   rw [← c2]; exact World.cell?_of_block (o1.block d l0 d2)
 have k2 : w1.rangeAt w.heap.size 0 (s.map by8) := range_sec (by rw [o1.block w.heap.size hlt (fun e => by have := H.out.cells; omega)]; exact hr)
 have M1 := hid m1
 have O1 := hid o1
 unfold secV at hmu
 clear m1 o1 t1
 go_region_held3 (fun w' => w'.cell? ⟨d, 2, none⟩ = some (.map (some b2)) ∧ w'.rangeAt w.heap.size 0 (s.map by8)) (first | go_keep_ranges | exact ⟨k1, k2⟩) (fail)
 go_wp2
 go_ret
 have O2 := (Out.of (S := fun k => k = b2) B0.out).trans O1.out
 obtain ⟨e1, e2, e3, e4, e5, m, e6, e7⟩ := H.out
 obtain ⟨_, _, _, _, _, _, q1, q2, q3⟩ := H.out.cells
 exact ⟨rfl, ⟨by rw [O2.block d (lt_blk e1) q2]; exact e1, e2, e3, e4, M1.out, m, e6.out O2 q3, e7⟩, O2⟩
theorem row_other (w : World) (g k : Nat) (cs : Array Value) (h : k ≠ g) : (w.setRow g cs).heap[k]? = w.heap[k]? := by
 unfold World.setRow
 rw [Array.getElem?_modify, if_neg (by omega)]
theorem Out.setRow {S : Nat → Prop} (w : World) (g : Nat) (cs : Array Value) (h : S g) : Out S w (w.setRow g cs) :=
 ⟨rfl, rfl, rfl, by simp [World.setRow], fun k _ hk => row_other w g k cs (fun e => hk (by rw [e]; exact h))⟩
theorem Below.setRow {w v : World} {B : Nat} (h : Below B w v) (g : Nat) (cs : Array Value) (hg : B ≤ g) : Below B w (v.setRow g cs) :=
 ⟨h.os, h.tape, h.output, by simp [World.setRow]; exact h.size, fun k hk => by rw [row_other v g k cs (by omega)]; exact h.block k hk⟩
theorem wpList_storeA (w : World) {ops : Array Oper} {rest : List Oper} {o : Oper} {a : Act} {Q : Exit → Act → World → Prop} (hg : o.guard = none) (x y : Operand) (T : TypeId) (hop : o.op = .store T x y) (hT : (Tryz.prog.info? T).map (·.size) = some 32)
   (g : Nat) (hx : a.eval x = .pointer (some ⟨g, 0, none⟩)) (s : Sec) (hy : a.eval y = secV s) (hs : s.length = 32)
   (t : TypeId) (c : Array Value) (hb : w.heap[g]? = some (.cells c t (0, 0))) (hc : c.size = 32)
   (h : ∀ w', w'.heap[g]? = some (.cells (s.map by8).toArray t (0, 0)) → Out (fun k => k = g) w w' → w'.heap.size = w.heap.size → wpList Tryz.prog ops Q rest (a.put o.dst undef) w') : wpList Tryz.prog ops Q (o :: rest) a w := by
 refine wpList_store_row hg T x y hop g (s.map by8).toArray hx hy t c hb (by rw [hT]; simp [hs]) (by simp [hs, hc]) (secV_one s) ?_
 exact h _ (setRow_heap w g c _ t (0, 0) hb) (Out.setRow w g _ rfl) (by simp [World.setRow])
theorem res_sec {fn : Func} {p u : Tmp} {ty e : TypeId} (h : fn.results = #[.cell p ty, .tmp u]) (tmps : Array Value) (w : World) (hT : (Tryz.prog.info? ty).map (·.size) = some 32) (hu : Tryz.prog.underlying ty = some (.array 32 e))
   (g : Nat) (hp : tmps.getD p undef = .pointer (some ⟨g, 0, none⟩)) (s : Sec) (hs : s.length = 32) (t : TypeId) (fr : Nat × Nat) (hb : w.heap[g]? = some (.cells (s.map by8).toArray t fr)) (v : Value) (hv : tmps.getD u undef = v) :
   (results fn tmps).run Tryz.prog w = .ok (.tuple #[secV s, v]) w := by
 have hl := run_loadVar_row (P := Tryz.prog) w g t ty (s.map by8).toArray fr _ hb hu rfl (by rw [hT]; simp [hs])
 rw [results_cell_tmp h, hp, hv]
 simp [asAddr, Result.andThen, hl, secV]
theorem two_last (w : World) (o p : Obj) : ((w.alloc o).alloc p).heap[w.heap.size + 1]? = some p := by
 have := heap_alloc_new (w.alloc o) p
 simpa using this
theorem two_alloc (w : World) (o p : Obj) : ((w.alloc o).alloc p).heap[w.heap.size]? = some o := by
 rw [Below.heap_alloc _ _ _ (by simp)]; exact heap_alloc_new w o
set_option maxRecDepth 100000 in
set_option maxHeartbeats 1000000 in
theorem read_c {w : World} {d b1 b2 N : Nat} {on : Int → Sec} {c : Int → Option Sec} (h : IsD w d b1 b2 N on c) (i : Int) (h0 : 0 ≤ i) (h1 : i < N) :
   Calls Tryz.prog 287 #[pD d, .int .i64 i] w fun e w' => e = .returned (.tuple #[secV ((c i).getD (on i)), .int .i64 0]) ∧ Below w.heap.size w w' := by
 have zz := zlit
 have hb1 : Below w.heap.size w (w.alloc (.cells (zsec.map by8).toArray 260)) := (Below.refl _ _).alloc (Nat.le_refl _) _
 have hf := fault_c (h.later hb1) i
 have e : faultB N i = 0 := by unfold faultB; rw [if_pos (by omega)]
 rw [e] at hf
 have hb := bd_key h0 h1 h.2.2.2.1
 have h' := h.later hb1
 obtain ⟨c0, c1, c2, l0, l1, l2, d1, d2, d3⟩ := h.cells
 have c2' : (w.alloc (.cells (zsec.map by8).toArray 260)).cell? ⟨d, 2, none⟩ = some (.map (some b2)) := h'.cells.2.2.1
 have HM : Hid (IsM (w.alloc (.cells (zsec.map by8).toArray 260)) b2 N c) := h'.2.2.2.2.1
 cases hci : c i with
 | some s =>
   have hs : IsSec s := (h.2.2.2.2.1.2 i s hci).1
   have EC := hid hci
   clear e h h' hci c0 c1 c2
   go_enter Tryz.func287, Tryz.ntmps287
   go_wp2_with (first
     | (go_at_call 263; refine hf.mono ?_; rintro e w' ⟨rfl, rfl⟩)
     | (at_lookup; refine wpList_look_ok _ rfl _ _ rfl b2 N c rfl HM.out i rfl hb.1 hb.2 ?_; rw [EC.out]; simp only [Option.getD_some, Option.isSome_some])
     | (refine wpList_storeS _ rfl _ _ _ rfl sizeS _ rfl (by simp) s rfl hs.1 _ (by simp; decide) ?_)
     | (refine wpList_loadS _ rfl _ _ rfl sizeS Tryz.underlying260 _ rfl s hs.1 _ _ (two_last w _ _) ?_)
     | (refine wpList_storeA _ rfl _ _ _ rfl sizeS _ rfl s rfl hs.1 _ _ (two_alloc w _ _) (by simp; decide) ?_; intro w4 k1 k2 k3))
   exact bodyPost_ret (v := .tuple #[secV s, .int .i64 0]) (res_sec rfl _ _ sizeS Tryz.underlying260 w.heap.size rfl s hs.1 _ _ k1 _ rfl) rfl ⟨rfl, hb1.trans (((Below.refl _ _).alloc (by simp) _).trans (k2.below (by simp; omega) (fun k e => by omega)))⟩
 | none =>
   obtain ⟨m, hm, he⟩ := h'.2.2.2.2.2
   have hs : IsSec ((m i).getD zsec) := by
     cases hmi : m i with
     | none => exact zsec_is
     | some u => exact (hm.2 i u hmi).1
   have c1' : (w.alloc (.cells (zsec.map by8).toArray 260)).cell? ⟨d, 1, none⟩ = some (.map (some b1)) := h'.cells.2.1
   have EC := hid hci
   have HE := hid he
   have HM1 := hid hm
   clear e h h' hci c0 c1 c2 he hm
   go_enter Tryz.func287, Tryz.ntmps287
   go_wp2_with (first
     | (go_at_call 263; refine hf.mono ?_; rintro e w' ⟨rfl, rfl⟩)
     | (at_lookup; refine wpList_look_ok _ rfl _ _ rfl b2 N c rfl HM.out i rfl hb.1 hb.2 ?_; rw [EC.out]; simp only [Option.getD_none, Option.isSome_none])
     | (at_lookup; refine wpList_look _ rfl _ _ rfl b1 N m rfl (HM1.out.out (S := fun _ => False) ((Out.refl _ _).alloc _) id) i rfl hb.1 hb.2 ?_)
     | (refine wpList_storeS _ rfl _ _ _ rfl sizeS _ rfl (by simp) zsec rfl zsec_is.1 _ (by simp; decide) ?_)
     | (refine wpList_storeA _ rfl _ _ _ rfl sizeS _ rfl ((m i).getD zsec) rfl hs.1 _ _ (two_alloc w _ _) (by simp; decide) ?_; intro w4 k1 k2 k3))
   exact bodyPost_ret (v := .tuple #[secV ((m i).getD zsec), .int .i64 0]) (res_sec rfl _ _ sizeS Tryz.underlying260 w.heap.size rfl _ hs.1 _ _ k1 _ rfl) rfl ⟨by rw [HE.out]; rfl, hb1.trans (((Below.refl _ _).alloc (by simp) _).trans (k2.below (by simp; omega) (fun k e => by omega)))⟩
theorem size8 (w : World) : (sizeOf 5).run Tryz.prog w = .ok 1 w := by
 have h : (Tryz.prog.info? 5).map (·.size) = some 1 := by kernel_rfl
 cases hi : Tryz.prog.info? 5 with
 | none => rw [hi] at h; cases h
 | some i => rw [hi] at h; simp at h; simp [sizeOf, typeInfo, hi, h]
theorem guardS : Tryz.prog.eqGuardType Tryz.prog.depth 260 = false := by kernel_rfl
theorem wpList_eqlS (w : World) {ops : Array Oper} {rest : List Oper} {o : Oper} {a : Act} {Q : Exit → Act → World → Prop} (hg : o.guard = none) (x y : Operand) (t : TypeId) (hop : o.op = .binOp .eql 260 x y t)
   (s u : Sec) (hx : a.eval x = secV s) (hy : a.eval y = secV u) (hs : IsSec s) (hu : IsSec u) (h : wpList Tryz.prog ops Q rest (a.put o.dst (.bool (s == u))) w) : wpList Tryz.prog ops Q (o :: rest) a w := by
 refine wpList_plain hg fun K' hK' => ?_
 have e1 := secEq (P := Tryz.prog) w 260 5 Tryz.underlying260 Tryz.underlying5 size8 hs hu
 have e2 : (eqGuard .eql 260 x y (secV s) (secV u)).run Tryz.prog w = .ok () w := run_eqGuard_agg w .eql 260 x y _ _ guardS
 unfold Oper.wp
 simp only [execOp, hop, hx, hy, Sem.run_bind, e1, e2, Result.andThen, Sem.run_pure]
 exact hK' _ _ h
def updS (on : Int → Sec) (i : Int) (s : Sec) : Int → Sec := fun j => if j = i then s else on j
set_option maxRecDepth 100000 in
set_option maxHeartbeats 2000000 in
theorem settle_some {w : World} {d b1 b2 N : Nat} {on : Int → Sec} {c : Int → Option Sec} (h : IsD w d b1 b2 N on c) (i : Int) {s : Sec} (hci : c i = some s) :
   Calls Tryz.prog 209 #[pD d, .int .i64 i] w fun e w' => e = .returned (.tuple #[]) ∧ IsD w' d b1 b2 N (updS on i s) (upd c i none) ∧ Out (fun k => k = b1 ∨ k = b2) w w' ∧
     ∀ r n D left cnt, r ≠ b1 → w.ranges Tryz.prog 3 secR b2 r n D left cnt → ∃ cnt', w'.ranges Tryz.prog 3 secR b2 r n (D.del (ky i)) (fun z => left z && !z.sameKey (ky i)) cnt' ∧ cnt' ≤ cnt := by
 have zz := zlit
 obtain ⟨hs, h0, h1⟩ := h.2.2.2.2.1.2 i s hci
 have hb := bd_key h0 h1 h.2.2.2.1
 obtain ⟨c0, c1, c2, l0, l1, l2, d1, d2, d3⟩ := h.cells
 have HM := hid h.2.2.2.2.1
 have EC := hid hci
 have H := hid h
 have B0 : Hid (Out (fun _ => False) w (w.alloc (.cells (s.map by8).toArray 260))) := (Out.refl _ _).alloc _
 have HR : Hid ((w.alloc (.cells (s.map by8).toArray 260)).heap[w.heap.size]? = some (.cells (s.map by8).toArray 260)) := heap_alloc_new w _
 have HL : Hid (w.heap.size < (w.alloc (.cells (s.map by8).toArray 260)).heap.size) := by show _ < _; simp
 have HM2 : Hid (IsM (w.alloc (.cells (s.map by8).toArray 260)) b2 N c) := HM.out.out B0.out id
 obtain ⟨m, hm, he⟩ := h.2.2.2.2.2
 have HB1 := hid hm
 have HE := hid he
 have G : Hid (∀ w2 : World, (w.alloc (.cells (s.map by8).toArray 260)).mapTurned w2 b2 → Out (fun k => k = b2) w w2 ∧ w2.heap[w.heap.size]? = some (.cells (s.map by8).toArray 260) ∧ IsM w2 b1 N m ∧ w2.cell? ⟨d, 1, none⟩ = some (.map (some b1)) ∧ w.heap.size < w2.heap.size) := by
   intro w2 t2
   have o2 : Out (fun k => k = b2) w w2 := (B0.out.mono (fun _ e => e.elim)).trans (Out.turned t2 rfl)
   have o3 : Out (fun k => k = b2) (w.alloc (.cells (s.map by8).toArray 260)) w2 := Out.turned t2 rfl
   refine ⟨o2, by rw [o3.block _ HL.out (fun e => by omega)]; exact HR.out, HB1.out.out o2 d3, ?_, Nat.lt_of_lt_of_le HL.out o3.size⟩
   rw [← c1]; exact World.cell?_of_block (o2.block d l0 d2)
 have FIN : Hid (∀ w2 w3 : World, ∀ m', IsM w2 b2 N (upd c i none) → Out (fun k => k = b2) w w2 → Out (fun k => k = b1) w2 w3 → IsM w3 b1 N m' → (∀ j, (m' j).getD zsec = updS on i s j) →
     (∀ r n D left cnt, (w.alloc (.cells (s.map by8).toArray 260)).ranges Tryz.prog 3 secR b2 r n D left cnt → ∃ cnt', w2.ranges Tryz.prog 3 secR b2 r n (D.del (ky i)) (fun z => left z && !z.sameKey (ky i)) cnt' ∧ cnt' ≤ cnt) →
     IsD w3 d b1 b2 N (updS on i s) (upd c i none) ∧ Out (fun k => k = b1 ∨ k = b2) w w3 ∧
     ∀ r n D left cnt, r ≠ b1 → w.ranges Tryz.prog 3 secR b2 r n D left cnt → ∃ cnt', w3.ranges Tryz.prog 3 secR b2 r n (D.del (ky i)) (fun z => left z && !z.sameKey (ky i)) cnt' ∧ cnt' ≤ cnt) := by
   intro w2 w3 m' k1 k2 k3 k4 k5 k6
   obtain ⟨e1, e2, e3, e4, e5, _, _, _⟩ := H.out
   have o : Out (fun k => k = b1 ∨ k = b2) w w3 := (k2.mono (fun _ e => Or.inr e)).trans (k3.mono (fun _ e => Or.inl e))
   refine ⟨⟨by rw [o.block d (lt_blk e1) (by omega)]; exact e1, e2, e3, e4, k1.out k3 (by omega), m', k4, fun j => (k5 j).symm⟩, o, ?_⟩
   intro r n D left cnt hr hrg
   obtain ⟨cnt', q1, q2⟩ := k6 r n D left cnt (ranges_out hrg B0.out id id)
   exact ⟨cnt', ranges_out q1 k3 (by omega) hr, q2⟩
 clear h hci c0 hm he
 by_cases hz : s = zsec
 · have hq : (s == zsec) = true := by simp [hz]
   have HZ := hid hz
   clear hz
   go_enter Tryz.func209, Tryz.ntmps209
   go_wp2_with (first
     | (at_lookup; refine wpList_look_ok _ rfl _ _ rfl b2 N c rfl HM.out i rfl hb.1 hb.2 ?_; rw [EC.out]; simp only [Option.getD_some, Option.isSome_some])
     | (refine wpList_storeS _ rfl _ _ _ rfl sizeS _ rfl (by simp) s rfl hs.1 _ (by simp; decide) ?_)
     | (at_delete; refine wpList_drop _ rfl _ _ rfl b2 N c rfl HM2.out i rfl hb.1 hb.2 ?_; intro w2 m2 t2 r2; have M2 := hid m2; have R2 := hid r2; have G2 := hid (G.out w2 t2); have g4 := G2.out.2.2.2.1; clear m2 t2 r2)
     | (refine wpList_loadS _ rfl _ _ rfl sizeS Tryz.underlying260 _ rfl s hs.1 _ _ G2.out.2.1 ?_)
     | (refine wpList_eqlS _ rfl _ _ _ rfl s zsec rfl rfl hs zsec_is ?_; rw [hq])
     | (at_delete; refine wpList_drop _ rfl _ _ rfl b1 N m rfl G2.out.2.2.1 i rfl hb.1 hb.2 ?_; intro w3 m3 t3 r3))
   refine bodyPost_ret (v := .tuple #[]) (by simp [results, Tryz.results209, go_sem]) rfl ⟨rfl, FIN.out w2 w3 _ M2.out G2.out.1 (Out.turned t3 rfl) m3 ?_ R2.out⟩
   intro j
   unfold upd updS
   split
   · rw [HZ.out]; rfl
   · exact (HE.out j).symm
 · have hq : (s == zsec) = false := by simp [hz]
   clear hz
   go_enter Tryz.func209, Tryz.ntmps209
   go_wp2_with (first
     | (at_lookup; refine wpList_look_ok _ rfl _ _ rfl b2 N c rfl HM.out i rfl hb.1 hb.2 ?_; rw [EC.out]; simp only [Option.getD_some, Option.isSome_some])
     | (refine wpList_storeS _ rfl _ _ _ rfl sizeS _ rfl (by simp) s rfl hs.1 _ (by simp; decide) ?_)
     | (at_delete; refine wpList_drop _ rfl _ _ rfl b2 N c rfl HM2.out i rfl hb.1 hb.2 ?_; intro w2 m2 t2 r2; have M2 := hid m2; have R2 := hid r2; have G2 := hid (G.out w2 t2); have g4 := G2.out.2.2.2.1; clear m2 t2 r2)
     | (refine wpList_loadS _ rfl _ _ rfl sizeS Tryz.underlying260 _ rfl s hs.1 _ _ G2.out.2.1 ?_)
     | (refine wpList_eqlS _ rfl _ _ _ rfl s zsec rfl rfl hs zsec_is ?_; rw [hq]))
   have hR : w2.rangeAt w.heap.size 0 (s.map by8) := range_sec G2.out.2.1
   have hu := Tryz.underlying260
   have hi : (Tryz.prog.info? 260).map (·.size) = some (s.map by8).length := by rw [sizeS]; simp [hs.1]
   have hl32 : (s.map by8).length = 32 := by simp [hs.1]
   have h1c : ∀ v ∈ s.map by8, v.oneCell' = true := fun v hv => by obtain ⟨x, _, rfl⟩ := List.mem_map.1 hv; rfl
   obtain ⟨w3, hmu, m1, t1⟩ := IsM.store (w := w2.drew) (b := b1) (N := N) (f := m) G2.out.2.2.1 h0 h1 H.out.2.2.2.1 hs
   have o1 : Out (fun k => k = b1) w2 w3 := ((Out.refl _ w2).drew).trans (Out.turned t1 rfl)
   have k1 : w3.cell? ⟨d, 1, none⟩ = some (.map (some b1)) := by
     rw [← g4]; exact World.cell?_of_block (o1.block d (Nat.lt_of_lt_of_le l0 G2.out.1.size) d1)
   have k2 : w3.rangeAt w.heap.size 0 (s.map by8) := range_sec (by rw [o1.block w.heap.size G2.out.2.2.2.2 (fun e => by omega)]; exact G2.out.2.1)
   have M1 := hid m1
   have O1 := hid o1
   unfold secV at hmu
   clear m1 o1 t1
   go_region_held3 (fun w' => w'.cell? ⟨d, 1, none⟩ = some (.map (some b1)) ∧ w'.rangeAt w.heap.size 0 (s.map by8)) (first | go_keep_ranges | exact ⟨k1, k2⟩) (fail)
   go_end0
   refine ⟨rfl, FIN.out w2 w3 _ M2.out G2.out.1 O1.out M1.out ?_ R2.out⟩
   intro j
   unfold upd updS
   split
   · rfl
   · exact (HE.out j).symm
theorem IsD.ext {w : World} {d b1 b2 N : Nat} {on on' : Int → Sec} {c c' : Int → Option Sec} (h : IsD w d b1 b2 N on c) (e1 : ∀ i, on' i = on i) (e2 : ∀ i, c' i = c i) : IsD w d b1 b2 N on' c' := by
 have h1 : on' = on := funext e1
 have h2 : c' = c := funext e2
 rw [h1, h2]; exact h
set_option maxRecDepth 100000 in
set_option maxHeartbeats 1000000 in
theorem flush_c {w : World} {d b1 b2 N : Nat} {on : Int → Sec} {c : Int → Option Sec} (h : IsD w d b1 b2 N on c) :
   Calls Tryz.prog 149 #[pD d] w fun e w' => e = .returned (.int .i64 0) ∧ IsD w' d b1 b2 N (fun i => (c i).getD (on i)) (fun _ => none) ∧ Out (fun k => k = b1 ∨ k = b2) w w' := by
 obtain ⟨c0, c1, c2, l0, l1, l2, d1, d2, d3⟩ := h.cells
 obtain ⟨D, hown, hf⟩ := h.2.2.2.2.1.1
 have HS : Hid (∀ i s, c i = some s → IsSec s ∧ 0 ≤ i ∧ i < N) := h.2.2.2.2.1.2
 have HF := hid hf
 have H := hid h
 have HO := hid hown
 have HN := hid h.2.2.2.1
 clear h hf hown c0 c1
 go_enter Tryz.func149, Tryz.ntmps149
 go_wp2_with (at_range; refine wpList_range_own _ rfl _ 122 rfl 3 260 law3 Tryz.underlying122 secR b2 N D rfl HO.out ?_; intro w0 hrg0 hg0 hs0)
 go_frame
 have R0 := hid hrg0
 have G0 := hid hg0
 clear hrg0 hg0 hs0 c2
 go_loopw [3] (fun _ wr => ∃ D' left cnt on' c', wr.ranges Tryz.prog 3 secR b2 w.heap.size N D' left cnt ∧ IsD wr d b1 b2 N on' c' ∧ Hid (∀ i, left (ky i) = true → c i ≠ none) ∧ Hid (∀ i, c' i = if left (ky i) = true then c i else none) ∧ Hid (∀ i, on' i = if left (ky i) = true then on i else (c i).getD (on i)) ∧ Out (fun k => k = b1 ∨ k = b2) w wr) (fun _ wr => wr.rangeLeft b2 w.heap.size)
 case atStart =>
   have o0 : Out (fun k => k = b1 ∨ k = b2) w w0 := Out.grown G0.out (fun k e => by cases e)
   have o1 : Out (fun _ => False) w w0 := Out.grown G0.out (fun k e => by cases e)
   have e0 : ∀ i, Maps.has D (ky i) = (c i).isSome := fun i => by rw [HF.out i]; exact (look_at HO.out i zsec).2
   refine ⟨D, Maps.has D, Maps.size D, on, c, R0.out, H.out.out o1 id id id, ?_, ?_, ?_, o0⟩
   · intro i hi e; rw [e0, e] at hi; cases hi
   · intro i; rw [e0]; cases c i <;> rfl
   · intro i; rw [e0]; cases c i <;> rfl
 case round =>
   obtain ⟨D', left, cnt, on', c', hrg, hD, hl, hc', hon', hout⟩ := hrel
   have HR := hid hrg
   have HD := hid hD
   have HU := hid hout
   clear hrg hD hout
   go_wp2_with (at_next; refine wpList_next_ranges _ rfl _ rfl 3 law3 secR (Value.int .i64) secV (fun key kl hk => by obtain ⟨x, hx, _⟩ := Maps.keyOf_int_inv Tryz.underlying3 hk; exact ⟨x, hx⟩) (fun v y hv => by obtain ⟨s, _, hx, _⟩ := secR_inv hv; exact ⟨s, hx⟩) b2 w.heap.size N _ _ _ rfl HR.out ?_ ?_)
   · intro _ hl0
     have HL0 := hid hl0
     clear hl0
     go_wp2
     go_ret
     refine ⟨rfl, HD.out.ext (fun i => ?_) (fun i => ?_), HU.out⟩
     · rw [hon'.out i, HL0.out, if_neg (by simp)]
     · rw [hc'.out i, HL0.out, if_neg (by simp)]
   · intro x s kl yd yp w1 cnt1 hkey hlk hv hat hrg1 hlt hg1 hs1 hen
     obtain ⟨x', ex, ekl, hwx⟩ := Maps.keyOf_int_inv Tryz.underlying3 hkey
     cases ex
     have ekl' : kl = ky x := ekl
     subst ekl'
     have R1 := hid hrg1
     have o1 : Out (fun k => k = w.heap.size) wr w1 := Out.grown hg1 (fun k e => by cases e; rfl)
     have O1 := hid o1
     have HD1 : Hid (IsD w1 d b1 b2 N on' c') := HD.out.out o1 (by omega) (by omega) (by omega)
     have hcx : ∃ s0, c x = some s0 := by
       have := hl.out x hlk
       cases hq : c x with
       | none => exact absurd hq this
       | some s0 => exact ⟨s0, rfl⟩
     obtain ⟨s0, hs0⟩ := hcx
     have hcx' : c' x = some s0 := by rw [hc'.out x, if_pos hlk, hs0]
     have HS0 := hid hs0
     have HLK := hid hlk
     have SC := hid (settle_some HD1.out x hcx')
     have HLT := hid hlt
     clear hkey hlk hv hat hrg1 hlt hg1 hs1 ekl hwx o1 hs0 hcx'
     go_wp2_with (go_at_call 209; refine SC.out.mono ?_; rintro e w2 ⟨rfl, q1, q2, q3⟩)
     obtain ⟨cnt2, q4, q5⟩ := q3 _ _ _ _ _ (by omega) R1.out
     rw [Maps.strike_twice] at q4
     go_roundw
     case rel =>
       have key : ∀ i : Int, (left (ky i) && !(ky i).sameKey (ky x)) = true ↔ left (ky i) = true ∧ i ≠ x := fun i => by rw [same_ky]; simp
       have hout2 : Out (fun k => k = b1 ∨ k = b2) w w2 := by
         refine ⟨q2.os.trans (O1.out.os.trans HU.out.os), q2.tape.trans (O1.out.tape.trans HU.out.tape), q2.output.trans (O1.out.output.trans HU.out.output), Nat.le_trans HU.out.size (Nat.le_trans O1.out.size q2.size), fun k hk hS => ?_⟩
         rw [q2.block k (Nat.lt_of_lt_of_le hk (Nat.le_trans HU.out.size O1.out.size)) hS, O1.out.block k (Nat.lt_of_lt_of_le hk HU.out.size) (by omega), HU.out.block k hk hS]
       refine ⟨_, _, cnt2, _, _, q4, q1, fun i hi => hl.out i ((key i).1 hi).1, fun i => ?_, fun i => ?_, hout2⟩
       · unfold upd
         by_cases hi : i = x
         · rw [if_pos hi, if_neg (by rw [key]; simp [hi])]
         · rw [if_neg hi, hc'.out i]
           by_cases hq : left (ky i) = true
           · rw [if_pos hq, if_pos ((key i).2 ⟨hq, hi⟩)]
           · rw [if_neg hq, if_neg (fun h => hq ((key i).1 h).1)]
       · unfold updS
         by_cases hi : i = x
         · rw [if_pos hi, if_neg (by rw [key]; simp [hi]), hi, HS0.out]; rfl
         · rw [if_neg hi, hon'.out i]
           by_cases hq : left (ky i) = true
           · rw [if_pos hq, if_pos ((key i).2 ⟨hq, hi⟩)]
           · rw [if_neg hq, if_neg (fun h => hq ((key i).1 h).1)]
     case measure => rw [q4.left_eq, HR.out.left_eq]; have := HLT.out; omega
end Go.Proofs.YtfmghbennahlfaaGreat
