/-
  
-/
import Derived.Test.YtpolbbdaippclaaGreatNsAa
import Derived.Maps.RangeWalk
import Derived.Maps.OwnSet
import Derived.Stop.BytesEq
import Derived.Laws.Rows
import Derived.Deep.RegionHeld3
import Derived.Deep.MidRow
import Derived.Deep.WholeRow
namespace Go.Proofs.YtpolbbdaippclaaGreat
open Go.RowKit Go.ChangeShapes Go.WideShapes Go.ChangeAt Go.Maps
set_option linter.unusedVariables false
set_option linter.unusedSimpArgs false
abbrev Sec := List Int
def IsSec (s : Sec) : Prop := s.length = 32 ∧ ∀ x ∈ s, 0 ≤ x ∧ x < 256
def by8 (x : Int) : Value := .int .u8 x
def secV (s : Sec) : Value := .agg (s.map by8).toArray
def zsec : Sec := List.replicate 32 0
theorem zsec_is : IsSec zsec := ⟨by simp [zsec], fun x hx => by have := List.eq_of_mem_replicate hx; omega⟩
def num8 : Value → Int | .int _ x => x | _ => 0
def is8 : Value → Bool | .int .u8 x => decide (0 ≤ x ∧ x < 256) | _ => false
def secR : Value → Option (DataW Sec × List MemPlace)
 | .agg cs => if cs.size = 32 ∧ cs.toList.all is8 = true then some (.held (cs.toList.map num8), []) else none
 | _ => none
theorem is8_by {v : Value} (h : is8 v = true) : v = by8 (num8 v) ∧ 0 ≤ num8 v ∧ num8 v < 256 := by
 unfold is8 at h
 split at h
 · simp at h; exact ⟨rfl, h.1, h.2⟩
 · cases h
theorem secR_mk {s : Sec} (h : IsSec s) : secR (secV s) = some (.held s, []) := by
 unfold secR secV
 have h1 : (s.map by8).all is8 = true := by
   rw [List.all_eq_true]
   intro v hv
   obtain ⟨x, hx, rfl⟩ := List.mem_map.1 hv
   have := h.2 x hx
   simp [by8, is8, this]
 have h2 : (s.map by8).map num8 = s := by
   rw [List.map_map]
   conv => rhs; rw [← List.map_id s]
   exact List.map_congr_left fun x _ => rfl
 simp only [List.size_toArray, List.length_map, h.1, true_and]
 rw [if_pos h1]
 simp only [h2]
theorem secR_inv {v : Value} {z : DataW Sec × List MemPlace} (h : secR v = some z) : ∃ s, IsSec s ∧ v = secV s ∧ z = (.held s, []) := by
 unfold secR at h
 split at h
 · rename_i cs
   split at h
   · rename_i hc
     cases h
     refine ⟨cs.toList.map num8, ⟨by simp [hc.1], fun x hx => ?_⟩, ?_, rfl⟩
     · obtain ⟨u, hu, rfl⟩ := List.mem_map.1 hx
       exact (is8_by (List.all_eq_true.1 hc.2 u hu)).2
     · unfold secV
       rw [List.map_map]
       have : cs.toList.map (by8 ∘ num8) = cs.toList := by
         conv => rhs; rw [← List.map_id cs.toList]
         exact List.map_congr_left fun u hu => ((is8_by (List.all_eq_true.1 hc.2 u hu)).1).symm
       rw [this]
   · cases h
 · cases h
theorem secV_one (s : Sec) : ((s.map by8).toArray).all (·.oneCell') = true := by
 rw [Array.all_eq_true_iff_forall_mem]
 intro v hv
 have hv' : v ∈ s.map by8 := by simpa using hv
 obtain ⟨x, _, rfl⟩ := List.mem_map.1 hv'
 rfl
theorem secEq {P : Program} (w : World) (t e : TypeId) (ht : P.underlying t = some (.array 32 e)) (he : P.underlying e = some (.int .u8)) (hsz : ∀ w, (sizeOf e).run P w = .ok 1 w)
   {s u : Sec} (hs : IsSec s) (hu : IsSec u) : (binOp .eql t (secV s) (secV u)).run P w = .ok (.bool (s == u)) w := by
 have key : ∀ l : Sec, IsSec l → secV l = .agg ((l.map fun x => x.toNat.toUInt8).map Extern.Stop.cell).toArray := by
   intro l hl
   unfold secV
   rw [List.map_map]
   congr 2
   apply List.map_congr_left
   intro x hx
   have := hl.2 x hx
   simp only [by8, Function.comp, Extern.Stop.cell]
   congr 1
   simp
   omega
 rw [key s hs, key u hu, run_eql_bytes w t e 32 ht he hsz _ _ (by simp [hs.1]) (by simp [hu.1])]
 congr 2
 rw [Bool.eq_iff_iff]
 simp only [beq_iff_eq]
 constructor
 · intro h
   have h2 := congrArg (List.map (fun b : UInt8 => (b.toNat : Int))) h
   rw [List.map_map, List.map_map] at h2
   have e : ∀ l : Sec, IsSec l → l.map ((fun b : UInt8 => (b.toNat : Int)) ∘ fun x => x.toNat.toUInt8) = l := fun l hl => by
     conv => rhs; rw [← List.map_id l]
     apply List.map_congr_left
     intro x hx
     have := hl.2 x hx
     simp
     omega
   rwa [e s hs, e u hu] at h2
 · intro h; rw [h]
theorem law3 : Keyed Tryz.prog 3 := int_keyed Tryz.underlying3
theorem zeroS (w : World) : (zeroValue 134).run Tryz.prog w = .ok (secV zsec) w := by
 have h : (Tryz.prog.info? 134).map (fun i => i.zero) = some (some (secV zsec)) := by kernel_rfl
 cases hi : Tryz.prog.info? 134 with
 | none => rw [hi] at h; cases h
 | some i => rw [hi] at h; simp at h; simp [zeroValue, typeInfo, hi, h]
theorem sizeS : (Tryz.prog.info? 134).map (·.size) = some 32 := by kernel_rfl
theorem zlit : (#[.int .u8 0, .int .u8 0, .int .u8 0, .int .u8 0, .int .u8 0, .int .u8 0, .int .u8 0, .int .u8 0, .int .u8 0, .int .u8 0, .int .u8 0, .int .u8 0, .int .u8 0, .int .u8 0, .int .u8 0, .int .u8 0, .int .u8 0, .int .u8 0, .int .u8 0, .int .u8 0, .int .u8 0, .int .u8 0, .int .u8 0, .int .u8 0, .int .u8 0, .int .u8 0, .int .u8 0, .int .u8 0, .int .u8 0, .int .u8 0, .int .u8 0, .int .u8 0] : Array Value) = (zsec.map by8).toArray := rfl
def ky (i : Int) : Lit := .int .i64 i
def look (D : DataW Sec) (i : Int) : Option Sec :=
 if Maps.has D (ky i) = true then (match D.atKey (ky i) .nil with | .held s => some s | _ => none) else none
def upd (f : Int → Option Sec) (i : Int) (v : Option Sec) : Int → Option Sec := fun j => if j = i then v else f j
theorem ky_ne {i j : Int} (h : j ≠ i) : ky j ≠ ky i := fun e => h (by unfold ky at e; cases e; rfl)
theorem few_keys : ∀ (n : Nat) (l : List Int), l.Pairwise (· ≠ ·) → (∀ x ∈ l, 0 ≤ x ∧ x < n) → l.length ≤ n
 | 0, l, _, h => by
   cases l with
   | nil => simp
   | cons x l => have := h x (by simp); omega
 | n + 1, l, hp, h => by
   have h1 := few_keys n (l.filter fun x => decide (x ≠ (n : Int))) (hp.filter _) (fun x hx => by
     obtain ⟨hx1, hx2⟩ := List.mem_filter.1 hx
     have h3 := h x hx1
     simp at hx2
     omega)
   have h2 : ∀ l : List Int, l.Pairwise (· ≠ ·) → l.length ≤ (l.filter fun x => decide (x ≠ (n : Int))).length + 1 := by
     intro l
     induction l with
     | nil => simp
     | cons x l ih =>
       intro hq
       rw [List.pairwise_cons] at hq
       by_cases hx : x = (n : Int)
       · subst hx
         have : l.filter (fun x => decide (x ≠ (n : Int))) = l := List.filter_eq_self.2 fun y hy => by simpa using (hq.1 y hy).symm
         rw [List.filter_cons_of_neg (by simp), this]
         simp
       · have := ih hq.2
         rw [List.filter_cons_of_pos (by simpa using hx)]
         simp only [List.length_cons]
         omega
   have := h2 l hp
   omega
def kyNum : Lit → Int | .int _ x => x | _ => 0
def IsM (w : World) (b N : Nat) (f : Int → Option Sec) : Prop :=
 (∃ D, w.ownsMap Tryz.prog 3 secR b N D ∧ ∀ i, f i = look D i) ∧ ∀ i s, f i = some s → IsSec s ∧ 0 ≤ i ∧ i < N
theorem own_entries {w : World} {b n : Nat} {D : DataW Sec} (h : w.ownsMap Tryz.prog 3 secR b n D) :
   ∃ es, D = .map es ∧ es.Pairwise (fun p q => p.1 ≠ q.1) ∧ (∀ p ∈ es, ∃ i s, p = (ky i, .held s) ∧ IsSec s) := by
 obtain ⟨es0, e0, hpw, _⟩ := h.entries law3
 refine ⟨es0, e0, hpw, ?_⟩
 obtain ⟨es, clock, hb, F, hs, hD⟩ := h
 rw [e0] at hD
 cases hD
 intro p hp
 rw [mem_sorted, List.mem_map] at hp
 obtain ⟨x, hx, rfl⟩ := hp
 obtain ⟨y, hy⟩ := F.reads x hx
 rw [WideElems.rg_of hy]
 have k1 := WideElems.rd_key hy
 obtain ⟨z, hz, e2⟩ := WideElems.rd_val hy
 obtain ⟨i, _, e3, _⟩ := Maps.keyOf_int_inv Tryz.underlying3 k1
 obtain ⟨s, h1, h2, h3⟩ := secR_inv hz
 refine ⟨i, s, ?_, h1⟩
 obtain ⟨y1, y2⟩ := y
 simp only at e2 e3
 rw [e3, e2, h3]
 rfl
theorem same_ky {i j : Int} : (ky i).sameKey (ky j) = decide (i = j) := by simp [ky, Lit.sameKey]
theorem find_mem : ∀ {es : List (Lit × DataW Sec)}, es.Pairwise (fun p q => p.1 ≠ q.1) → ∀ {i : Int} {s : Sec}, (ky i, DataW.held s) ∈ es → es.find? (fun p => p.1.sameKey (ky i)) = some (ky i, DataW.held s)
 | [], _, i, s, hm => by cases hm
 | x :: l, hp, i, s, hm => by
   rw [List.pairwise_cons] at hp
   rcases List.mem_cons.1 hm with rfl | hm'
   · simp [List.find?_cons, same_ky]
   · have hne : x.1 ≠ ky i := hp.1 _ hm'
     rw [List.find?_cons, Maps.sameKey_ne hne]
     exact find_mem hp.2 hm'
theorem has_mem {es : List (Lit × DataW Sec)} {i : Int} {s : Sec} (hm : (ky i, DataW.held s) ∈ es) : Maps.has (.map es) (ky i) = true := by
 rw [Maps.has_eq, List.any_eq_true]; exact ⟨_, hm, by simp [same_ky]⟩
theorem at_mem {es : List (Lit × DataW Sec)} (hp : es.Pairwise (fun p q => p.1 ≠ q.1)) {i : Int} {s : Sec} (hm : (ky i, DataW.held s) ∈ es) (z : DataW Sec) : DataW.atKey (.map es) (ky i) z = .held s := by
 simp [DataW.atKey, find_mem hp hm]
theorem look_mem {es : List (Lit × DataW Sec)} (hp : es.Pairwise (fun p q => p.1 ≠ q.1)) {i : Int} {s : Sec} (hm : (ky i, DataW.held s) ∈ es) : look (.map es) i = some s := by
 unfold look
 rw [if_pos (has_mem hm), at_mem hp hm]
theorem own_few {w : World} {b n N : Nat} {D : DataW Sec} (h : w.ownsMap Tryz.prog 3 secR b n D) (hk : ∀ i s, look D i = some s → 0 ≤ i ∧ i < N) : w.ownsMap Tryz.prog 3 secR b N D := by
 obtain ⟨es, e, hp, hs⟩ := own_entries h
 subst e
 have h1 : es.length ≤ N := by
   have := few_keys N (es.map fun p => kyNum p.1) (by
     rw [List.pairwise_map]
     refine hp.imp_of_mem fun {a c} ha hc hne => ?_
     obtain ⟨i, s, rfl, _⟩ := hs a ha
     obtain ⟨j, u, rfl, _⟩ := hs c hc
     intro e
     apply hne
     have : i = j := e
     rw [this]) (fun x hx => by
     obtain ⟨p, hp1, rfl⟩ := List.mem_map.1 hx
     obtain ⟨i, s, rfl, _⟩ := hs p hp1
     exact hk i s (look_mem hp hp1))
   simpa using this
 obtain ⟨es', clock, hb, F, hs', hD⟩ := h
 refine ⟨es', clock, hb, F, ?_, hD⟩
 have : es.length = es'.size := by
   cases hD
   rw [length_read]
 omega
theorem look_none {D : DataW Sec} {i : Int} (h : Maps.has D (ky i) = false) : look D i = none := by unfold look; rw [if_neg (by simp [h])]
theorem look_at {w : World} {b n : Nat} {D : DataW Sec} (h : w.ownsMap Tryz.prog 3 secR b n D) (i : Int) (z : Sec) : D.atKey (ky i) (.held z) = .held ((look D i).getD z) ∧ Maps.has D (ky i) = (look D i).isSome := by
 obtain ⟨es, e, hp, hs⟩ := own_entries h
 subst e
 cases hh : Maps.has (.map es) (ky i) with
 | false => rw [Maps.atKey_of_not_has hh, look_none hh]; exact ⟨rfl, rfl⟩
 | true =>
   rw [Maps.has_eq, List.any_eq_true] at hh
   obtain ⟨p, hp1, hp2⟩ := hh
   obtain ⟨j, s, rfl, _⟩ := hs p hp1
   rw [same_ky] at hp2
   simp at hp2
   subst hp2
   rw [look_mem hp hp1, at_mem hp hp1]
   exact ⟨rfl, rfl⟩
theorem keyLit (i : Int) : WideAt.IsKeyLit (ky i) := by unfold ky; trivial
theorem look_put {D : DataW Sec} (h : Maps.IsMap D) (i : Int) (s : Sec) (j : Int) : look (D.put (ky i) (.held s)) j = upd (look D) i (some s) j := by
 unfold upd
 by_cases hj : j = i
 · subst hj
   rw [if_pos rfl]
   unfold look
   rw [Maps.has_put_same h (keyLit _), if_pos rfl, Maps.atKey_put_same h (keyLit _)]
 · rw [if_neg hj]
   unfold look
   rw [Maps.has_put_other (ky_ne hj), Maps.atKey_put_other (ky_ne hj)]
theorem look_del {D : DataW Sec} (i : Int) (j : Int) : look (D.del (ky i)) j = upd (look D) i none j := by
 unfold upd
 by_cases hj : j = i
 · subst hj
   rw [if_pos rfl, look_none Maps.has_del_same]
 · rw [if_neg hj]
   unfold look
   rw [Maps.has_del_other (ky_ne hj), Maps.atKey_del_other (ky_ne hj)]
theorem key3 {i : Int} (h0 : -9223372036854775808 ≤ i) (h1 : i < 9223372036854775808) : keyOf Tryz.prog 3 (.int .i64 i) = some (ky i) :=
 keyOf_int_mk Tryz.underlying3 (by simp [Lit.wf, IntKind.min, IntKind.max, IntKind.signed, IntKind.bits]; omega)
end Go.Proofs.YtpolbbdaippclaaGreat
namespace Go.Proofs.YtpolbbdaippclaaGreat
open Go.RowKit Go.ChangeShapes Go.WideShapes Go.ChangeAt Go.Maps
set_option linter.unusedVariables false
set_option linter.unusedSimpArgs false
structure Out (S : Nat → Prop) (w w' : World) : Prop where
 os : w'.os = w.os
 tape : w'.tape = w.tape
 output : w'.output = w.output
 size : w.heap.size ≤ w'.heap.size
 block : ∀ k, k < w.heap.size → ¬ S k → w'.heap[k]? = w.heap[k]?
theorem Out.refl (S : Nat → Prop) (w : World) : Out S w w := ⟨rfl, rfl, rfl, Nat.le_refl _, fun _ _ _ => rfl⟩
theorem Out.trans {S : Nat → Prop} {a b c : World} (h : Out S a b) (k : Out S b c) : Out S a c :=
 ⟨k.os.trans h.os, k.tape.trans h.tape, k.output.trans h.output, Nat.le_trans h.size k.size, fun i hi hS => (k.block i (Nat.lt_of_lt_of_le hi h.size) hS).trans (h.block i hi hS)⟩
theorem Out.mono {S T : Nat → Prop} {a b : World} (h : Out S a b) (k : ∀ i, S i → T i) : Out T a b := ⟨h.os, h.tape, h.output, h.size, fun i hi hS => h.block i hi fun e => hS (k i e)⟩
theorem Out.of {S : Nat → Prop} {w w' : World} (h : Below w.heap.size w w') : Out S w w' := ⟨h.os, h.tape, h.output, h.size, fun i hi _ => h.block i hi⟩
theorem Out.below {S : Nat → Prop} {w w' : World} {B : Nat} (h : Out S w w') (hB : B ≤ w.heap.size) (hS : ∀ k, S k → B ≤ k) : Below B w w' :=
 ⟨h.os, h.tape, h.output, h.size, fun i hi => h.block i (by omega) (fun e => by have := hS i e; omega)⟩
theorem Out.alloc {S : Nat → Prop} {a w : World} (h : Out S a w) (o : Obj) : Out S a (w.alloc o) :=
 h.trans (Out.of ((Below.refl _ _).alloc (Nat.le_refl _) o))
theorem Out.turned {S : Nat → Prop} {w w' : World} {b : Nat} (h : w.mapTurned w' b) (hS : S b) : Out S w w' :=
 have g := h.grown
 ⟨g.os, g.tape, g.output, g.size, fun i hi hn => g.block i hi (fun e => by cases e; exact hn hS)⟩
theorem Out.grown {S : Nat → Prop} {w w' : World} {row : Option Nat} (g : w.grownBy w' row) (hS : ∀ k, row = some k → S k) : Out S w w' :=
 ⟨g.os, g.tape, g.output, g.size, fun i hi hn => g.block i hi (fun e => hn (hS i e.symm))⟩
theorem Out.drew {S : Nat → Prop} {a w : World} (h : Out S a w) : Out S a w.drew := ⟨h.os, h.tape, h.output, h.size, h.block⟩
theorem lt_blk {w : World} {g : Nat} {o : Obj} (h : w.heap[g]? = some o) : g < w.heap.size := by
 have := (Array.getElem?_eq_some_iff.1 h).1; exact this
theorem IsM.lt {w : World} {b N : Nat} {f : Int → Option Sec} (h : IsM w b N f) : b < w.heap.size := by
 obtain ⟨⟨D, ho, _⟩, _⟩ := h; exact ho.lt
theorem IsM.out {S : Nat → Prop} {w w' : World} {b N : Nat} {f : Int → Option Sec} (h : IsM w b N f) (ho : Out S w w') (hS : ¬ S b) : IsM w' b N f := by
 have hl := h.lt
 obtain ⟨⟨D, ⟨es, clock, hb, r⟩, hf⟩, h2⟩ := h
 exact ⟨⟨D, ⟨es, clock, by rw [ho.block b hl hS]; exact hb, r⟩, hf⟩, h2⟩
theorem ranges_out {S : Nat → Prop} {w w' : World} {b r n : Nat} {D : DataW Sec} {left : Lit → Bool} {cnt : Nat} (h : w.ranges Tryz.prog 3 secR b r n D left cnt) (ho : Out S w w') (hb : ¬ S b) (hr : ¬ S r) :
   w'.ranges Tryz.prog 3 secR b r n D left cnt := by
 have l1 := h.owns.lt
 have l2 := h.lt
 obtain ⟨es, clock, since, seen, c0, e1, F, s1, e2, e3, q⟩ := h
 exact ⟨es, clock, since, seen, c0, by rw [ho.block b l1 hb]; exact e1, F, s1, e2, by rw [ho.block r l2 hr]; exact e3, q⟩
theorem IsM.ext {w : World} {b N : Nat} {f g : Int → Option Sec} (h : IsM w b N f) (e : ∀ i, g i = f i) : IsM w b N g := by
 have : g = f := funext e
 rw [this]; exact h
theorem IsM.made (w : World) (N : Nat) : IsM (w.alloc (.map #[] 0)) w.heap.size N (fun _ => none) :=
 ⟨⟨.map [], (World.ownsMap_made w Tryz.prog 3 secR).mono (Nat.zero_le _), fun i => by simp [look, Maps.has]⟩, fun i s h => by cases h⟩
theorem bd_key {i : Int} {N : Nat} (h0 : 0 ≤ i) (h1 : i < N) (hN : N ≤ 2048) : -9223372036854775808 ≤ i ∧ i < 9223372036854775808 := by omega
theorem IsM.store {w : World} {b N : Nat} {f : Int → Option Sec} (h : IsM w b N f) {i : Int} (h0 : 0 ≤ i) (h1 : i < N) (hN : N ≤ 2048) {s : Sec} (hs : IsSec s) :
   ∃ w', (Instr.mapUpdate 80 (.map (some b)) (.int .i64 i) (secV s)).run Tryz.prog w = .ok () w' ∧ IsM w' b N (upd f i (some s)) ∧ w.mapTurned w' b := by
 obtain ⟨⟨D, ho, hf⟩, h2⟩ := h
 have hb := bd_key h0 h1 hN
 obtain ⟨w', hrun, ho', ht⟩ := ho.store law3 Tryz.underlying80 (by unfold maxLen; omega) (key3 hb.1 hb.2) (secR_mk hs)
 have h3 : ∀ j u, upd f i (some s) j = some u → IsSec u ∧ 0 ≤ j ∧ j < N := by
   intro j u hu
   unfold upd at hu
   split at hu
   · rename_i e; have e2 := Option.some.inj hu; rw [e, ← e2]; exact ⟨hs, h0, h1⟩
   · exact h2 j u hu
 have h4 : ∀ j, upd f i (some s) j = look (D.put (ky i) (.held s)) j := fun j => by
   rw [look_put ho.isMap]; unfold upd; rw [hf]
 exact ⟨w', hrun, ⟨⟨_, own_few ho' (fun j u hu => (h3 j u (by rw [h4]; exact hu)).2), h4⟩, h3⟩, ht⟩
theorem IsM.drop {w : World} {b N : Nat} {f : Int → Option Sec} (h : IsM w b N f) {i : Int} (h0 : -9223372036854775808 ≤ i) (h1 : i < 9223372036854775808) (ty : TypeId) :
   ∃ w', (Builtin.delete_ #[80, 3] ty #[.map (some b), .int .i64 i]).run Tryz.prog w = .ok (.tuple #[]) w' ∧ IsM w' b N (upd f i none) ∧ w.mapTurned w' b ∧
     ∀ r n D left cnt, w.ranges Tryz.prog 3 secR b r n D left cnt → ∃ cnt', w'.ranges Tryz.prog 3 secR b r n (D.del (ky i)) (fun z => left z && !z.sameKey (ky i)) cnt' ∧ cnt' ≤ cnt := by
 obtain ⟨⟨D, ho, hf⟩, h2⟩ := h
 obtain ⟨w', hrun, ho', ht⟩ := ho.drop law3 Tryz.underlying80 (key3 h0 h1) ty
 refine ⟨w', hrun, ⟨⟨_, ho', fun j => ?_⟩, fun j u hu => ?_⟩, ht, fun r n D' left cnt hr => ?_⟩
 · rw [look_del]; unfold upd; rw [hf]
 · unfold upd at hu
   split at hu
   · cases hu
   · exact h2 j u hu
 · obtain ⟨w2, cnt', hrun2, r1, r2, _⟩ := hr.drop law3 Tryz.underlying80 (key3 h0 h1) ty
   rw [hrun] at hrun2
   cases hrun2
   exact ⟨cnt', r1, r2⟩
theorem IsM.clear {w : World} {b N : Nat} {f : Int → Option Sec} (h : IsM w b N f) (ty : TypeId) :
   ∃ w', (Builtin.clear_ #[80] ty #[.map (some b)]).run Tryz.prog w = .ok (.tuple #[]) w' ∧ IsM w' b N (fun _ => none) ∧ w.mapTurned w' b := by
 obtain ⟨⟨D, ⟨es, clock, hb, F, hs, hD⟩, hf⟩, h2⟩ := h
 refine ⟨ChangeMaps.setBlock w b (.map #[] clock), ?_, ⟨⟨.map [], ⟨#[], clock, ChangeMaps.heap_setBlock_same hb _, ⟨by simp, ?_, by simp⟩, by simp, by simp⟩, fun i => by simp [look, Maps.has]⟩, fun i s h => by cases h⟩, ⟨es, clock, #[], clock, hb, rfl⟩⟩
 · simp [Builtin.clear_, run_underlying Tryz.underlying80, MapKept.run_getObj_map hb, MapKept.run_setObj_map _ hb, Result.andThen, ChangeMaps.setBlock]
 · exact MapKept.stamped_empty clock
section
variable (w : World) {ops : Array Oper} {rest : List Oper} {o : Oper} {a : Act} {Q : Exit → Act → World → Prop}
theorem wpList_look_ok (hg : o.guard = none) (m x : Operand) (hop : o.op = Op.lookup 80 m x true) (b N : Nat) (f : Int → Option Sec) (hm : a.eval m = .map (some b)) (h : IsM w b N f)
   (i : Int) (hx : a.eval x = .int .i64 i) (h0 : -9223372036854775808 ≤ i) (h1 : i < 9223372036854775808)
   (hK : wpList Tryz.prog ops Q rest (a.put o.dst (.tuple #[secV ((f i).getD zsec), .bool (f i).isSome])) w) : wpList Tryz.prog ops Q (o :: rest) a w := by
 obtain ⟨⟨D, ho, hf⟩, _⟩ := h
 refine wpList_lookup_own_ok w hg m x 80 hop 3 134 law3 Tryz.underlying80 secR (zeroS w) (.held zsec) [] (secR_mk zsec_is) b N D hm ho _ (ky i) hx (key3 h0 h1) ?_
 intro v ps hv
 obtain ⟨e1, e2⟩ := look_at ho i zsec
 rw [e1] at hv
 obtain ⟨s, _, rfl, e3⟩ := secR_inv hv
 cases e3
 rw [e2, ← hf i]
 exact hK
theorem wpList_look (hg : o.guard = none) (m x : Operand) (hop : o.op = Op.lookup 80 m x false) (b N : Nat) (f : Int → Option Sec) (hm : a.eval m = .map (some b)) (h : IsM w b N f)
   (i : Int) (hx : a.eval x = .int .i64 i) (h0 : -9223372036854775808 ≤ i) (h1 : i < 9223372036854775808)
   (hK : wpList Tryz.prog ops Q rest (a.put o.dst (secV ((f i).getD zsec))) w) : wpList Tryz.prog ops Q (o :: rest) a w := by
 obtain ⟨⟨D, ho, hf⟩, _⟩ := h
 obtain ⟨v, ps, hrun, hv⟩ := ho.lookup law3 Tryz.underlying80 (zeroS w) (secR_mk zsec_is) (key3 h0 h1)
 obtain ⟨e1, e2⟩ := look_at ho i zsec
 rw [e1] at hv
 obtain ⟨s, _, rfl, e3⟩ := secR_inv hv
 cases e3
 refine wpList_plain hg fun K' hK' => ?_
 unfold Oper.wp
 simp only [execOp, hop, hm, hx, Sem.run_bind, hrun, Result.andThen, Sem.run_pure]
 rw [← hf i]
 exact hK' _ _ hK
theorem wpList_drop (hg : o.guard = none) (m x : Operand) (hop : o.op = Op.call { callee := Callee.builtin Builtin.delete, args := #[m, x], argTypes := #[80, 3] }) (b N : Nat) (f : Int → Option Sec) (hm : a.eval m = .map (some b)) (h : IsM w b N f)
   (i : Int) (hx : a.eval x = .int .i64 i) (h0 : -9223372036854775808 ≤ i) (h1 : i < 9223372036854775808)
   (hK : ∀ w', IsM w' b N (upd f i none) → w.mapTurned w' b →
     (∀ r n D left cnt, w.ranges Tryz.prog 3 secR b r n D left cnt → ∃ cnt', w'.ranges Tryz.prog 3 secR b r n (D.del (ky i)) (fun z => left z && !z.sameKey (ky i)) cnt' ∧ cnt' ≤ cnt) → wpList Tryz.prog ops Q rest (a.put o.dst (.tuple #[])) w') :
   wpList Tryz.prog ops Q (o :: rest) a w := by
 refine wpList_plain hg fun K' hK' => ?_
 obtain ⟨w', hrun, r1, r2, r3⟩ := h.drop h0 h1 o.type
 unfold Oper.wp
 simp [execOp, hop, resolve, invoke, builtin, hm, hx, hrun, Result.andThen]
 exact hK' _ _ (hK w' r1 r2 r3)
theorem wpList_storeS (hg : o.guard = none) (x y : Operand) (T : TypeId) (hop : o.op = .store T x y) (hT : (Tryz.prog.info? T).map (·.size) = some 32) (H : Nat) (hx : a.eval x = .pointer (some ⟨H, 0, none⟩)) (hH : w.heap.size = H) (s : Sec) (hy : a.eval y = secV s) (hs : s.length = 32)
   (c : Array Value) (hc : c.size = 32) (h : wpList Tryz.prog ops Q rest (a.put o.dst undef) (w.alloc (.cells (s.map by8).toArray T))) : wpList Tryz.prog ops Q (o :: rest) a (w.alloc (.cells c T)) := by
 subst hH
 refine wpList_store_row hg T x y hop w.heap.size (s.map by8).toArray hx hy T c (heap_alloc_new w _) (by rw [hT]; simp [hs]) (by simp [hs, hc]) (secV_one s) ?_
 rw [World.setRow_alloc_new]
 exact h
theorem wpList_loadS (hg : o.guard = none) (x : Operand) (T : TypeId) (hop : o.op = .load T x) (hT : (Tryz.prog.info? T).map (·.size) = some 32) {e : TypeId} (hu : Tryz.prog.underlying T = some (.array 32 e)) (g : Nat) (hx : a.eval x = .pointer (some ⟨g, 0, none⟩)) (s : Sec) (hs : s.length = 32)
   (t : TypeId) (fr : Nat × Nat) (hb : w.heap[g]? = some (.cells (s.map by8).toArray t fr)) (h : wpList Tryz.prog ops Q rest (a.put o.dst (secV s)) w) : wpList Tryz.prog ops Q (o :: rest) a w :=
 wpList_load_row hg T x hop g hx t (s.map by8).toArray fr _ hb hu rfl (by rw [hT]; simp [hs]) h
end
def IsD (w : World) (d b1 b2 N : Nat) (on : Int → Sec) (c : Int → Option Sec) : Prop :=
 w.heap[d]? = some (.cells #[.int .i64 N, .map (some b1), .map (some b2)] 82 (0, 0)) ∧ b1 ≠ b2 ∧ 1 ≤ N ∧ N ≤ 2048 ∧ IsM w b2 N c ∧ ∃ m, IsM w b1 N m ∧ ∀ i, on i = (m i).getD zsec
theorem IsD.out {S : Nat → Prop} {w w' : World} {d b1 b2 N : Nat} {on : Int → Sec} {c : Int → Option Sec} (h : IsD w d b1 b2 N on c) (ho : Out S w w') (hd : ¬ S d) (h1 : ¬ S b1) (h2 : ¬ S b2) : IsD w' d b1 b2 N on c := by
 obtain ⟨e, ne, n1, n2, hc, m, hm, he⟩ := h
 exact ⟨by rw [ho.block d (lt_blk e) hd]; exact e, ne, n1, n2, hc.out ho h2, m, hm.out ho h1, he⟩
theorem IsD.later {w w' : World} {d b1 b2 N : Nat} {on : Int → Sec} {c : Int → Option Sec} (h : IsD w d b1 b2 N on c) (hb : Below w.heap.size w w') : IsD w' d b1 b2 N on c :=
 h.out (S := fun _ => False) (Out.of hb) id id id
theorem IsD.cells {w : World} {d b1 b2 N : Nat} {on : Int → Sec} {c : Int → Option Sec} (h : IsD w d b1 b2 N on c) :
   w.cell? ⟨d, 0, none⟩ = some (.int .i64 N) ∧ w.cell? ⟨d, 1, none⟩ = some (.map (some b1)) ∧ w.cell? ⟨d, 2, none⟩ = some (.map (some b2)) ∧ d < w.heap.size ∧ b1 < w.heap.size ∧ b2 < w.heap.size ∧ d ≠ b1 ∧ d ≠ b2 ∧ b1 ≠ b2 := by
 obtain ⟨e, ne, n1, n2, hc, m, hm, he⟩ := h
 refine ⟨by simp [World.cell?, e], by simp [World.cell?, e], by simp [World.cell?, e], lt_blk e, hm.lt, hc.lt, ?_, ?_, ne⟩
 · intro h
   obtain ⟨⟨D, ⟨es, clock, hb, _⟩, _⟩, _⟩ := hm
   rw [← h, e] at hb; cases hb
 · intro h
   obtain ⟨⟨D, ⟨es, clock, hb, _⟩, _⟩, _⟩ := hc
   rw [← h, e] at hb; cases hb
end Go.Proofs.YtpolbbdaippclaaGreat
