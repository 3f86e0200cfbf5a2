/-
  Sectors, maps of sectors by their numbers, and what they are behind a look, a store, a deletion.
-/
import Derived.Test.YtllohapbbmnipadCalls
import Derived.Maps.RangeWalk
import Derived.Maps.OwnSet
import Derived.Stop.BytesEq
import Derived.Laws.Rows
import Derived.Deep.RegionHeld3
import Derived.Deep.MidRow
namespace Go.Proofs.Ytllohapbbmnipad
open Go.RowKit Go.ChangeShapes Go.WideShapes Go.ChangeAt Go.Maps
set_option linter.unusedVariables false
set_option linter.unusedSimpArgs false
/-- A sector's bytes. -/
abbrev Sec := List Int
def IsSec (s : Sec) : Prop := s.length = 32 ∧ ∀ x ∈ s, 0 ≤ x ∧ x < 256
def by8 (x : Int) : Value := .int .u8 x
def secV (s : Sec) : Value := .agg (s.map by8).toArray
def zsec : Sec := List.replicate 32 0
theorem zsec_is : IsSec zsec := ⟨by simp [zsec], fun x hx => by have := List.eq_of_mem_replicate hx; omega⟩
/-- What a cell's value is as a number. -/
def num8 : Value → Int | .int _ x => x | _ => 0
def is8 : Value → Bool | .int .u8 x => decide (0 ≤ x ∧ x < 256) | _ => false
/-- How a sector that lies in a map is read: as it is. -/
def secR : Value → Option (DataW Sec × List MemPlace)
  | .agg cs => if cs.size = 32 ∧ cs.toList.all is8 = true then some (.held (cs.toList.map num8), []) else none
  | _ => none
theorem is8_by {v : Value} (h : is8 v = true) : v = by8 (num8 v) ∧ 0 ≤ num8 v ∧ num8 v < 256 := by
  unfold is8 at h
  split at h
  · simp at h; exact ⟨rfl, h.1, h.2⟩
  · cases h
theorem secR_mk {s : Sec} (h : IsSec s) : secR (secV s) = some (.held s, []) := by
  unfold secR secV
  have h1 : (s.map by8).all is8 = true := by
    rw [List.all_eq_true]
    intro v hv
    obtain ⟨x, hx, rfl⟩ := List.mem_map.1 hv
    have := h.2 x hx
    simp [by8, is8, this]
  have h2 : (s.map by8).map num8 = s := by
    rw [List.map_map]
    conv => rhs; rw [← List.map_id s]
    exact List.map_congr_left fun x _ => rfl
  simp only [List.size_toArray, List.length_map, h.1, true_and]
  rw [if_pos h1]
  simp only [h2]
theorem secR_inv {v : Value} {z : DataW Sec × List MemPlace} (h : secR v = some z) : ∃ s, IsSec s ∧ v = secV s ∧ z = (.held s, []) := by
  unfold secR at h
  split at h
  · rename_i cs
    split at h
    · rename_i hc
      cases h
      refine ⟨cs.toList.map num8, ⟨by simp [hc.1], fun x hx => ?_⟩, ?_, rfl⟩
      · obtain ⟨u, hu, rfl⟩ := List.mem_map.1 hx
        exact (is8_by (List.all_eq_true.1 hc.2 u hu)).2
      · unfold secV
        rw [List.map_map]
        have : cs.toList.map (by8 ∘ num8) = cs.toList := by
          conv => rhs; rw [← List.map_id cs.toList]
          exact List.map_congr_left fun u hu => ((is8_by (List.all_eq_true.1 hc.2 u hu)).1).symm
        rw [this]
    · cases h
  · cases h
theorem secV_inj {s t : Sec} (h : secV s = secV t) : s = t := by
  unfold secV at h
  have h1 : s.map by8 = t.map by8 := by simpa using h
  have h2 := congrArg (List.map num8) h1
  rw [List.map_map, List.map_map] at h2
  have e : ∀ l : List Int, l.map (num8 ∘ by8) = l := fun l => by
    conv => rhs; rw [← List.map_id l]
    exact List.map_congr_left fun x _ => rfl
  rwa [e, e] at h2
theorem secV_one (s : Sec) : ((s.map by8).toArray).all (·.oneCell') = true := by
  rw [Array.all_eq_true_iff_forall_mem]
  intro v hv
  have hv' : v ∈ s.map by8 := by simpa using hv
  obtain ⟨x, _, rfl⟩ := List.mem_map.1 hv'
  rfl
/-- Are sectors the same? -/
theorem secEq {P : Program} (w : World) (t e : TypeId) (ht : P.underlying t = some (.array 32 e)) (he : P.underlying e = some (.int .u8)) (hsz : ∀ w, (sizeOf e).run P w = .ok 1 w)
    {s u : Sec} (hs : IsSec s) (hu : IsSec u) : (binOp .eql t (secV s) (secV u)).run P w = .ok (.bool (s == u)) w := by
  have key : ∀ l : Sec, IsSec l → secV l = .agg ((l.map fun x => x.toNat.toUInt8).map Extern.Stop.cell).toArray := by
    intro l hl
    unfold secV
    rw [List.map_map]
    congr 2
    apply List.map_congr_left
    intro x hx
    have := hl.2 x hx
    simp only [by8, Function.comp, Extern.Stop.cell]
    congr 1
    simp
    omega
  rw [key s hs, key u hu, run_eql_bytes w t e 32 ht he hsz _ _ (by simp [hs.1]) (by simp [hu.1])]
  congr 2
  rw [Bool.eq_iff_iff]
  simp only [beq_iff_eq]
  constructor
  · intro h
    have h2 := congrArg (List.map (fun b : UInt8 => (b.toNat : Int))) h
    rw [List.map_map, List.map_map] at h2
    have e : ∀ l : Sec, IsSec l → l.map ((fun b : UInt8 => (b.toNat : Int)) ∘ fun x => x.toNat.toUInt8) = l := fun l hl => by
      conv => rhs; rw [← List.map_id l]
      apply List.map_congr_left
      intro x hx
      have := hl.2 x hx
      simp
      omega
    rwa [e s hs, e u hu] at h2
  · intro h; rw [h]
theorem law3 : Keyed Try.prog 3 := int_keyed Try.underlying3
theorem zeroS (w : World) : (zeroValue 90).run Try.prog w = .ok (secV zsec) w := by
  have h : (Try.prog.info? 90).map (fun i => i.zero) = some (some (secV zsec)) := by kernel_rfl
  cases hi : Try.prog.info? 90 with
  | none => rw [hi] at h; cases h
  | some i => rw [hi] at h; simp at h; simp [zeroValue, typeInfo, hi, h]
theorem sizeS : (Try.prog.info? 90).map (·.size) = some 32 := by kernel_rfl
theorem zlit : (#[.int .u8 0, .int .u8 0, .int .u8 0, .int .u8 0, .int .u8 0, .int .u8 0, .int .u8 0, .int .u8 0, .int .u8 0, .int .u8 0, .int .u8 0, .int .u8 0, .int .u8 0, .int .u8 0, .int .u8 0, .int .u8 0, .int .u8 0, .int .u8 0, .int .u8 0, .int .u8 0, .int .u8 0, .int .u8 0, .int .u8 0, .int .u8 0, .int .u8 0, .int .u8 0, .int .u8 0, .int .u8 0, .int .u8 0, .int .u8 0, .int .u8 0, .int .u8 0] : Array Value) = (zsec.map by8).toArray := rfl
def ky (i : Int) : Lit := .int .i64 i
/-- What a map of sectors holds for a number. -/
def look (D : DataW Sec) (i : Int) : Option Sec :=
  if Maps.has D (ky i) = true then (match D.atKey (ky i) .nil with | .held s => some s | _ => none) else none
def upd (f : Int → Option Sec) (i : Int) (v : Option Sec) : Int → Option Sec := fun j => if j = i then v else f j
theorem ky_ne {i j : Int} (h : j ≠ i) : ky j ≠ ky i := fun e => h (by unfold ky at e; cases e; rfl)
/-- As many different numbers from 0 below n: at most n. -/
theorem few_keys : ∀ (n : Nat) (l : List Int), l.Pairwise (· ≠ ·) → (∀ x ∈ l, 0 ≤ x ∧ x < n) → l.length ≤ n
  | 0, l, _, h => by
    cases l with
    | nil => simp
    | cons x l => have := h x (by simp); omega
  | n + 1, l, hp, h => by
    have h1 := few_keys n (l.filter fun x => decide (x ≠ (n : Int))) (hp.filter _) (fun x hx => by
      obtain ⟨hx1, hx2⟩ := List.mem_filter.1 hx
      have h3 := h x hx1
      simp at hx2
      omega)
    have h2 : ∀ l : List Int, l.Pairwise (· ≠ ·) → l.length ≤ (l.filter fun x => decide (x ≠ (n : Int))).length + 1 := by
      intro l
      induction l with
      | nil => simp
      | cons x l ih =>
        intro hq
        rw [List.pairwise_cons] at hq
        by_cases hx : x = (n : Int)
        · subst hx
          have : l.filter (fun x => decide (x ≠ (n : Int))) = l := List.filter_eq_self.2 fun y hy => by simpa using (hq.1 y hy).symm
          rw [List.filter_cons_of_neg (by simp), this]
          simp
        · have := ih hq.2
          rw [List.filter_cons_of_pos (by simpa using hx)]
          simp only [List.length_cons]
          omega
    have := h2 l hp
    omega
def kyNum : Lit → Int | .int _ x => x | _ => 0
/-- Block b is a map of the sectors of f; its numbers are below N. -/
def IsM (w : World) (b N : Nat) (f : Int → Option Sec) : Prop :=
  (∃ D, w.ownsMap Try.prog 3 secR b N D ∧ ∀ i, f i = look D i) ∧ ∀ i s, f i = some s → IsSec s ∧ 0 ≤ i ∧ i < N
theorem own_entries {w : World} {b n : Nat} {D : DataW Sec} (h : w.ownsMap Try.prog 3 secR b n D) :
    ∃ es, D = .map es ∧ es.Pairwise (fun p q => p.1 ≠ q.1) ∧ (∀ p ∈ es, ∃ i s, p = (ky i, .held s) ∧ IsSec s) := by
  obtain ⟨es0, e0, hpw, _⟩ := h.entries law3
  refine ⟨es0, e0, hpw, ?_⟩
  obtain ⟨es, clock, hb, F, hs, hD⟩ := h
  rw [e0] at hD
  cases hD
  intro p hp
  rw [mem_sorted, List.mem_map] at hp
  obtain ⟨x, hx, rfl⟩ := hp
  obtain ⟨y, hy⟩ := F.reads x hx
  rw [WideElems.rg_of hy]
  have k1 := WideElems.rd_key hy
  obtain ⟨z, hz, e2⟩ := WideElems.rd_val hy
  obtain ⟨i, _, e3, _⟩ := Maps.keyOf_int_inv Try.underlying3 k1
  obtain ⟨s, h1, h2, h3⟩ := secR_inv hz
  refine ⟨i, s, ?_, h1⟩
  obtain ⟨y1, y2⟩ := y
  simp only at e2 e3
  rw [e3, e2, h3]
  rfl
theorem same_ky {i j : Int} : (ky i).sameKey (ky j) = decide (i = j) := by simp [ky, Lit.sameKey]
/-- What the entries say is what is found. -/
theorem find_mem : ∀ {es : List (Lit × DataW Sec)}, es.Pairwise (fun p q => p.1 ≠ q.1) → ∀ {i : Int} {s : Sec}, (ky i, DataW.held s) ∈ es → es.find? (fun p => p.1.sameKey (ky i)) = some (ky i, DataW.held s)
  | [], _, i, s, hm => by cases hm
  | x :: l, hp, i, s, hm => by
    rw [List.pairwise_cons] at hp
    rcases List.mem_cons.1 hm with rfl | hm'
    · simp [List.find?_cons, same_ky]
    · have hne : x.1 ≠ ky i := hp.1 _ hm'
      rw [List.find?_cons, Maps.sameKey_ne hne]
      exact find_mem hp.2 hm'
theorem has_mem {es : List (Lit × DataW Sec)} {i : Int} {s : Sec} (hm : (ky i, DataW.held s) ∈ es) : Maps.has (.map es) (ky i) = true := by
  rw [Maps.has_eq, List.any_eq_true]; exact ⟨_, hm, by simp [same_ky]⟩
theorem at_mem {es : List (Lit × DataW Sec)} (hp : es.Pairwise (fun p q => p.1 ≠ q.1)) {i : Int} {s : Sec} (hm : (ky i, DataW.held s) ∈ es) (z : DataW Sec) : DataW.atKey (.map es) (ky i) z = .held s := by
  simp [DataW.atKey, find_mem hp hm]
theorem look_mem {es : List (Lit × DataW Sec)} (hp : es.Pairwise (fun p q => p.1 ≠ q.1)) {i : Int} {s : Sec} (hm : (ky i, DataW.held s) ∈ es) : look (.map es) i = some s := by
  unfold look
  rw [if_pos (has_mem hm), at_mem hp hm]
/-- A map with numbers below N has at most N of them. -/
theorem own_few {w : World} {b n N : Nat} {D : DataW Sec} (h : w.ownsMap Try.prog 3 secR b n D) (hk : ∀ i s, look D i = some s → 0 ≤ i ∧ i < N) : w.ownsMap Try.prog 3 secR b N D := by
  obtain ⟨es, e, hp, hs⟩ := own_entries h
  subst e
  have h1 : es.length ≤ N := by
    have := few_keys N (es.map fun p => kyNum p.1) (by
      rw [List.pairwise_map]
      refine hp.imp_of_mem fun {a c} ha hc hne => ?_
      obtain ⟨i, s, rfl, _⟩ := hs a ha
      obtain ⟨j, u, rfl, _⟩ := hs c hc
      intro e
      apply hne
      have : i = j := e
      rw [this]) (fun x hx => by
      obtain ⟨p, hp1, rfl⟩ := List.mem_map.1 hx
      obtain ⟨i, s, rfl, _⟩ := hs p hp1
      exact hk i s (look_mem hp hp1))
    simpa using this
  obtain ⟨es', clock, hb, F, hs', hD⟩ := h
  refine ⟨es', clock, hb, F, ?_, hD⟩
  have : es.length = es'.size := by
    cases hD
    rw [length_read]
  omega
theorem look_none {D : DataW Sec} {i : Int} (h : Maps.has D (ky i) = false) : look D i = none := by unfold look; rw [if_neg (by simp [h])]
/-- What a look gives, both ways. -/
theorem look_at {w : World} {b n : Nat} {D : DataW Sec} (h : w.ownsMap Try.prog 3 secR b n D) (i : Int) (z : Sec) : D.atKey (ky i) (.held z) = .held ((look D i).getD z) ∧ Maps.has D (ky i) = (look D i).isSome := by
  obtain ⟨es, e, hp, hs⟩ := own_entries h
  subst e
  cases hh : Maps.has (.map es) (ky i) with
  | false => rw [Maps.atKey_of_not_has hh, look_none hh]; exact ⟨rfl, rfl⟩
  | true =>
    rw [Maps.has_eq, List.any_eq_true] at hh
    obtain ⟨p, hp1, hp2⟩ := hh
    obtain ⟨j, s, rfl, _⟩ := hs p hp1
    rw [same_ky] at hp2
    simp at hp2
    subst hp2
    rw [look_mem hp hp1, at_mem hp hp1]
    exact ⟨rfl, rfl⟩
theorem keyLit (i : Int) : WideAt.IsKeyLit (ky i) := by unfold ky; trivial
theorem look_put {D : DataW Sec} (h : Maps.IsMap D) (i : Int) (s : Sec) (j : Int) : look (D.put (ky i) (.held s)) j = upd (look D) i (some s) j := by
  unfold upd
  by_cases hj : j = i
  · subst hj
    rw [if_pos rfl]
    unfold look
    rw [Maps.has_put_same h (keyLit _), if_pos rfl, Maps.atKey_put_same h (keyLit _)]
  · rw [if_neg hj]
    unfold look
    rw [Maps.has_put_other (ky_ne hj), Maps.atKey_put_other (ky_ne hj)]
theorem look_del {D : DataW Sec} (i : Int) (j : Int) : look (D.del (ky i)) j = upd (look D) i none j := by
  unfold upd
  by_cases hj : j = i
  · subst hj
    rw [if_pos rfl, look_none Maps.has_del_same]
  · rw [if_neg hj]
    unfold look
    rw [Maps.has_del_other (ky_ne hj), Maps.atKey_del_other (ky_ne hj)]
theorem key3 {i : Int} (h0 : -9223372036854775808 ≤ i) (h1 : i < 9223372036854775808) : keyOf Try.prog 3 (.int .i64 i) = some (ky i) :=
  keyOf_int_mk Try.underlying3 (by simp [Lit.wf, IntKind.min, IntKind.max, IntKind.signed, IntKind.bits]; omega)
end Go.Proofs.Ytllohapbbmnipad
