/-
  What a look, a store, a deletion does to a map of sectors; a sector out of and into a variable; what a disk is.
-/
import Derived.Test.YtllohapbbmnipadDBase
import Derived.Deep.WholeRow
namespace Go.Proofs.Ytllohapbbmnipad
open Go.RowKit Go.ChangeShapes Go.WideShapes Go.ChangeAt Go.Maps
set_option linter.unusedVariables false
set_option linter.unusedSimpArgs false
/-- But for the blocks of S, what was there is as it was. -/
structure Out (S : Nat → Prop) (w w' : World) : Prop where
  os : w'.os = w.os
  tape : w'.tape = w.tape
  output : w'.output = w.output
  size : w.heap.size ≤ w'.heap.size
  block : ∀ k, k < w.heap.size → ¬ S k → w'.heap[k]? = w.heap[k]?
theorem Out.refl (S : Nat → Prop) (w : World) : Out S w w := ⟨rfl, rfl, rfl, Nat.le_refl _, fun _ _ _ => rfl⟩
theorem Out.trans {S : Nat → Prop} {a b c : World} (h : Out S a b) (k : Out S b c) : Out S a c :=
  ⟨k.os.trans h.os, k.tape.trans h.tape, k.output.trans h.output, Nat.le_trans h.size k.size, fun i hi hS => (k.block i (Nat.lt_of_lt_of_le hi h.size) hS).trans (h.block i hi hS)⟩
theorem Out.mono {S T : Nat → Prop} {a b : World} (h : Out S a b) (k : ∀ i, S i → T i) : Out T a b := ⟨h.os, h.tape, h.output, h.size, fun i hi hS => h.block i hi fun e => hS (k i e)⟩
theorem Out.of {S : Nat → Prop} {w w' : World} (h : Below w.heap.size w w') : Out S w w' := ⟨h.os, h.tape, h.output, h.size, fun i hi _ => h.block i hi⟩
theorem Out.below {S : Nat → Prop} {w w' : World} {B : Nat} (h : Out S w w') (hB : B ≤ w.heap.size) (hS : ∀ k, S k → B ≤ k) : Below B w w' :=
  ⟨h.os, h.tape, h.output, h.size, fun i hi => h.block i (by omega) (fun e => by have := hS i e; omega)⟩
theorem Out.alloc {S : Nat → Prop} {a w : World} (h : Out S a w) (o : Obj) : Out S a (w.alloc o) :=
  h.trans (Out.of ((Below.refl _ _).alloc (Nat.le_refl _) o))
theorem Out.turned {S : Nat → Prop} {w w' : World} {b : Nat} (h : w.mapTurned w' b) (hS : S b) : Out S w w' :=
  have g := h.grown
  ⟨g.os, g.tape, g.output, g.size, fun i hi hn => g.block i hi (fun e => by cases e; exact hn hS)⟩
theorem Out.grown {S : Nat → Prop} {w w' : World} {row : Option Nat} (g : w.grownBy w' row) (hS : ∀ k, row = some k → S k) : Out S w w' :=
  ⟨g.os, g.tape, g.output, g.size, fun i hi hn => g.block i hi (fun e => hn (hS i e.symm))⟩
theorem Out.drew {S : Nat → Prop} {a w : World} (h : Out S a w) : Out S a w.drew := ⟨h.os, h.tape, h.output, h.size, h.block⟩
theorem lt_blk {w : World} {g : Nat} {o : Obj} (h : w.heap[g]? = some o) : g < w.heap.size := by
  have := (Array.getElem?_eq_some_iff.1 h).1; exact this
theorem IsM.lt {w : World} {b N : Nat} {f : Int → Option Sec} (h : IsM w b N f) : b < w.heap.size := by
  obtain ⟨⟨D, ho, _⟩, _⟩ := h; exact ho.lt
theorem IsM.out {S : Nat → Prop} {w w' : World} {b N : Nat} {f : Int → Option Sec} (h : IsM w b N f) (ho : Out S w w') (hS : ¬ S b) : IsM w' b N f := by
  have hl := h.lt
  obtain ⟨⟨D, ⟨es, clock, hb, r⟩, hf⟩, h2⟩ := h
  exact ⟨⟨D, ⟨es, clock, by rw [ho.block b hl hS]; exact hb, r⟩, hf⟩, h2⟩
theorem ranges_out {S : Nat → Prop} {w w' : World} {b r n : Nat} {D : DataW Sec} {left : Lit → Bool} {cnt : Nat} (h : w.ranges Try.prog 3 secR b r n D left cnt) (ho : Out S w w') (hb : ¬ S b) (hr : ¬ S r) :
    w'.ranges Try.prog 3 secR b r n D left cnt := by
  have l1 := h.owns.lt
  have l2 := h.lt
  obtain ⟨es, clock, since, seen, c0, e1, F, s1, e2, e3, q⟩ := h
  exact ⟨es, clock, since, seen, c0, by rw [ho.block b l1 hb]; exact e1, F, s1, e2, by rw [ho.block r l2 hr]; exact e3, q⟩
theorem IsM.ext {w : World} {b N : Nat} {f g : Int → Option Sec} (h : IsM w b N f) (e : ∀ i, g i = f i) : IsM w b N g := by
  have : g = f := funext e
  rw [this]; exact h
theorem IsM.made (w : World) (N : Nat) : IsM (w.alloc (.map #[] 0)) w.heap.size N (fun _ => none) :=
  ⟨⟨.map [], (World.ownsMap_made w Try.prog 3 secR).mono (Nat.zero_le _), fun i => by simp [look, Maps.has]⟩, fun i s h => by cases h⟩
theorem bd_key {i : Int} {N : Nat} (h0 : 0 ≤ i) (h1 : i < N) (hN : N ≤ 2048) : -9223372036854775808 ≤ i ∧ i < 9223372036854775808 := by omega
/-- A store. -/
theorem IsM.store {w : World} {b N : Nat} {f : Int → Option Sec} (h : IsM w b N f) {i : Int} (h0 : 0 ≤ i) (h1 : i < N) (hN : N ≤ 2048) {s : Sec} (hs : IsSec s) :
    ∃ w', (Instr.mapUpdate 53 (.map (some b)) (.int .i64 i) (secV s)).run Try.prog w = .ok () w' ∧ IsM w' b N (upd f i (some s)) ∧ w.mapTurned w' b := by
  obtain ⟨⟨D, ho, hf⟩, h2⟩ := h
  have hb := bd_key h0 h1 hN
  obtain ⟨w', hrun, ho', ht⟩ := ho.store law3 Try.underlying53 (by unfold maxLen; omega) (key3 hb.1 hb.2) (secR_mk hs)
  have h3 : ∀ j u, upd f i (some s) j = some u → IsSec u ∧ 0 ≤ j ∧ j < N := by
    intro j u hu
    unfold upd at hu
    split at hu
    · rename_i e; have e2 := Option.some.inj hu; rw [e, ← e2]; exact ⟨hs, h0, h1⟩
    · exact h2 j u hu
  have h4 : ∀ j, upd f i (some s) j = look (D.put (ky i) (.held s)) j := fun j => by
    rw [look_put ho.isMap]; unfold upd; rw [hf]
  exact ⟨w', hrun, ⟨⟨_, own_few ho' (fun j u hu => (h3 j u (by rw [h4]; exact hu)).2), h4⟩, h3⟩, ht⟩
/-- A deletion; a range over the map that is under way goes on without it. -/
theorem IsM.drop {w : World} {b N : Nat} {f : Int → Option Sec} (h : IsM w b N f) {i : Int} (h0 : -9223372036854775808 ≤ i) (h1 : i < 9223372036854775808) (ty : TypeId) :
    ∃ w', (Builtin.delete_ #[53, 3] ty #[.map (some b), .int .i64 i]).run Try.prog w = .ok (.tuple #[]) w' ∧ IsM w' b N (upd f i none) ∧ w.mapTurned w' b ∧
      ∀ r n D left cnt, w.ranges Try.prog 3 secR b r n D left cnt → ∃ cnt', w'.ranges Try.prog 3 secR b r n (D.del (ky i)) (fun z => left z && !z.sameKey (ky i)) cnt' ∧ cnt' ≤ cnt := by
  obtain ⟨⟨D, ho, hf⟩, h2⟩ := h
  obtain ⟨w', hrun, ho', ht⟩ := ho.drop law3 Try.underlying53 (key3 h0 h1) ty
  refine ⟨w', hrun, ⟨⟨_, ho', fun j => ?_⟩, fun j u hu => ?_⟩, ht, fun r n D' left cnt hr => ?_⟩
  · rw [look_del]; unfold upd; rw [hf]
  · unfold upd at hu
    split at hu
    · cases hu
    · exact h2 j u hu
  · obtain ⟨w2, cnt', hrun2, r1, r2, _⟩ := hr.drop law3 Try.underlying53 (key3 h0 h1) ty
    rw [hrun] at hrun2
    cases hrun2
    exact ⟨cnt', r1, r2⟩
/-- A map emptied. -/
theorem IsM.clear {w : World} {b N : Nat} {f : Int → Option Sec} (h : IsM w b N f) (ty : TypeId) :
    ∃ w', (Builtin.clear_ #[53] ty #[.map (some b)]).run Try.prog w = .ok (.tuple #[]) w' ∧ IsM w' b N (fun _ => none) ∧ w.mapTurned w' b := by
  obtain ⟨⟨D, ⟨es, clock, hb, F, hs, hD⟩, hf⟩, h2⟩ := h
  refine ⟨ChangeMaps.setBlock w b (.map #[] clock), ?_, ⟨⟨.map [], ⟨#[], clock, ChangeMaps.heap_setBlock_same hb _, ⟨by simp, ?_, by simp⟩, by simp, by simp⟩, fun i => by simp [look, Maps.has]⟩, fun i s h => by cases h⟩, ⟨es, clock, #[], clock, hb, rfl⟩⟩
  · simp [Builtin.clear_, run_underlying Try.underlying53, MapKept.run_getObj_map hb, MapKept.run_setObj_map _ hb, Result.andThen, ChangeMaps.setBlock]
  · exact MapKept.stamped_empty clock
section
variable (w : World) {ops : Array Oper} {rest : List Oper} {o : Oper} {a : Act} {Q : Exit → Act → World → Prop}
/-- 's, ok := m[i]'. -/
theorem wpList_look_ok (hg : o.guard = none) (m x : Operand) (hop : o.op = Op.lookup 53 m x true) (b N : Nat) (f : Int → Option Sec) (hm : a.eval m = .map (some b)) (h : IsM w b N f)
    (i : Int) (hx : a.eval x = .int .i64 i) (h0 : -9223372036854775808 ≤ i) (h1 : i < 9223372036854775808)
    (hK : wpList Try.prog ops Q rest (a.put o.dst (.tuple #[secV ((f i).getD zsec), .bool (f i).isSome])) w) : wpList Try.prog ops Q (o :: rest) a w := by
  obtain ⟨⟨D, ho, hf⟩, _⟩ := h
  refine wpList_lookup_own_ok w hg m x 53 hop 3 90 law3 Try.underlying53 secR (zeroS w) (.held zsec) [] (secR_mk zsec_is) b N D hm ho _ (ky i) hx (key3 h0 h1) ?_
  intro v ps hv
  obtain ⟨e1, e2⟩ := look_at ho i zsec
  rw [e1] at hv
  obtain ⟨s, _, rfl, e3⟩ := secR_inv hv
  cases e3
  rw [e2, ← hf i]
  exact hK
/-- 'm[i]'. -/
theorem wpList_look (hg : o.guard = none) (m x : Operand) (hop : o.op = Op.lookup 53 m x false) (b N : Nat) (f : Int → Option Sec) (hm : a.eval m = .map (some b)) (h : IsM w b N f)
    (i : Int) (hx : a.eval x = .int .i64 i) (h0 : -9223372036854775808 ≤ i) (h1 : i < 9223372036854775808)
    (hK : wpList Try.prog ops Q rest (a.put o.dst (secV ((f i).getD zsec))) w) : wpList Try.prog ops Q (o :: rest) a w := by
  obtain ⟨⟨D, ho, hf⟩, _⟩ := h
  obtain ⟨v, ps, hrun, hv⟩ := ho.lookup law3 Try.underlying53 (zeroS w) (secR_mk zsec_is) (key3 h0 h1)
  obtain ⟨e1, e2⟩ := look_at ho i zsec
  rw [e1] at hv
  obtain ⟨s, _, rfl, e3⟩ := secR_inv hv
  cases e3
  refine wpList_plain hg fun K' hK' => ?_
  unfold Oper.wp
  simp only [execOp, hop, hm, hx, Sem.run_bind, hrun, Result.andThen, Sem.run_pure]
  rw [← hf i]
  exact hK' _ _ hK
/-- 'delete(m, i)'. -/
theorem wpList_drop (hg : o.guard = none) (m x : Operand) (hop : o.op = Op.call { callee := Callee.builtin Builtin.delete, args := #[m, x], argTypes := #[53, 3] }) (b N : Nat) (f : Int → Option Sec) (hm : a.eval m = .map (some b)) (h : IsM w b N f)
    (i : Int) (hx : a.eval x = .int .i64 i) (h0 : -9223372036854775808 ≤ i) (h1 : i < 9223372036854775808)
    (hK : ∀ w', IsM w' b N (upd f i none) → w.mapTurned w' b →
      (∀ r n D left cnt, w.ranges Try.prog 3 secR b r n D left cnt → ∃ cnt', w'.ranges Try.prog 3 secR b r n (D.del (ky i)) (fun z => left z && !z.sameKey (ky i)) cnt' ∧ cnt' ≤ cnt) → wpList Try.prog ops Q rest (a.put o.dst (.tuple #[])) w') :
    wpList Try.prog ops Q (o :: rest) a w := by
  refine wpList_plain hg fun K' hK' => ?_
  obtain ⟨w', hrun, r1, r2, r3⟩ := h.drop h0 h1 o.type
  unfold Oper.wp
  simp [execOp, hop, resolve, invoke, builtin, hm, hx, hrun, Result.andThen]
  exact hK' _ _ (hK w' r1 r2 r3)
/-- 'clear(m)'. -/
theorem wpList_clear (hg : o.guard = none) (m : Operand) (hop : o.op = Op.call { callee := Callee.builtin Builtin.clear, args := #[m], argTypes := #[53] }) (b N : Nat) (f : Int → Option Sec) (hm : a.eval m = .map (some b)) (h : IsM w b N f)
    (hK : ∀ w', IsM w' b N (fun _ => none) → w.mapTurned w' b → wpList Try.prog ops Q rest (a.put o.dst (.tuple #[])) w') :
    wpList Try.prog ops Q (o :: rest) a w := by
  refine wpList_plain hg fun K' hK' => ?_
  obtain ⟨w', hrun, r1, r2⟩ := h.clear o.type
  unfold Oper.wp
  simp [execOp, hop, resolve, invoke, builtin, hm, hrun, Result.andThen]
  exact hK' _ _ (hK w' r1 r2)
/-- A sector into the variable that was made last. -/
theorem wpList_storeS (hg : o.guard = none) (x y : Operand) (T : TypeId) (hop : o.op = .store T x y) (hT : (Try.prog.info? T).map (·.size) = some 32) (H : Nat) (hx : a.eval x = .pointer (some ⟨H, 0, none⟩)) (hH : w.heap.size = H) (s : Sec) (hy : a.eval y = secV s) (hs : s.length = 32)
    (c : Array Value) (hc : c.size = 32) (h : wpList Try.prog ops Q rest (a.put o.dst undef) (w.alloc (.cells (s.map by8).toArray T))) : wpList Try.prog ops Q (o :: rest) a (w.alloc (.cells c T)) := by
  subst hH
  refine wpList_store_row hg T x y hop w.heap.size (s.map by8).toArray hx hy T c (heap_alloc_new w _) (by rw [hT]; simp [hs]) (by simp [hs, hc]) (secV_one s) ?_
  rw [World.setRow_alloc_new]
  exact h
/-- A sector out of a variable. -/
theorem wpList_loadS (hg : o.guard = none) (x : Operand) (T : TypeId) (hop : o.op = .load T x) (hT : (Try.prog.info? T).map (·.size) = some 32) {e : TypeId} (hu : Try.prog.underlying T = some (.array 32 e)) (g : Nat) (hx : a.eval x = .pointer (some ⟨g, 0, none⟩)) (s : Sec) (hs : s.length = 32)
    (t : TypeId) (fr : Nat × Nat) (hb : w.heap[g]? = some (.cells (s.map by8).toArray t fr)) (h : wpList Try.prog ops Q rest (a.put o.dst (secV s)) w) : wpList Try.prog ops Q (o :: rest) a w :=
  wpList_load_row hg T x hop g hx t (s.map by8).toArray fr _ hb hu rfl (by rw [hT]; simp [hs]) h
end
/-- A disk: its struct in block d, what is on it in the map b1, its buffer in the map b2. -/
def IsD (w : World) (d b1 b2 N : Nat) (on : Int → Sec) (c : Int → Option Sec) : Prop :=
  w.heap[d]? = some (.cells #[.int .i64 N, .map (some b1), .map (some b2)] 55 (0, 0)) ∧ b1 ≠ b2 ∧ 1 ≤ N ∧ N ≤ 2048 ∧ IsM w b2 N c ∧ ∃ m, IsM w b1 N m ∧ ∀ i, on i = (m i).getD zsec
theorem IsD.out {S : Nat → Prop} {w w' : World} {d b1 b2 N : Nat} {on : Int → Sec} {c : Int → Option Sec} (h : IsD w d b1 b2 N on c) (ho : Out S w w') (hd : ¬ S d) (h1 : ¬ S b1) (h2 : ¬ S b2) : IsD w' d b1 b2 N on c := by
  obtain ⟨e, ne, n1, n2, hc, m, hm, he⟩ := h
  exact ⟨by rw [ho.block d (lt_blk e) hd]; exact e, ne, n1, n2, hc.out ho h2, m, hm.out ho h1, he⟩
theorem IsD.later {w w' : World} {d b1 b2 N : Nat} {on : Int → Sec} {c : Int → Option Sec} (h : IsD w d b1 b2 N on c) (hb : Below w.heap.size w w') : IsD w' d b1 b2 N on c :=
  h.out (S := fun _ => False) (Out.of hb) id id id
theorem IsD.cells {w : World} {d b1 b2 N : Nat} {on : Int → Sec} {c : Int → Option Sec} (h : IsD w d b1 b2 N on c) :
    w.cell? ⟨d, 0, none⟩ = some (.int .i64 N) ∧ w.cell? ⟨d, 1, none⟩ = some (.map (some b1)) ∧ w.cell? ⟨d, 2, none⟩ = some (.map (some b2)) ∧ d < w.heap.size ∧ b1 < w.heap.size ∧ b2 < w.heap.size ∧ d ≠ b1 ∧ d ≠ b2 ∧ b1 ≠ b2 := by
  obtain ⟨e, ne, n1, n2, hc, m, hm, he⟩ := h
  refine ⟨by simp [World.cell?, e], by simp [World.cell?, e], by simp [World.cell?, e], lt_blk e, hm.lt, hc.lt, ?_, ?_, ne⟩
  · intro h
    obtain ⟨⟨D, ⟨es, clock, hb, _⟩, _⟩, _⟩ := hm
    rw [← h, e] at hb; cases hb
  · intro h
    obtain ⟨⟨D, ⟨es, clock, hb, _⟩, _⟩, _⟩ := hc
    rw [← h, e] at hb; cases hb
end Go.Proofs.Ytllohapbbmnipad
