/-
  
-/
import Derived.Test.YtpolbbdaippclaaGreatNsAv
import Derived.Laws.ResultCell
namespace Go.Proofs.YtpolbbdaippclaaGreat
open Go.RowKit Go.ChangeShapes Go.WideShapes Go.ChangeAt Go.Maps
set_option linter.unusedVariables false
set_option linter.unusedSimpArgs false
theorem range_sec {w : World} {g : Nat} {s : Sec} {t : TypeId} {fr : Nat × Nat} (h : w.heap[g]? = some (.cells (s.map by8).toArray t fr)) : w.rangeAt g 0 (s.map by8) := fun j v hv => by
 rw [Nat.zero_add, cell_of_row _ _ _ _ _ _ h]; simpa using hv
abbrev pD (d : Nat) : Value := .pointer (some ⟨d, 0, none⟩)
def faultB (N : Nat) (i : Int) : Int := if 0 ≤ i ∧ i < N then 0 else 2
set_option maxHeartbeats 400000 in
theorem fault_c {w : World} {d b1 b2 N : Nat} {on : Int → Sec} {c : Int → Option Sec} (h : IsD w d b1 b2 N on c) (i : Int) : Calls Tryz.prog 162 #[pD d, .int .i64 i] w fun e w' => e = .returned (.int .i64 (faultB N i)) ∧ w' = w := by
 obtain ⟨c0, c1, c2, l0, l1, l2, d1, d2, d3⟩ := h.cells
 clear h c1 c2 l1 l2 d1 d2 d3
 by_cases h0 : i < 0
 · have e : faultB N i = 2 := by unfold faultB; rw [if_neg (by omega)]
   have E := hid e
   clear e
   go_enter Tryz.func162, Tryz.ntmps162
   go_wp2
   go_ret
   exact ⟨ret_int E.out.symm, rfl⟩
 · by_cases h1 : (N : Int) ≤ i
   · have e : faultB N i = 2 := by unfold faultB; rw [if_neg (by omega)]
     have E := hid e
     clear e
     go_enter Tryz.func162, Tryz.ntmps162
     go_wp2
     go_ret
     exact ⟨ret_int E.out.symm, rfl⟩
   · have e : faultB N i = 0 := by unfold faultB; rw [if_pos (by omega)]
     have E := hid e
     clear e
     go_enter Tryz.func162, Tryz.ntmps162
     go_wp2
     go_ret
     exact ⟨ret_int E.out.symm, rfl⟩
set_option maxHeartbeats 400000 in
theorem new_c (N : Nat) (w : World) (h1 : 1 ≤ N) (h2 : N ≤ 2048) : Calls Tryz.prog 8 #[.int .i64 N] w fun e w' =>
   e = .returned (pD (w.heap.size + 2)) ∧ IsD w' (w.heap.size + 2) w.heap.size (w.heap.size + 1) N (fun _ => zsec) (fun _ => none) ∧ Below w.heap.size w w' ∧ w'.heap.size = w.heap.size + 3 := by
 have hmm := @run_makeMap Tryz.prog
 have g1 : ¬ (N : Int) < 1 := by omega
 have g2 : ¬ (2048 : Int) < (N : Int) := by omega
 go_enter Tryz.func8, Tryz.ntmps8
 go_wp2
 go_ret
 refine ⟨rfl, ⟨?_, by omega, h1, h2, ?_, fun _ => none, ?_, fun _ => rfl⟩, ?_, by simp⟩
 · have := heap_alloc_new ((w.alloc (.map #[] 0)).alloc (.map #[] 0)) (.cells #[.int .i64 N, .map (some w.heap.size), .map (some (w.heap.size + 1))] 82 (0, 0))
   simpa using this
 · have := IsM.made (w.alloc (.map #[] 0)) N
   have h3 := this.out (S := fun _ => False) ((Out.refl _ _).alloc (.cells #[.int .i64 N, .map (some w.heap.size), .map (some (w.heap.size + 1))] 82 (0, 0))) id
   simpa using h3
 · have := IsM.made w N
   exact this.out (S := fun _ => False) (((Out.refl _ _).alloc _).alloc _) id
 · exact (((Below.refl _ _).alloc (Nat.le_refl _) _).alloc (by simp) _).alloc (by simp; omega) _
set_option maxHeartbeats 400000 in
theorem size_c {w : World} {d b1 b2 N : Nat} {on : Int → Sec} {c : Int → Option Sec} (h : IsD w d b1 b2 N on c) : Calls Tryz.prog 35 #[pD d] w fun e w' => e = .returned (.int .i64 N) ∧ w' = w := by
 obtain ⟨c0, c1, c2, l0, l1, l2, d1, d2, d3⟩ := h.cells
 clear h c1 c2 l1 l2 d1 d2 d3
 go_enter Tryz.func35, Tryz.ntmps35
 go_wp2
 go_ret
 exact ⟨rfl, rfl⟩
set_option maxRecDepth 100000 in
set_option maxHeartbeats 1000000 in
theorem write_c {w : World} {d b1 b2 N : Nat} {on : Int → Sec} {c : Int → Option Sec} (h : IsD w d b1 b2 N on c) (i : Int) (s : Sec) (hs : IsSec s) (h0 : 0 ≤ i) (h1 : i < N) :
   Calls Tryz.prog 118 #[pD d, .int .i64 i, secV s] w fun e w' => e = .returned (.int .i64 0) ∧ IsD w' d b1 b2 N on (upd c i (some s)) ∧ Out (fun k => k = b2) w w' := by
 unfold secV
 have hb1 : Below w.heap.size w (w.alloc (.cells (s.map by8).toArray 134)) := (Below.refl _ _).alloc (Nat.le_refl _) _
 have hf := fault_c (h.later hb1) i
 have e : faultB N i = 0 := by unfold faultB; rw [if_pos (by omega)]
 rw [e] at hf
 clear e
 have H := hid h
 have h' := h.later hb1
 have hr : (w.alloc (.cells (s.map by8).toArray 134)).heap[w.heap.size]? = some (.cells (s.map by8).toArray 134) := heap_alloc_new w _
 have hlt : w.heap.size < (w.alloc (.cells (s.map by8).toArray 134)).heap.size := by simp
 have B0 := hid hb1
 clear h hb1
 go_enter Tryz.func118, Tryz.ntmps118
 go_wp2_with (go_at_call 162; refine hf.mono ?_; rintro e w' ⟨rfl, rfl⟩)
 clear hf
 generalize (w.alloc (.cells (s.map by8).toArray 134)) = W at *
 obtain ⟨c0, c1, c2, l0, l1, l2, d1, d2, d3⟩ := h'.cells
 have hR : W.rangeAt w.heap.size 0 (s.map by8) := range_sec hr
 have hu := Tryz.underlying134
 have hi : (Tryz.prog.info? 134).map (·.size) = some (s.map by8).length := by rw [sizeS]; simp [hs.1]
 have hl32 : (s.map by8).length = 32 := by simp [hs.1]
 have h1c : ∀ v ∈ s.map by8, v.oneCell' = true := fun v hv => by obtain ⟨x, _, rfl⟩ := List.mem_map.1 hv; rfl
 obtain ⟨w1, hmu, m1, t1⟩ := IsM.store (w := W.drew) (b := b2) (N := N) (f := c) h'.2.2.2.2.1 h0 h1 h'.2.2.2.1 hs
 have o1 : Out (fun k => k = b2) W w1 := ((Out.refl _ W).drew).trans (Out.turned t1 rfl)
 have k1 : w1.cell? ⟨d, 2, none⟩ = some (.map (some b2)) := by
   rw [← c2]; exact World.cell?_of_block (o1.block d l0 d2)
 have k2 : w1.rangeAt w.heap.size 0 (s.map by8) := range_sec (by rw [o1.block w.heap.size hlt (fun e => by have := H.out.cells; omega)]; exact hr)
 have M1 := hid m1
 have O1 := hid o1
 unfold secV at hmu
 clear m1 o1 t1
 go_region_held3 (fun w' => w'.cell? ⟨d, 2, none⟩ = some (.map (some b2)) ∧ w'.rangeAt w.heap.size 0 (s.map by8)) (first | go_keep_ranges | exact ⟨k1, k2⟩) (fail)
 go_wp2
 go_ret
 have O2 := (Out.of (S := fun k => k = b2) B0.out).trans O1.out
 obtain ⟨e1, e2, e3, e4, e5, m, e6, e7⟩ := H.out
 obtain ⟨_, _, _, _, _, _, q1, q2, q3⟩ := H.out.cells
 exact ⟨rfl, ⟨by rw [O2.block d (lt_blk e1) q2]; exact e1, e2, e3, e4, M1.out, m, e6.out O2 q3, e7⟩, O2⟩
theorem row_other (w : World) (g k : Nat) (cs : Array Value) (h : k ≠ g) : (w.setRow g cs).heap[k]? = w.heap[k]? := by
 unfold World.setRow
 rw [Array.getElem?_modify, if_neg (by omega)]
theorem Out.setRow {S : Nat → Prop} (w : World) (g : Nat) (cs : Array Value) (h : S g) : Out S w (w.setRow g cs) :=
 ⟨rfl, rfl, rfl, by simp [World.setRow], fun k _ hk => row_other w g k cs (fun e => hk (by rw [e]; exact h))⟩
theorem Below.setRow {w v : World} {B : Nat} (h : Below B w v) (g : Nat) (cs : Array Value) (hg : B ≤ g) : Below B w (v.setRow g cs) :=
 ⟨h.os, h.tape, h.output, by simp [World.setRow]; exact h.size, fun k hk => by rw [row_other v g k cs (by omega)]; exact h.block k hk⟩
theorem wpList_storeA (w : World) {ops : Array Oper} {rest : List Oper} {o : Oper} {a : Act} {Q : Exit → Act → World → Prop} (hg : o.guard = none) (x y : Operand) (T : TypeId) (hop : o.op = .store T x y) (hT : (Tryz.prog.info? T).map (·.size) = some 32)
   (g : Nat) (hx : a.eval x = .pointer (some ⟨g, 0, none⟩)) (s : Sec) (hy : a.eval y = secV s) (hs : s.length = 32)
   (t : TypeId) (c : Array Value) (hb : w.heap[g]? = some (.cells c t (0, 0))) (hc : c.size = 32)
   (h : ∀ w', w'.heap[g]? = some (.cells (s.map by8).toArray t (0, 0)) → Out (fun k => k = g) w w' → w'.heap.size = w.heap.size → wpList Tryz.prog ops Q rest (a.put o.dst undef) w') : wpList Tryz.prog ops Q (o :: rest) a w := by
 refine wpList_store_row hg T x y hop g (s.map by8).toArray hx hy t c hb (by rw [hT]; simp [hs]) (by simp [hs, hc]) (secV_one s) ?_
 exact h _ (setRow_heap w g c _ t (0, 0) hb) (Out.setRow w g _ rfl) (by simp [World.setRow])
theorem res_sec {fn : Func} {p u : Tmp} {ty e : TypeId} (h : fn.results = #[.cell p ty, .tmp u]) (tmps : Array Value) (w : World) (hT : (Tryz.prog.info? ty).map (·.size) = some 32) (hu : Tryz.prog.underlying ty = some (.array 32 e))
   (g : Nat) (hp : tmps.getD p undef = .pointer (some ⟨g, 0, none⟩)) (s : Sec) (hs : s.length = 32) (t : TypeId) (fr : Nat × Nat) (hb : w.heap[g]? = some (.cells (s.map by8).toArray t fr)) (v : Value) (hv : tmps.getD u undef = v) :
   (results fn tmps).run Tryz.prog w = .ok (.tuple #[secV s, v]) w := by
 have hl := run_loadVar_row (P := Tryz.prog) w g t ty (s.map by8).toArray fr _ hb hu rfl (by rw [hT]; simp [hs])
 rw [results_cell_tmp h, hp, hv]
 simp [asAddr, Result.andThen, hl, secV]
theorem two_last (w : World) (o p : Obj) : ((w.alloc o).alloc p).heap[w.heap.size + 1]? = some p := by
 have := heap_alloc_new (w.alloc o) p
 simpa using this
theorem two_alloc (w : World) (o p : Obj) : ((w.alloc o).alloc p).heap[w.heap.size]? = some o := by
 rw [Below.heap_alloc _ _ _ (by simp)]; exact heap_alloc_new w o
set_option maxRecDepth 100000 in
set_option maxHeartbeats 1000000 in
theorem read_c {w : World} {d b1 b2 N : Nat} {on : Int → Sec} {c : Int → Option Sec} (h : IsD w d b1 b2 N on c) (i : Int) (h0 : 0 ≤ i) (h1 : i < N) :
   Calls Tryz.prog 138 #[pD d, .int .i64 i] w fun e w' => e = .returned (.tuple #[secV ((c i).getD (on i)), .int .i64 0]) ∧ Below w.heap.size w w' := by
 have zz := zlit
 have hb1 : Below w.heap.size w (w.alloc (.cells (zsec.map by8).toArray 134)) := (Below.refl _ _).alloc (Nat.le_refl _) _
 have hf := fault_c (h.later hb1) i
 have e : faultB N i = 0 := by unfold faultB; rw [if_pos (by omega)]
 rw [e] at hf
 have hb := bd_key h0 h1 h.2.2.2.1
 have h' := h.later hb1
 obtain ⟨c0, c1, c2, l0, l1, l2, d1, d2, d3⟩ := h.cells
 have c2' : (w.alloc (.cells (zsec.map by8).toArray 134)).cell? ⟨d, 2, none⟩ = some (.map (some b2)) := h'.cells.2.2.1
 have HM : Hid (IsM (w.alloc (.cells (zsec.map by8).toArray 134)) b2 N c) := h'.2.2.2.2.1
 cases hci : c i with
 | some s =>
   have hs : IsSec s := (h.2.2.2.2.1.2 i s hci).1
   have EC := hid hci
   clear e h h' hci c0 c1 c2
   go_enter Tryz.func138, Tryz.ntmps138
   go_wp2_with (first
     | (go_at_call 162; refine hf.mono ?_; rintro e w' ⟨rfl, rfl⟩)
     | (at_lookup; refine wpList_look_ok _ rfl _ _ rfl b2 N c rfl HM.out i rfl hb.1 hb.2 ?_; rw [EC.out]; simp only [Option.getD_some, Option.isSome_some])
     | (refine wpList_storeS _ rfl _ _ _ rfl sizeS _ rfl (by simp) s rfl hs.1 _ (by simp; decide) ?_)
     | (refine wpList_loadS _ rfl _ _ rfl sizeS Tryz.underlying134 _ rfl s hs.1 _ _ (two_last w _ _) ?_)
     | (refine wpList_storeA _ rfl _ _ _ rfl sizeS _ rfl s rfl hs.1 _ _ (two_alloc w _ _) (by simp; decide) ?_; intro w4 k1 k2 k3))
   exact bodyPost_ret (v := .tuple #[secV s, .int .i64 0]) (res_sec rfl _ _ sizeS Tryz.underlying134 w.heap.size rfl s hs.1 _ _ k1 _ rfl) rfl ⟨rfl, hb1.trans (((Below.refl _ _).alloc (by simp) _).trans (k2.below (by simp; omega) (fun k e => by omega)))⟩
 | none =>
   obtain ⟨m, hm, he⟩ := h'.2.2.2.2.2
   have hs : IsSec ((m i).getD zsec) := by
     cases hmi : m i with
     | none => exact zsec_is
     | some u => exact (hm.2 i u hmi).1
   have c1' : (w.alloc (.cells (zsec.map by8).toArray 134)).cell? ⟨d, 1, none⟩ = some (.map (some b1)) := h'.cells.2.1
   have EC := hid hci
   have HE := hid he
   have HM1 := hid hm
   clear e h h' hci c0 c1 c2 he hm
   go_enter Tryz.func138, Tryz.ntmps138
   go_wp2_with (first
     | (go_at_call 162; refine hf.mono ?_; rintro e w' ⟨rfl, rfl⟩)
     | (at_lookup; refine wpList_look_ok _ rfl _ _ rfl b2 N c rfl HM.out i rfl hb.1 hb.2 ?_; rw [EC.out]; simp only [Option.getD_none, Option.isSome_none])
     | (at_lookup; refine wpList_look _ rfl _ _ rfl b1 N m rfl (HM1.out.out (S := fun _ => False) ((Out.refl _ _).alloc _) id) i rfl hb.1 hb.2 ?_)
     | (refine wpList_storeS _ rfl _ _ _ rfl sizeS _ rfl (by simp) zsec rfl zsec_is.1 _ (by simp; decide) ?_)
     | (refine wpList_storeA _ rfl _ _ _ rfl sizeS _ rfl ((m i).getD zsec) rfl hs.1 _ _ (two_alloc w _ _) (by simp; decide) ?_; intro w4 k1 k2 k3))
   exact bodyPost_ret (v := .tuple #[secV ((m i).getD zsec), .int .i64 0]) (res_sec rfl _ _ sizeS Tryz.underlying134 w.heap.size rfl _ hs.1 _ _ k1 _ rfl) rfl ⟨by rw [HE.out]; rfl, hb1.trans (((Below.refl _ _).alloc (by simp) _).trans (k2.below (by simp; omega) (fun k e => by omega)))⟩
theorem size8 (w : World) : (sizeOf 5).run Tryz.prog w = .ok 1 w := by
 have h : (Tryz.prog.info? 5).map (·.size) = some 1 := by kernel_rfl
 cases hi : Tryz.prog.info? 5 with
 | none => rw [hi] at h; cases h
 | some i => rw [hi] at h; simp at h; simp [sizeOf, typeInfo, hi, h]
theorem guardS : Tryz.prog.eqGuardType Tryz.prog.depth 134 = false := by kernel_rfl
theorem wpList_eqlS (w : World) {ops : Array Oper} {rest : List Oper} {o : Oper} {a : Act} {Q : Exit → Act → World → Prop} (hg : o.guard = none) (x y : Operand) (t : TypeId) (hop : o.op = .binOp .eql 134 x y t)
   (s u : Sec) (hx : a.eval x = secV s) (hy : a.eval y = secV u) (hs : IsSec s) (hu : IsSec u) (h : wpList Tryz.prog ops Q rest (a.put o.dst (.bool (s == u))) w) : wpList Tryz.prog ops Q (o :: rest) a w := by
 refine wpList_plain hg fun K' hK' => ?_
 have e1 := secEq (P := Tryz.prog) w 134 5 Tryz.underlying134 Tryz.underlying5 size8 hs hu
 have e2 : (eqGuard .eql 134 x y (secV s) (secV u)).run Tryz.prog w = .ok () w := run_eqGuard_agg w .eql 134 x y _ _ guardS
 unfold Oper.wp
 simp only [execOp, hop, hx, hy, Sem.run_bind, e1, e2, Result.andThen, Sem.run_pure]
 exact hK' _ _ h
def updS (on : Int → Sec) (i : Int) (s : Sec) : Int → Sec := fun j => if j = i then s else on j
set_option maxRecDepth 100000 in
set_option maxHeartbeats 2000000 in
theorem settle_some {w : World} {d b1 b2 N : Nat} {on : Int → Sec} {c : Int → Option Sec} (h : IsD w d b1 b2 N on c) (i : Int) {s : Sec} (hci : c i = some s) :
   Calls Tryz.prog 119 #[pD d, .int .i64 i] w fun e w' => e = .returned (.tuple #[]) ∧ IsD w' d b1 b2 N (updS on i s) (upd c i none) ∧ Out (fun k => k = b1 ∨ k = b2) w w' ∧
     ∀ r n D left cnt, r ≠ b1 → w.ranges Tryz.prog 3 secR b2 r n D left cnt → ∃ cnt', w'.ranges Tryz.prog 3 secR b2 r n (D.del (ky i)) (fun z => left z && !z.sameKey (ky i)) cnt' ∧ cnt' ≤ cnt := by
 have zz := zlit
 obtain ⟨hs, h0, h1⟩ := h.2.2.2.2.1.2 i s hci
 have hb := bd_key h0 h1 h.2.2.2.1
 obtain ⟨c0, c1, c2, l0, l1, l2, d1, d2, d3⟩ := h.cells
 have HM := hid h.2.2.2.2.1
 have EC := hid hci
 have H := hid h
 have B0 : Hid (Out (fun _ => False) w (w.alloc (.cells (s.map by8).toArray 134))) := (Out.refl _ _).alloc _
 have HR : Hid ((w.alloc (.cells (s.map by8).toArray 134)).heap[w.heap.size]? = some (.cells (s.map by8).toArray 134)) := heap_alloc_new w _
 have HL : Hid (w.heap.size < (w.alloc (.cells (s.map by8).toArray 134)).heap.size) := by show _ < _; simp
 have HM2 : Hid (IsM (w.alloc (.cells (s.map by8).toArray 134)) b2 N c) := HM.out.out B0.out id
 obtain ⟨m, hm, he⟩ := h.2.2.2.2.2
 have HB1 := hid hm
 have HE := hid he
 have G : Hid (∀ w2 : World, (w.alloc (.cells (s.map by8).toArray 134)).mapTurned w2 b2 → Out (fun k => k = b2) w w2 ∧ w2.heap[w.heap.size]? = some (.cells (s.map by8).toArray 134) ∧ IsM w2 b1 N m ∧ w2.cell? ⟨d, 1, none⟩ = some (.map (some b1)) ∧ w.heap.size < w2.heap.size) := by
   intro w2 t2
   have o2 : Out (fun k => k = b2) w w2 := (B0.out.mono (fun _ e => e.elim)).trans (Out.turned t2 rfl)
   have o3 : Out (fun k => k = b2) (w.alloc (.cells (s.map by8).toArray 134)) w2 := Out.turned t2 rfl
   refine ⟨o2, by rw [o3.block _ HL.out (fun e => by omega)]; exact HR.out, HB1.out.out o2 d3, ?_, Nat.lt_of_lt_of_le HL.out o3.size⟩
   rw [← c1]; exact World.cell?_of_block (o2.block d l0 d2)
 have FIN : Hid (∀ w2 w3 : World, ∀ m', IsM w2 b2 N (upd c i none) → Out (fun k => k = b2) w w2 → Out (fun k => k = b1) w2 w3 → IsM w3 b1 N m' → (∀ j, (m' j).getD zsec = updS on i s j) →
     (∀ r n D left cnt, (w.alloc (.cells (s.map by8).toArray 134)).ranges Tryz.prog 3 secR b2 r n D left cnt → ∃ cnt', w2.ranges Tryz.prog 3 secR b2 r n (D.del (ky i)) (fun z => left z && !z.sameKey (ky i)) cnt' ∧ cnt' ≤ cnt) →
     IsD w3 d b1 b2 N (updS on i s) (upd c i none) ∧ Out (fun k => k = b1 ∨ k = b2) w w3 ∧
     ∀ r n D left cnt, r ≠ b1 → w.ranges Tryz.prog 3 secR b2 r n D left cnt → ∃ cnt', w3.ranges Tryz.prog 3 secR b2 r n (D.del (ky i)) (fun z => left z && !z.sameKey (ky i)) cnt' ∧ cnt' ≤ cnt) := by
   intro w2 w3 m' k1 k2 k3 k4 k5 k6
   obtain ⟨e1, e2, e3, e4, e5, _, _, _⟩ := H.out
   have o : Out (fun k => k = b1 ∨ k = b2) w w3 := (k2.mono (fun _ e => Or.inr e)).trans (k3.mono (fun _ e => Or.inl e))
   refine ⟨⟨by rw [o.block d (lt_blk e1) (by omega)]; exact e1, e2, e3, e4, k1.out k3 (by omega), m', k4, fun j => (k5 j).symm⟩, o, ?_⟩
   intro r n D left cnt hr hrg
   obtain ⟨cnt', q1, q2⟩ := k6 r n D left cnt (ranges_out hrg B0.out id id)
   exact ⟨cnt', ranges_out q1 k3 (by omega) hr, q2⟩
 clear h hci c0 hm he
 by_cases hz : s = zsec
 · have hq : (s == zsec) = true := by simp [hz]
   have HZ := hid hz
   clear hz
   go_enter Tryz.func119, Tryz.ntmps119
   go_wp2_with (first
     | (at_lookup; refine wpList_look_ok _ rfl _ _ rfl b2 N c rfl HM.out i rfl hb.1 hb.2 ?_; rw [EC.out]; simp only [Option.getD_some, Option.isSome_some])
     | (refine wpList_storeS _ rfl _ _ _ rfl sizeS _ rfl (by simp) s rfl hs.1 _ (by simp; decide) ?_)
     | (at_delete; refine wpList_drop _ rfl _ _ rfl b2 N c rfl HM2.out i rfl hb.1 hb.2 ?_; intro w2 m2 t2 r2; have M2 := hid m2; have R2 := hid r2; have G2 := hid (G.out w2 t2); have g4 := G2.out.2.2.2.1; clear m2 t2 r2)
     | (refine wpList_loadS _ rfl _ _ rfl sizeS Tryz.underlying134 _ rfl s hs.1 _ _ G2.out.2.1 ?_)
     | (refine wpList_eqlS _ rfl _ _ _ rfl s zsec rfl rfl hs zsec_is ?_; rw [hq])
     | (at_delete; refine wpList_drop _ rfl _ _ rfl b1 N m rfl G2.out.2.2.1 i rfl hb.1 hb.2 ?_; intro w3 m3 t3 r3))
   refine bodyPost_ret (v := .tuple #[]) (by simp [results, Tryz.results119, go_sem]) rfl ⟨rfl, FIN.out w2 w3 _ M2.out G2.out.1 (Out.turned t3 rfl) m3 ?_ R2.out⟩
   intro j
   unfold upd updS
   split
   · rw [HZ.out]; rfl
   · exact (HE.out j).symm
 · have hq : (s == zsec) = false := by simp [hz]
   clear hz
   go_enter Tryz.func119, Tryz.ntmps119
   go_wp2_with (first
     | (at_lookup; refine wpList_look_ok _ rfl _ _ rfl b2 N c rfl HM.out i rfl hb.1 hb.2 ?_; rw [EC.out]; simp only [Option.getD_some, Option.isSome_some])
     | (refine wpList_storeS _ rfl _ _ _ rfl sizeS _ rfl (by simp) s rfl hs.1 _ (by simp; decide) ?_)
     | (at_delete; refine wpList_drop _ rfl _ _ rfl b2 N c rfl HM2.out i rfl hb.1 hb.2 ?_; intro w2 m2 t2 r2; have M2 := hid m2; have R2 := hid r2; have G2 := hid (G.out w2 t2); have g4 := G2.out.2.2.2.1; clear m2 t2 r2)
     | (refine wpList_loadS _ rfl _ _ rfl sizeS Tryz.underlying134 _ rfl s hs.1 _ _ G2.out.2.1 ?_)
     | (refine wpList_eqlS _ rfl _ _ _ rfl s zsec rfl rfl hs zsec_is ?_; rw [hq]))
   have hR : w2.rangeAt w.heap.size 0 (s.map by8) := range_sec G2.out.2.1
   have hu := Tryz.underlying134
   have hi : (Tryz.prog.info? 134).map (·.size) = some (s.map by8).length := by rw [sizeS]; simp [hs.1]
   have hl32 : (s.map by8).length = 32 := by simp [hs.1]
   have h1c : ∀ v ∈ s.map by8, v.oneCell' = true := fun v hv => by obtain ⟨x, _, rfl⟩ := List.mem_map.1 hv; rfl
   obtain ⟨w3, hmu, m1, t1⟩ := IsM.store (w := w2.drew) (b := b1) (N := N) (f := m) G2.out.2.2.1 h0 h1 H.out.2.2.2.1 hs
   have o1 : Out (fun k => k = b1) w2 w3 := ((Out.refl _ w2).drew).trans (Out.turned t1 rfl)
   have k1 : w3.cell? ⟨d, 1, none⟩ = some (.map (some b1)) := by
     rw [← g4]; exact World.cell?_of_block (o1.block d (Nat.lt_of_lt_of_le l0 G2.out.1.size) d1)
   have k2 : w3.rangeAt w.heap.size 0 (s.map by8) := range_sec (by rw [o1.block w.heap.size G2.out.2.2.2.2 (fun e => by omega)]; exact G2.out.2.1)
   have M1 := hid m1
   have O1 := hid o1
   unfold secV at hmu
   clear m1 o1 t1
   go_region_held3 (fun w' => w'.cell? ⟨d, 1, none⟩ = some (.map (some b1)) ∧ w'.rangeAt w.heap.size 0 (s.map by8)) (first | go_keep_ranges | exact ⟨k1, k2⟩) (fail)
   go_end0
   refine ⟨rfl, FIN.out w2 w3 _ M2.out G2.out.1 O1.out M1.out ?_ R2.out⟩
   intro j
   unfold upd updS
   split
   · rfl
   · exact (HE.out j).symm
theorem IsD.ext {w : World} {d b1 b2 N : Nat} {on on' : Int → Sec} {c c' : Int → Option Sec} (h : IsD w d b1 b2 N on c) (e1 : ∀ i, on' i = on i) (e2 : ∀ i, c' i = c i) : IsD w d b1 b2 N on' c' := by
 have h1 : on' = on := funext e1
 have h2 : c' = c := funext e2
 rw [h1, h2]; exact h
set_option maxRecDepth 100000 in
set_option maxHeartbeats 1000000 in
theorem flush_c {w : World} {d b1 b2 N : Nat} {on : Int → Sec} {c : Int → Option Sec} (h : IsD w d b1 b2 N on c) :
   Calls Tryz.prog 77 #[pD d] w fun e w' => e = .returned (.int .i64 0) ∧ IsD w' d b1 b2 N (fun i => (c i).getD (on i)) (fun _ => none) ∧ Out (fun k => k = b1 ∨ k = b2) w w' := by
 obtain ⟨c0, c1, c2, l0, l1, l2, d1, d2, d3⟩ := h.cells
 obtain ⟨D, hown, hf⟩ := h.2.2.2.2.1.1
 have HS : Hid (∀ i s, c i = some s → IsSec s ∧ 0 ≤ i ∧ i < N) := h.2.2.2.2.1.2
 have HF := hid hf
 have H := hid h
 have HO := hid hown
 have HN := hid h.2.2.2.1
 clear h hf hown c0 c1
 go_enter Tryz.func77, Tryz.ntmps77
 go_wp2_with (at_range; refine wpList_range_own _ rfl _ 80 rfl 3 134 law3 Tryz.underlying80 secR b2 N D rfl HO.out ?_; intro w0 hrg0 hg0 hs0)
 go_frame
 have R0 := hid hrg0
 have G0 := hid hg0
 clear hrg0 hg0 hs0 c2
 go_loopw [3] (fun _ wr => ∃ D' left cnt on' c', wr.ranges Tryz.prog 3 secR b2 w.heap.size N D' left cnt ∧ IsD wr d b1 b2 N on' c' ∧ Hid (∀ i, left (ky i) = true → c i ≠ none) ∧ Hid (∀ i, c' i = if left (ky i) = true then c i else none) ∧ Hid (∀ i, on' i = if left (ky i) = true then on i else (c i).getD (on i)) ∧ Out (fun k => k = b1 ∨ k = b2) w wr) (fun _ wr => wr.rangeLeft b2 w.heap.size)
 case atStart =>
   have o0 : Out (fun k => k = b1 ∨ k = b2) w w0 := Out.grown G0.out (fun k e => by cases e)
   have o1 : Out (fun _ => False) w w0 := Out.grown G0.out (fun k e => by cases e)
   have e0 : ∀ i, Maps.has D (ky i) = (c i).isSome := fun i => by rw [HF.out i]; exact (look_at HO.out i zsec).2
   refine ⟨D, Maps.has D, Maps.size D, on, c, R0.out, H.out.out o1 id id id, ?_, ?_, ?_, o0⟩
   · intro i hi e; rw [e0, e] at hi; cases hi
   · intro i; rw [e0]; cases c i <;> rfl
   · intro i; rw [e0]; cases c i <;> rfl
 case round =>
   obtain ⟨D', left, cnt, on', c', hrg, hD, hl, hc', hon', hout⟩ := hrel
   have HR := hid hrg
   have HD := hid hD
   have HU := hid hout
   clear hrg hD hout
   go_wp2_with (at_next; refine wpList_next_ranges _ rfl _ rfl 3 law3 secR (Value.int .i64) secV (fun key kl hk => by obtain ⟨x, hx, _⟩ := Maps.keyOf_int_inv Tryz.underlying3 hk; exact ⟨x, hx⟩) (fun v y hv => by obtain ⟨s, _, hx, _⟩ := secR_inv hv; exact ⟨s, hx⟩) b2 w.heap.size N _ _ _ rfl HR.out ?_ ?_)
   · intro _ hl0
     have HL0 := hid hl0
     clear hl0
     go_wp2
     go_ret
     refine ⟨rfl, HD.out.ext (fun i => ?_) (fun i => ?_), HU.out⟩
     · rw [hon'.out i, HL0.out, if_neg (by simp)]
     · rw [hc'.out i, HL0.out, if_neg (by simp)]
   · intro x s kl yd yp w1 cnt1 hkey hlk hv hat hrg1 hlt hg1 hs1 hen
     obtain ⟨x', ex, ekl, hwx⟩ := Maps.keyOf_int_inv Tryz.underlying3 hkey
     cases ex
     have ekl' : kl = ky x := ekl
     subst ekl'
     have R1 := hid hrg1
     have o1 : Out (fun k => k = w.heap.size) wr w1 := Out.grown hg1 (fun k e => by cases e; rfl)
     have O1 := hid o1
     have HD1 : Hid (IsD w1 d b1 b2 N on' c') := HD.out.out o1 (by omega) (by omega) (by omega)
     have hcx : ∃ s0, c x = some s0 := by
       have := hl.out x hlk
       cases hq : c x with
       | none => exact absurd hq this
       | some s0 => exact ⟨s0, rfl⟩
     obtain ⟨s0, hs0⟩ := hcx
     have hcx' : c' x = some s0 := by rw [hc'.out x, if_pos hlk, hs0]
     have HS0 := hid hs0
     have HLK := hid hlk
     have SC := hid (settle_some HD1.out x hcx')
     have HLT := hid hlt
     clear hkey hlk hv hat hrg1 hlt hg1 hs1 ekl hwx o1 hs0 hcx'
     go_wp2_with (go_at_call 119; refine SC.out.mono ?_; rintro e w2 ⟨rfl, q1, q2, q3⟩)
     obtain ⟨cnt2, q4, q5⟩ := q3 _ _ _ _ _ (by omega) R1.out
     rw [Maps.strike_twice] at q4
     go_roundw
     case rel =>
       have key : ∀ i : Int, (left (ky i) && !(ky i).sameKey (ky x)) = true ↔ left (ky i) = true ∧ i ≠ x := fun i => by rw [same_ky]; simp
       have hout2 : Out (fun k => k = b1 ∨ k = b2) w w2 := by
         refine ⟨q2.os.trans (O1.out.os.trans HU.out.os), q2.tape.trans (O1.out.tape.trans HU.out.tape), q2.output.trans (O1.out.output.trans HU.out.output), Nat.le_trans HU.out.size (Nat.le_trans O1.out.size q2.size), fun k hk hS => ?_⟩
         rw [q2.block k (Nat.lt_of_lt_of_le hk (Nat.le_trans HU.out.size O1.out.size)) hS, O1.out.block k (Nat.lt_of_lt_of_le hk HU.out.size) (by omega), HU.out.block k hk hS]
       refine ⟨_, _, cnt2, _, _, q4, q1, fun i hi => hl.out i ((key i).1 hi).1, fun i => ?_, fun i => ?_, hout2⟩
       · unfold upd
         by_cases hi : i = x
         · rw [if_pos hi, if_neg (by rw [key]; simp [hi])]
         · rw [if_neg hi, hc'.out i]
           by_cases hq : left (ky i) = true
           · rw [if_pos hq, if_pos ((key i).2 ⟨hq, hi⟩)]
           · rw [if_neg hq, if_neg (fun h => hq ((key i).1 h).1)]
       · unfold updS
         by_cases hi : i = x
         · rw [if_pos hi, if_neg (by rw [key]; simp [hi]), hi, HS0.out]; rfl
         · rw [if_neg hi, hon'.out i]
           by_cases hq : left (ky i) = true
           · rw [if_pos hq, if_pos ((key i).2 ⟨hq, hi⟩)]
           · rw [if_neg hq, if_neg (fun h => hq ((key i).1 h).1)]
     case measure => rw [q4.left_eq, HR.out.left_eq]; have := HLT.out; omega
theorem IsM.cell {w : World} {b N : Nat} {f : Int → Option Sec} (h : IsM w b N f) {g o : Nat} {v : Value} (hc : w.cell? ⟨g, o, none⟩ = some v) : g ≠ b := by
 intro e
 obtain ⟨⟨D, ⟨es, clock, hb, _⟩, _⟩, _⟩ := h
 subst e
 simp [World.cell?, hb] at hc
end Go.Proofs.YtpolbbdaippclaaGreat
