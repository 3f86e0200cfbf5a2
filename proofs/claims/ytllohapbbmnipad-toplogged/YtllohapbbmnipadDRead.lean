/-
  What Read and settle of the package disk do.
-/
import Derived.Test.YtllohapbbmnipadDCalls
import Derived.Laws.ResultCell
namespace Go.Proofs.Ytllohapbbmnipad
open Go.RowKit Go.ChangeShapes Go.WideShapes Go.ChangeAt Go.Maps
set_option linter.unusedVariables false
set_option linter.unusedSimpArgs false
theorem row_other (w : World) (g k : Nat) (cs : Array Value) (h : k ≠ g) : (w.setRow g cs).heap[k]? = w.heap[k]? := by
  unfold World.setRow
  rw [Array.getElem?_modify, if_neg (by omega)]
theorem Out.setRow {S : Nat → Prop} (w : World) (g : Nat) (cs : Array Value) (h : S g) : Out S w (w.setRow g cs) :=
  ⟨rfl, rfl, rfl, by simp [World.setRow], fun k _ hk => row_other w g k cs (fun e => hk (by rw [e]; exact h))⟩
theorem Below.setRow {w v : World} {B : Nat} (h : Below B w v) (g : Nat) (cs : Array Value) (hg : B ≤ g) : Below B w (v.setRow g cs) :=
  ⟨h.os, h.tape, h.output, by simp [World.setRow]; exact h.size, fun k hk => by rw [row_other v g k cs (by omega)]; exact h.block k hk⟩
/-- A sector into a variable. -/
theorem wpList_storeA (w : World) {ops : Array Oper} {rest : List Oper} {o : Oper} {a : Act} {Q : Exit → Act → World → Prop} (hg : o.guard = none) (x y : Operand) (T : TypeId) (hop : o.op = .store T x y) (hT : (Try.prog.info? T).map (·.size) = some 32)
    (g : Nat) (hx : a.eval x = .pointer (some ⟨g, 0, none⟩)) (s : Sec) (hy : a.eval y = secV s) (hs : s.length = 32)
    (t : TypeId) (c : Array Value) (hb : w.heap[g]? = some (.cells c t (0, 0))) (hc : c.size = 32)
    (h : ∀ w', w'.heap[g]? = some (.cells (s.map by8).toArray t (0, 0)) → Out (fun k => k = g) w w' → w'.heap.size = w.heap.size → wpList Try.prog ops Q rest (a.put o.dst undef) w') : wpList Try.prog ops Q (o :: rest) a w := by
  refine wpList_store_row hg T x y hop g (s.map by8).toArray hx hy t c hb (by rw [hT]; simp [hs]) (by simp [hs, hc]) (secV_one s) ?_
  exact h _ (setRow_heap w g c _ t (0, 0) hb) (Out.setRow w g _ rfl) (by simp [World.setRow])
/-- A sector that is handed back, with a number. -/
theorem res_sec {fn : Func} {p u : Tmp} {ty e : TypeId} (h : fn.results = #[.cell p ty, .tmp u]) (tmps : Array Value) (w : World) (hT : (Try.prog.info? ty).map (·.size) = some 32) (hu : Try.prog.underlying ty = some (.array 32 e))
    (g : Nat) (hp : tmps.getD p undef = .pointer (some ⟨g, 0, none⟩)) (s : Sec) (hs : s.length = 32) (t : TypeId) (fr : Nat × Nat) (hb : w.heap[g]? = some (.cells (s.map by8).toArray t fr)) (v : Value) (hv : tmps.getD u undef = v) :
    (results fn tmps).run Try.prog w = .ok (.tuple #[secV s, v]) w := by
  have hl := run_loadVar_row (P := Try.prog) w g t ty (s.map by8).toArray fr _ hb hu rfl (by rw [hT]; simp [hs])
  rw [results_cell_tmp h, hp, hv]
  simp [asAddr, Result.andThen, hl, secV]
theorem zcells : (secV zsec) = .agg (zsec.map by8).toArray := rfl
set_option maxRecDepth 100000 in
set_option maxHeartbeats 1000000 in
theorem read_nil (i : Int) (w : World) : Calls Try.prog 69 #[.pointer none, .int .i64 i] w fun e w' => e = .returned (.tuple #[secV zsec, .int .i64 1]) ∧ Below w.heap.size w w' := by
  have zz := zlit
  go_enter Try.func69, Try.ntmps69
  go_wp2_with (first
    | (go_at_call 77; refine (fault_nil _ _).mono ?_; rintro e w' ⟨rfl, rfl⟩)
    | (refine wpList_storeS _ rfl _ _ _ rfl sizeS _ rfl (by simp) zsec rfl zsec_is.1 _ (by simp; decide) ?_))
  exact bodyPost_ret (v := .tuple #[secV zsec, .int .i64 1]) (res_sec rfl _ _ sizeS Try.underlying90 w.heap.size rfl zsec zsec_is.1 _ _ (heap_alloc_new w _) _ rfl) rfl ⟨rfl, (Below.refl _ _).alloc (Nat.le_refl _) _⟩
set_option maxRecDepth 100000 in
set_option maxHeartbeats 1000000 in
theorem read_bad {w : World} {d b1 b2 N : Nat} {on : Int → Sec} {c : Int → Option Sec} (h : IsD w d b1 b2 N on c) (i : Int) (hi : i < 0 ∨ (N : Int) ≤ i) :
    Calls Try.prog 69 #[pD d, .int .i64 i] w fun e w' => e = .returned (.tuple #[secV zsec, .int .i64 2]) ∧ Below w.heap.size w w' := by
  have zz := zlit
  have hb1 : Below w.heap.size w (w.alloc (.cells (zsec.map by8).toArray 90)) := (Below.refl _ _).alloc (Nat.le_refl _) _
  have hf := fault_c (h.later hb1) i
  have e : faultB N i = 2 := by unfold faultB; rw [if_neg (by omega)]
  rw [e] at hf
  clear e h
  go_enter Try.func69, Try.ntmps69
  go_wp2_with (first
    | (go_at_call 77; refine hf.mono ?_; rintro e w' ⟨rfl, rfl⟩)
    | (refine wpList_storeS _ rfl _ _ _ rfl sizeS _ rfl (by simp) zsec rfl zsec_is.1 _ (by simp; decide) ?_))
  exact bodyPost_ret (v := .tuple #[secV zsec, .int .i64 2]) (res_sec rfl _ _ sizeS Try.underlying90 w.heap.size rfl zsec zsec_is.1 _ _ (heap_alloc_new w _) _ rfl) rfl ⟨rfl, hb1⟩
theorem two_last (w : World) (o p : Obj) : ((w.alloc o).alloc p).heap[w.heap.size + 1]? = some p := by
  have := heap_alloc_new (w.alloc o) p
  simpa using this
theorem two_alloc (w : World) (o p : Obj) : ((w.alloc o).alloc p).heap[w.heap.size]? = some o := by
  rw [Below.heap_alloc _ _ _ (by simp)]; exact heap_alloc_new w o
set_option maxRecDepth 100000 in
set_option maxHeartbeats 1000000 in
theorem read_c {w : World} {d b1 b2 N : Nat} {on : Int → Sec} {c : Int → Option Sec} (h : IsD w d b1 b2 N on c) (i : Int) (h0 : 0 ≤ i) (h1 : i < N) :
    Calls Try.prog 69 #[pD d, .int .i64 i] w fun e w' => e = .returned (.tuple #[secV ((c i).getD (on i)), .int .i64 0]) ∧ Below w.heap.size w w' := by
  have zz := zlit
  have hb1 : Below w.heap.size w (w.alloc (.cells (zsec.map by8).toArray 90)) := (Below.refl _ _).alloc (Nat.le_refl _) _
  have hf := fault_c (h.later hb1) i
  have e : faultB N i = 0 := by unfold faultB; rw [if_pos (by omega)]
  rw [e] at hf
  have hb := bd_key h0 h1 h.2.2.2.1
  have h' := h.later hb1
  obtain ⟨c0, c1, c2, l0, l1, l2, d1, d2, d3⟩ := h.cells
  have c2' : (w.alloc (.cells (zsec.map by8).toArray 90)).cell? ⟨d, 2, none⟩ = some (.map (some b2)) := h'.cells.2.2.1
  have HM : Hid (IsM (w.alloc (.cells (zsec.map by8).toArray 90)) b2 N c) := h'.2.2.2.2.1
  cases hci : c i with
  | some s =>
    have hs : IsSec s := (h.2.2.2.2.1.2 i s hci).1
    have EC := hid hci
    clear e h h' hci c0 c1 c2
    go_enter Try.func69, Try.ntmps69
    go_wp2_with (first
      | (go_at_call 77; refine hf.mono ?_; rintro e w' ⟨rfl, rfl⟩)
      | (at_lookup; refine wpList_look_ok _ rfl _ _ rfl b2 N c rfl HM.out i rfl hb.1 hb.2 ?_; rw [EC.out]; simp only [Option.getD_some, Option.isSome_some])
      | (refine wpList_storeS _ rfl _ _ _ rfl sizeS _ rfl (by simp) s rfl hs.1 _ (by simp; decide) ?_)
      | (refine wpList_loadS _ rfl _ _ rfl sizeS Try.underlying90 _ rfl s hs.1 _ _ (two_last w _ _) ?_)
      | (refine wpList_storeA _ rfl _ _ _ rfl sizeS _ rfl s rfl hs.1 _ _ (two_alloc w _ _) (by simp; decide) ?_; intro w4 k1 k2 k3))
    exact bodyPost_ret (v := .tuple #[secV s, .int .i64 0]) (res_sec rfl _ _ sizeS Try.underlying90 w.heap.size rfl s hs.1 _ _ k1 _ rfl) rfl ⟨rfl, hb1.trans (((Below.refl _ _).alloc (by simp) _).trans (k2.below (by simp; omega) (fun k e => by omega)))⟩
  | none =>
    obtain ⟨m, hm, he⟩ := h'.2.2.2.2.2
    have hs : IsSec ((m i).getD zsec) := by
      cases hmi : m i with
      | none => exact zsec_is
      | some u => exact (hm.2 i u hmi).1
    have c1' : (w.alloc (.cells (zsec.map by8).toArray 90)).cell? ⟨d, 1, none⟩ = some (.map (some b1)) := h'.cells.2.1
    have EC := hid hci
    have HE := hid he
    have HM1 := hid hm
    clear e h h' hci c0 c1 c2 he hm
    go_enter Try.func69, Try.ntmps69
    go_wp2_with (first
      | (go_at_call 77; refine hf.mono ?_; rintro e w' ⟨rfl, rfl⟩)
      | (at_lookup; refine wpList_look_ok _ rfl _ _ rfl b2 N c rfl HM.out i rfl hb.1 hb.2 ?_; rw [EC.out]; simp only [Option.getD_none, Option.isSome_none])
      | (at_lookup; refine wpList_look _ rfl _ _ rfl b1 N m rfl (HM1.out.out (S := fun _ => False) ((Out.refl _ _).alloc _) id) i rfl hb.1 hb.2 ?_)
      | (refine wpList_storeS _ rfl _ _ _ rfl sizeS _ rfl (by simp) zsec rfl zsec_is.1 _ (by simp; decide) ?_)
      | (refine wpList_storeA _ rfl _ _ _ rfl sizeS _ rfl ((m i).getD zsec) rfl hs.1 _ _ (two_alloc w _ _) (by simp; decide) ?_; intro w4 k1 k2 k3))
    exact bodyPost_ret (v := .tuple #[secV ((m i).getD zsec), .int .i64 0]) (res_sec rfl _ _ sizeS Try.underlying90 w.heap.size rfl _ hs.1 _ _ k1 _ rfl) rfl ⟨by rw [HE.out]; rfl, hb1.trans (((Below.refl _ _).alloc (by simp) _).trans (k2.below (by simp; omega) (fun k e => by omega)))⟩
end Go.Proofs.Ytllohapbbmnipad
