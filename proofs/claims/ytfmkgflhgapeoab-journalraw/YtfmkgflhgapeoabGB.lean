/-
  What Read and settle of the package disk do.
  What settle, Flush and Crash of the package disk do.
  What Flush and Crash of the package disk do.
  What each function of the package frame returns that writes a packet, or tells whether it is right: one contract a function.
  What the functions of the package journal return that write numbers into sectors and read them: one contract a function.
  What readHead, sectorsOf and Need of the package journal return, and Need of the document: one contract a function.
  Rows of bytes and of sectors: what is read of a row that was made here; an append of bytes that may be none; loadOf and readHead of the package journal.
-/
import Derived.Test.YtfmkgflhgapeoabGA
import Derived.Laws.ResultCell
import Derived.Deep.RegionHeld3
import Derived.Deep.AppendLies
import Derived.Deep.DrawnRows
import Derived.Lib.AppendStr
import Derived.Laws.AppendOwnNone
namespace Go.Proofs.Ytfmkgflhgapeoab
open Go.RowKit Go.ChangeShapes Go.WideShapes Go.ChangeAt Go.Maps
set_option linter.unusedVariables false
set_option linter.unusedSimpArgs false
theorem row_other (w : World) (g k : Nat) (cs : Array Value) (h : k ≠ g) : (w.setRow g cs).heap[k]? = w.heap[k]? := by
  unfold World.setRow
  rw [Array.getElem?_modify, if_neg (by omega)]
theorem Out.setRow {S : Nat → Prop} (w : World) (g : Nat) (cs : Array Value) (h : S g) : Out S w (w.setRow g cs) :=
  ⟨rfl, rfl, rfl, by simp [World.setRow], fun k _ hk => row_other w g k cs (fun e => hk (by rw [e]; exact h))⟩
theorem Below.setRow {w v : World} {B : Nat} (h : Below B w v) (g : Nat) (cs : Array Value) (hg : B ≤ g) : Below B w (v.setRow g cs) :=
  ⟨h.os, h.tape, h.output, by simp [World.setRow]; exact h.size, fun k hk => by rw [row_other v g k cs (by omega)]; exact h.block k hk⟩
/-- A sector into a variable. -/
theorem wpList_storeA (w : World) {ops : Array Oper} {rest : List Oper} {o : Oper} {a : Act} {Q : Exit → Act → World → Prop} (hg : o.guard = none) (x y : Operand) (T : TypeId) (hop : o.op = .store T x y) (hT : (Try.prog.info? T).map (·.size) = some 32)
    (g : Nat) (hx : a.eval x = .pointer (some ⟨g, 0, none⟩)) (s : Sec) (hy : a.eval y = secV s) (hs : s.length = 32)
    (t : TypeId) (c : Array Value) (hb : w.heap[g]? = some (.cells c t (0, 0))) (hc : c.size = 32)
    (h : ∀ w', w'.heap[g]? = some (.cells (s.map by8).toArray t (0, 0)) → Out (fun k => k = g) w w' → w'.heap.size = w.heap.size → wpList Try.prog ops Q rest (a.put o.dst undef) w') : wpList Try.prog ops Q (o :: rest) a w := by
  refine wpList_store_row hg T x y hop g (s.map by8).toArray hx hy t c hb (by rw [hT]; simp [hs]) (by simp [hs, hc]) (secV_one s) ?_
  exact h _ (setRow_heap w g c _ t (0, 0) hb) (Out.setRow w g _ rfl) (by simp [World.setRow])
/-- A sector that is handed back, with a number. -/
theorem res_sec {fn : Func} {p u : Tmp} {ty e : TypeId} (h : fn.results = #[.cell p ty, .tmp u]) (tmps : Array Value) (w : World) (hT : (Try.prog.info? ty).map (·.size) = some 32) (hu : Try.prog.underlying ty = some (.array 32 e))
    (g : Nat) (hp : tmps.getD p undef = .pointer (some ⟨g, 0, none⟩)) (s : Sec) (hs : s.length = 32) (t : TypeId) (fr : Nat × Nat) (hb : w.heap[g]? = some (.cells (s.map by8).toArray t fr)) (v : Value) (hv : tmps.getD u undef = v) :
    (results fn tmps).run Try.prog w = .ok (.tuple #[secV s, v]) w := by
  have hl := run_loadVar_row (P := Try.prog) w g t ty (s.map by8).toArray fr _ hb hu rfl (by rw [hT]; simp [hs])
  rw [results_cell_tmp h, hp, hv]
  simp [asAddr, Result.andThen, hl, secV]
theorem zcells : (secV zsec) = .agg (zsec.map by8).toArray := rfl
set_option maxRecDepth 100000 in
set_option maxHeartbeats 1000000 in
theorem read_nil (i : Int) (w : World) : Calls Try.prog 24 #[.pointer none, .int .i64 i] w fun e w' => e = .returned (.tuple #[secV zsec, .int .i64 1]) ∧ Below w.heap.size w w' := by
  have zz := zlit
  go_enter Try.func24, Try.ntmps24
  go_wp2_with (first
    | (go_at_call 13; refine (fault_nil _ _).mono ?_; rintro e w' ⟨rfl, rfl⟩)
    | (refine wpList_storeS _ rfl _ _ _ rfl sizeS _ rfl (by simp) zsec rfl zsec_is.1 _ (by simp; decide) ?_))
  exact bodyPost_ret (v := .tuple #[secV zsec, .int .i64 1]) (res_sec rfl _ _ sizeS Try.underlying34 w.heap.size rfl zsec zsec_is.1 _ _ (heap_alloc_new w _) _ rfl) rfl ⟨rfl, (Below.refl _ _).alloc (Nat.le_refl _) _⟩
set_option maxRecDepth 100000 in
set_option maxHeartbeats 1000000 in
theorem read_bad {w : World} {d b1 b2 N : Nat} {on : Int → Sec} {c : Int → Option Sec} (h : IsD w d b1 b2 N on c) (i : Int) (hi : i < 0 ∨ (N : Int) ≤ i) :
    Calls Try.prog 24 #[pD d, .int .i64 i] w fun e w' => e = .returned (.tuple #[secV zsec, .int .i64 2]) ∧ Below w.heap.size w w' := by
  have zz := zlit
  have hb1 : Below w.heap.size w (w.alloc (.cells (zsec.map by8).toArray 34)) := (Below.refl _ _).alloc (Nat.le_refl _) _
  have hf := fault_c (h.later hb1) i
  have e : faultB N i = 2 := by unfold faultB; rw [if_neg (by omega)]
  rw [e] at hf
  clear e h
  go_enter Try.func24, Try.ntmps24
  go_wp2_with (first
    | (go_at_call 13; refine hf.mono ?_; rintro e w' ⟨rfl, rfl⟩)
    | (refine wpList_storeS _ rfl _ _ _ rfl sizeS _ rfl (by simp) zsec rfl zsec_is.1 _ (by simp; decide) ?_))
  exact bodyPost_ret (v := .tuple #[secV zsec, .int .i64 2]) (res_sec rfl _ _ sizeS Try.underlying34 w.heap.size rfl zsec zsec_is.1 _ _ (heap_alloc_new w _) _ rfl) rfl ⟨rfl, hb1⟩
theorem two_last (w : World) (o p : Obj) : ((w.alloc o).alloc p).heap[w.heap.size + 1]? = some p := by
  have := heap_alloc_new (w.alloc o) p
  simpa using this
theorem two_alloc (w : World) (o p : Obj) : ((w.alloc o).alloc p).heap[w.heap.size]? = some o := by
  rw [Below.heap_alloc _ _ _ (by simp)]; exact heap_alloc_new w o
set_option maxRecDepth 100000 in
set_option maxHeartbeats 1000000 in
theorem read_c {w : World} {d b1 b2 N : Nat} {on : Int → Sec} {c : Int → Option Sec} (h : IsD w d b1 b2 N on c) (i : Int) (h0 : 0 ≤ i) (h1 : i < N) :
    Calls Try.prog 24 #[pD d, .int .i64 i] w fun e w' => e = .returned (.tuple #[secV ((c i).getD (on i)), .int .i64 0]) ∧ Below w.heap.size w w' := by
  have zz := zlit
  have hb1 : Below w.heap.size w (w.alloc (.cells (zsec.map by8).toArray 34)) := (Below.refl _ _).alloc (Nat.le_refl _) _
  have hf := fault_c (h.later hb1) i
  have e : faultB N i = 0 := by unfold faultB; rw [if_pos (by omega)]
  rw [e] at hf
  have hb := bd_key h0 h1 h.2.2.2.1
  have h' := h.later hb1
  obtain ⟨c0, c1, c2, l0, l1, l2, d1, d2, d3⟩ := h.cells
  have c2' : (w.alloc (.cells (zsec.map by8).toArray 34)).cell? ⟨d, 2, none⟩ = some (.map (some b2)) := h'.cells.2.2.1
  have HM : Hid (IsM (w.alloc (.cells (zsec.map by8).toArray 34)) b2 N c) := h'.2.2.2.2.1
  cases hci : c i with
  | some s =>
    have hs : IsSec s := (h.2.2.2.2.1.2 i s hci).1
    have EC := hid hci
    clear e h h' hci c0 c1 c2
    go_enter Try.func24, Try.ntmps24
    go_wp2_with (first
      | (go_at_call 13; refine hf.mono ?_; rintro e w' ⟨rfl, rfl⟩)
      | (at_lookup; refine wpList_look_ok _ rfl _ _ rfl b2 N c rfl HM.out i rfl hb.1 hb.2 ?_; rw [EC.out]; simp only [Option.getD_some, Option.isSome_some])
      | (refine wpList_storeS _ rfl _ _ _ rfl sizeS _ rfl (by simp) s rfl hs.1 _ (by simp; decide) ?_)
      | (refine wpList_loadS _ rfl _ _ rfl sizeS Try.underlying34 _ rfl s hs.1 _ _ (two_last w _ _) ?_)
      | (refine wpList_storeA _ rfl _ _ _ rfl sizeS _ rfl s rfl hs.1 _ _ (two_alloc w _ _) (by simp; decide) ?_; intro w4 k1 k2 k3))
    exact bodyPost_ret (v := .tuple #[secV s, .int .i64 0]) (res_sec rfl _ _ sizeS Try.underlying34 w.heap.size rfl s hs.1 _ _ k1 _ rfl) rfl ⟨rfl, hb1.trans (((Below.refl _ _).alloc (by simp) _).trans (k2.below (by simp; omega) (fun k e => by omega)))⟩
  | none =>
    obtain ⟨m, hm, he⟩ := h'.2.2.2.2.2
    have hs : IsSec ((m i).getD zsec) := by
      cases hmi : m i with
      | none => exact zsec_is
      | some u => exact (hm.2 i u hmi).1
    have c1' : (w.alloc (.cells (zsec.map by8).toArray 34)).cell? ⟨d, 1, none⟩ = some (.map (some b1)) := h'.cells.2.1
    have EC := hid hci
    have HE := hid he
    have HM1 := hid hm
    clear e h h' hci c0 c1 c2 he hm
    go_enter Try.func24, Try.ntmps24
    go_wp2_with (first
      | (go_at_call 13; refine hf.mono ?_; rintro e w' ⟨rfl, rfl⟩)
      | (at_lookup; refine wpList_look_ok _ rfl _ _ rfl b2 N c rfl HM.out i rfl hb.1 hb.2 ?_; rw [EC.out]; simp only [Option.getD_none, Option.isSome_none])
      | (at_lookup; refine wpList_look _ rfl _ _ rfl b1 N m rfl (HM1.out.out (S := fun _ => False) ((Out.refl _ _).alloc _) id) i rfl hb.1 hb.2 ?_)
      | (refine wpList_storeS _ rfl _ _ _ rfl sizeS _ rfl (by simp) zsec rfl zsec_is.1 _ (by simp; decide) ?_)
      | (refine wpList_storeA _ rfl _ _ _ rfl sizeS _ rfl ((m i).getD zsec) rfl hs.1 _ _ (two_alloc w _ _) (by simp; decide) ?_; intro w4 k1 k2 k3))
    exact bodyPost_ret (v := .tuple #[secV ((m i).getD zsec), .int .i64 0]) (res_sec rfl _ _ sizeS Try.underlying34 w.heap.size rfl _ hs.1 _ _ k1 _ rfl) rfl ⟨by rw [HE.out]; rfl, hb1.trans (((Below.refl _ _).alloc (by simp) _).trans (k2.below (by simp; omega) (fun k e => by omega)))⟩
end Go.Proofs.Ytfmkgflhgapeoab
namespace Go.Proofs.Ytfmkgflhgapeoab
open Go.RowKit Go.ChangeShapes Go.WideShapes Go.ChangeAt Go.Maps
set_option linter.unusedVariables false
set_option linter.unusedSimpArgs false
theorem size8 (w : World) : (sizeOf 5).run Try.prog w = .ok 1 w := by
  have h : (Try.prog.info? 5).map (·.size) = some 1 := by kernel_rfl
  cases hi : Try.prog.info? 5 with
  | none => rw [hi] at h; cases h
  | some i => rw [hi] at h; simp at h; simp [sizeOf, typeInfo, hi, h]
theorem guardS : Try.prog.eqGuardType Try.prog.depth 34 = false := by kernel_rfl
/-- 's == u'. -/
theorem wpList_eqlS (w : World) {ops : Array Oper} {rest : List Oper} {o : Oper} {a : Act} {Q : Exit → Act → World → Prop} (hg : o.guard = none) (x y : Operand) (t : TypeId) (hop : o.op = .binOp .eql 34 x y t)
    (s u : Sec) (hx : a.eval x = secV s) (hy : a.eval y = secV u) (hs : IsSec s) (hu : IsSec u) (h : wpList Try.prog ops Q rest (a.put o.dst (.bool (s == u))) w) : wpList Try.prog ops Q (o :: rest) a w := by
  refine wpList_plain hg fun K' hK' => ?_
  have e1 := secEq (P := Try.prog) w 34 5 Try.underlying34 Try.underlying5 size8 hs hu
  have e2 : (eqGuard .eql 34 x y (secV s) (secV u)).run Try.prog w = .ok () w := run_eqGuard_agg w .eql 34 x y _ _ guardS
  unfold Oper.wp
  simp only [execOp, hop, hx, hy, Sem.run_bind, e1, e2, Result.andThen, Sem.run_pure]
  exact hK' _ _ h
def updS (on : Int → Sec) (i : Int) (s : Sec) : Int → Sec := fun j => if j = i then s else on j
set_option maxRecDepth 100000 in
set_option maxHeartbeats 1000000 in
theorem settle_none {w : World} {d b1 b2 N : Nat} {on : Int → Sec} {c : Int → Option Sec} (h : IsD w d b1 b2 N on c) (i : Int) (hb0 : -9223372036854775808 ≤ i) (hb1 : i < 9223372036854775808) (hci : c i = none) :
    Calls Try.prog 66 #[pD d, .int .i64 i] w fun e w' => e = .returned (.tuple #[]) ∧ Below w.heap.size w w' := by
  have zz := zlit
  obtain ⟨c0, c1, c2, l0, l1, l2, d1, d2, d3⟩ := h.cells
  have HM := hid h.2.2.2.2.1
  have EC := hid hci
  clear h hci c0 c1
  go_enter Try.func66, Try.ntmps66
  go_wp2_with (first
      | (at_lookup; refine wpList_look_ok _ rfl _ _ rfl b2 N c rfl HM.out i rfl hb0 hb1 ?_; rw [EC.out]; simp only [Option.getD_none, Option.isSome_none])
      | (refine wpList_storeS _ rfl _ _ _ rfl sizeS _ rfl (by simp) zsec rfl zsec_is.1 _ (by simp; decide) ?_))
  exact bodyPost_ret (v := .tuple #[]) (by simp [results, Try.results66, go_sem]) rfl ⟨rfl, (Below.refl _ _).alloc (Nat.le_refl _) _⟩
set_option maxRecDepth 100000 in
set_option maxHeartbeats 2000000 in
theorem settle_some {w : World} {d b1 b2 N : Nat} {on : Int → Sec} {c : Int → Option Sec} (h : IsD w d b1 b2 N on c) (i : Int) {s : Sec} (hci : c i = some s) :
    Calls Try.prog 66 #[pD d, .int .i64 i] w fun e w' => e = .returned (.tuple #[]) ∧ IsD w' d b1 b2 N (updS on i s) (upd c i none) ∧ Out (fun k => k = b1 ∨ k = b2) w w' ∧
      ∀ r n D left cnt, r ≠ b1 → w.ranges Try.prog 3 secR b2 r n D left cnt → ∃ cnt', w'.ranges Try.prog 3 secR b2 r n (D.del (ky i)) (fun z => left z && !z.sameKey (ky i)) cnt' ∧ cnt' ≤ cnt := by
  have zz := zlit
  obtain ⟨hs, h0, h1⟩ := h.2.2.2.2.1.2 i s hci
  have hb := bd_key h0 h1 h.2.2.2.1
  obtain ⟨c0, c1, c2, l0, l1, l2, d1, d2, d3⟩ := h.cells
  have HM := hid h.2.2.2.2.1
  have EC := hid hci
  have H := hid h
  have B0 : Hid (Out (fun _ => False) w (w.alloc (.cells (s.map by8).toArray 34))) := (Out.refl _ _).alloc _
  have HR : Hid ((w.alloc (.cells (s.map by8).toArray 34)).heap[w.heap.size]? = some (.cells (s.map by8).toArray 34)) := heap_alloc_new w _
  have HL : Hid (w.heap.size < (w.alloc (.cells (s.map by8).toArray 34)).heap.size) := by show _ < _; simp
  have HM2 : Hid (IsM (w.alloc (.cells (s.map by8).toArray 34)) b2 N c) := HM.out.out B0.out id
  obtain ⟨m, hm, he⟩ := h.2.2.2.2.2
  have HB1 := hid hm
  have HE := hid he
  have G : Hid (∀ w2 : World, (w.alloc (.cells (s.map by8).toArray 34)).mapTurned w2 b2 → Out (fun k => k = b2) w w2 ∧ w2.heap[w.heap.size]? = some (.cells (s.map by8).toArray 34) ∧ IsM w2 b1 N m ∧ w2.cell? ⟨d, 1, none⟩ = some (.map (some b1)) ∧ w.heap.size < w2.heap.size) := by
    intro w2 t2
    have o2 : Out (fun k => k = b2) w w2 := (B0.out.mono (fun _ e => e.elim)).trans (Out.turned t2 rfl)
    have o3 : Out (fun k => k = b2) (w.alloc (.cells (s.map by8).toArray 34)) w2 := Out.turned t2 rfl
    refine ⟨o2, by rw [o3.block _ HL.out (fun e => by omega)]; exact HR.out, HB1.out.out o2 d3, ?_, Nat.lt_of_lt_of_le HL.out o3.size⟩
    rw [← c1]; exact World.cell?_of_block (o2.block d l0 d2)
  have FIN : Hid (∀ w2 w3 : World, ∀ m', IsM w2 b2 N (upd c i none) → Out (fun k => k = b2) w w2 → Out (fun k => k = b1) w2 w3 → IsM w3 b1 N m' → (∀ j, (m' j).getD zsec = updS on i s j) →
      (∀ r n D left cnt, (w.alloc (.cells (s.map by8).toArray 34)).ranges Try.prog 3 secR b2 r n D left cnt → ∃ cnt', w2.ranges Try.prog 3 secR b2 r n (D.del (ky i)) (fun z => left z && !z.sameKey (ky i)) cnt' ∧ cnt' ≤ cnt) →
      IsD w3 d b1 b2 N (updS on i s) (upd c i none) ∧ Out (fun k => k = b1 ∨ k = b2) w w3 ∧
      ∀ r n D left cnt, r ≠ b1 → w.ranges Try.prog 3 secR b2 r n D left cnt → ∃ cnt', w3.ranges Try.prog 3 secR b2 r n (D.del (ky i)) (fun z => left z && !z.sameKey (ky i)) cnt' ∧ cnt' ≤ cnt) := by
    intro w2 w3 m' k1 k2 k3 k4 k5 k6
    obtain ⟨e1, e2, e3, e4, e5, _, _, _⟩ := H.out
    have o : Out (fun k => k = b1 ∨ k = b2) w w3 := (k2.mono (fun _ e => Or.inr e)).trans (k3.mono (fun _ e => Or.inl e))
    refine ⟨⟨by rw [o.block d (lt_blk e1) (by omega)]; exact e1, e2, e3, e4, k1.out k3 (by omega), m', k4, fun j => (k5 j).symm⟩, o, ?_⟩
    intro r n D left cnt hr hrg
    obtain ⟨cnt', q1, q2⟩ := k6 r n D left cnt (ranges_out hrg B0.out id id)
    exact ⟨cnt', ranges_out q1 k3 (by omega) hr, q2⟩
  clear h hci c0 hm he
  by_cases hz : s = zsec
  · have hq : (s == zsec) = true := by simp [hz]
    have HZ := hid hz
    clear hz
    go_enter Try.func66, Try.ntmps66
    go_wp2_with (first
      | (at_lookup; refine wpList_look_ok _ rfl _ _ rfl b2 N c rfl HM.out i rfl hb.1 hb.2 ?_; rw [EC.out]; simp only [Option.getD_some, Option.isSome_some])
      | (refine wpList_storeS _ rfl _ _ _ rfl sizeS _ rfl (by simp) s rfl hs.1 _ (by simp; decide) ?_)
      | (at_delete; refine wpList_drop _ rfl _ _ rfl b2 N c rfl HM2.out i rfl hb.1 hb.2 ?_; intro w2 m2 t2 r2; have M2 := hid m2; have R2 := hid r2; have G2 := hid (G.out w2 t2); have g4 := G2.out.2.2.2.1; clear m2 t2 r2)
      | (refine wpList_loadS _ rfl _ _ rfl sizeS Try.underlying34 _ rfl s hs.1 _ _ G2.out.2.1 ?_)
      | (refine wpList_eqlS _ rfl _ _ _ rfl s zsec rfl rfl hs zsec_is ?_; rw [hq])
      | (at_delete; refine wpList_drop _ rfl _ _ rfl b1 N m rfl G2.out.2.2.1 i rfl hb.1 hb.2 ?_; intro w3 m3 t3 r3))
    refine bodyPost_ret (v := .tuple #[]) (by simp [results, Try.results66, go_sem]) rfl ⟨rfl, FIN.out w2 w3 _ M2.out G2.out.1 (Out.turned t3 rfl) m3 ?_ R2.out⟩
    intro j
    unfold upd updS
    split
    · rw [HZ.out]; rfl
    · exact (HE.out j).symm
  · have hq : (s == zsec) = false := by simp [hz]
    clear hz
    go_enter Try.func66, Try.ntmps66
    go_wp2_with (first
      | (at_lookup; refine wpList_look_ok _ rfl _ _ rfl b2 N c rfl HM.out i rfl hb.1 hb.2 ?_; rw [EC.out]; simp only [Option.getD_some, Option.isSome_some])
      | (refine wpList_storeS _ rfl _ _ _ rfl sizeS _ rfl (by simp) s rfl hs.1 _ (by simp; decide) ?_)
      | (at_delete; refine wpList_drop _ rfl _ _ rfl b2 N c rfl HM2.out i rfl hb.1 hb.2 ?_; intro w2 m2 t2 r2; have M2 := hid m2; have R2 := hid r2; have G2 := hid (G.out w2 t2); have g4 := G2.out.2.2.2.1; clear m2 t2 r2)
      | (refine wpList_loadS _ rfl _ _ rfl sizeS Try.underlying34 _ rfl s hs.1 _ _ G2.out.2.1 ?_)
      | (refine wpList_eqlS _ rfl _ _ _ rfl s zsec rfl rfl hs zsec_is ?_; rw [hq]))
    have hR : w2.rangeAt w.heap.size 0 (s.map by8) := range_sec G2.out.2.1
    have hu := Try.underlying34
    have hi : (Try.prog.info? 34).map (·.size) = some (s.map by8).length := by rw [sizeS]; simp [hs.1]
    have hl32 : (s.map by8).length = 32 := by simp [hs.1]
    have h1c : ∀ v ∈ s.map by8, v.oneCell' = true := fun v hv => by obtain ⟨x, _, rfl⟩ := List.mem_map.1 hv; rfl
    obtain ⟨w3, hmu, m1, t1⟩ := IsM.store (w := w2.drew) (b := b1) (N := N) (f := m) G2.out.2.2.1 h0 h1 H.out.2.2.2.1 hs
    have o1 : Out (fun k => k = b1) w2 w3 := ((Out.refl _ w2).drew).trans (Out.turned t1 rfl)
    have k1 : w3.cell? ⟨d, 1, none⟩ = some (.map (some b1)) := by
      rw [← g4]; exact World.cell?_of_block (o1.block d (Nat.lt_of_lt_of_le l0 G2.out.1.size) d1)
    have k2 : w3.rangeAt w.heap.size 0 (s.map by8) := range_sec (by rw [o1.block w.heap.size G2.out.2.2.2.2 (fun e => by omega)]; exact G2.out.2.1)
    have M1 := hid m1
    have O1 := hid o1
    unfold secV at hmu
    clear m1 o1 t1
    go_region_held3 (fun w' => w'.cell? ⟨d, 1, none⟩ = some (.map (some b1)) ∧ w'.rangeAt w.heap.size 0 (s.map by8)) (first | go_keep_ranges | exact ⟨k1, k2⟩) (fail)
    go_end0
    refine ⟨rfl, FIN.out w2 w3 _ M2.out G2.out.1 O1.out M1.out ?_ R2.out⟩
    intro j
    unfold upd updS
    split
    · rfl
    · exact (HE.out j).symm
end Go.Proofs.Ytfmkgflhgapeoab
namespace Go.Proofs.Ytfmkgflhgapeoab
open Go.RowKit Go.ChangeShapes Go.WideShapes Go.ChangeAt Go.Maps
set_option linter.unusedVariables false
set_option linter.unusedSimpArgs false
theorem IsD.ext {w : World} {d b1 b2 N : Nat} {on on' : Int → Sec} {c c' : Int → Option Sec} (h : IsD w d b1 b2 N on c) (e1 : ∀ i, on' i = on i) (e2 : ∀ i, c' i = c i) : IsD w d b1 b2 N on' c' := by
  have h1 : on' = on := funext e1
  have h2 : c' = c := funext e2
  rw [h1, h2]; exact h
set_option maxHeartbeats 400000 in
theorem flush_nil (w : World) : Calls Try.prog 49 #[.pointer none] w fun e w' => e = .returned (.int .i64 1) ∧ w' = w := by
  go_enter Try.func49, Try.ntmps49
  go_wp2
  go_ret
  exact ⟨rfl, rfl⟩
set_option maxRecDepth 100000 in
set_option maxHeartbeats 1000000 in
theorem flush_c {w : World} {d b1 b2 N : Nat} {on : Int → Sec} {c : Int → Option Sec} (h : IsD w d b1 b2 N on c) :
    Calls Try.prog 49 #[pD d] w fun e w' => e = .returned (.int .i64 0) ∧ IsD w' d b1 b2 N (fun i => (c i).getD (on i)) (fun _ => none) ∧ Out (fun k => k = b1 ∨ k = b2) w w' := by
  obtain ⟨c0, c1, c2, l0, l1, l2, d1, d2, d3⟩ := h.cells
  obtain ⟨D, hown, hf⟩ := h.2.2.2.2.1.1
  have HS : Hid (∀ i s, c i = some s → IsSec s ∧ 0 ≤ i ∧ i < N) := h.2.2.2.2.1.2
  have HF := hid hf
  have H := hid h
  have HO := hid hown
  have HN := hid h.2.2.2.1
  clear h hf hown c0 c1
  go_enter Try.func49, Try.ntmps49
  go_wp2_with (at_range; refine wpList_range_own _ rfl _ 45 rfl 3 34 law3 Try.underlying45 secR b2 N D rfl HO.out ?_; intro w0 hrg0 hg0 hs0)
  go_frame
  have R0 := hid hrg0
  have G0 := hid hg0
  clear hrg0 hg0 hs0 c2
  go_loopw [3] (fun _ wr => ∃ D' left cnt on' c', wr.ranges Try.prog 3 secR b2 w.heap.size N D' left cnt ∧ IsD wr d b1 b2 N on' c' ∧ Hid (∀ i, left (ky i) = true → c i ≠ none) ∧ Hid (∀ i, c' i = if left (ky i) = true then c i else none) ∧ Hid (∀ i, on' i = if left (ky i) = true then on i else (c i).getD (on i)) ∧ Out (fun k => k = b1 ∨ k = b2) w wr) (fun _ wr => wr.rangeLeft b2 w.heap.size)
  case atStart =>
    have o0 : Out (fun k => k = b1 ∨ k = b2) w w0 := Out.grown G0.out (fun k e => by cases e)
    have o1 : Out (fun _ => False) w w0 := Out.grown G0.out (fun k e => by cases e)
    have e0 : ∀ i, Maps.has D (ky i) = (c i).isSome := fun i => by rw [HF.out i]; exact (look_at HO.out i zsec).2
    refine ⟨D, Maps.has D, Maps.size D, on, c, R0.out, H.out.out o1 id id id, ?_, ?_, ?_, o0⟩
    · intro i hi e; rw [e0, e] at hi; cases hi
    · intro i; rw [e0]; cases c i <;> rfl
    · intro i; rw [e0]; cases c i <;> rfl
  case round =>
    obtain ⟨D', left, cnt, on', c', hrg, hD, hl, hc', hon', hout⟩ := hrel
    have HR := hid hrg
    have HD := hid hD
    have HU := hid hout
    clear hrg hD hout
    go_wp2_with (at_next; refine wpList_next_ranges _ rfl _ rfl 3 law3 secR (Value.int .i64) secV (fun key kl hk => by obtain ⟨x, hx, _⟩ := Maps.keyOf_int_inv Try.underlying3 hk; exact ⟨x, hx⟩) (fun v y hv => by obtain ⟨s, _, hx, _⟩ := secR_inv hv; exact ⟨s, hx⟩) b2 w.heap.size N _ _ _ rfl HR.out ?_ ?_)
    · intro _ hl0
      have HL0 := hid hl0
      clear hl0
      go_wp2
      go_ret
      refine ⟨rfl, HD.out.ext (fun i => ?_) (fun i => ?_), HU.out⟩
      · rw [hon'.out i, HL0.out, if_neg (by simp)]
      · rw [hc'.out i, HL0.out, if_neg (by simp)]
    · intro x s kl yd yp w1 cnt1 hkey hlk hv hat hrg1 hlt hg1 hs1 hen
      obtain ⟨x', ex, ekl, hwx⟩ := Maps.keyOf_int_inv Try.underlying3 hkey
      cases ex
      have ekl' : kl = ky x := ekl
      subst ekl'
      have R1 := hid hrg1
      have o1 : Out (fun k => k = w.heap.size) wr w1 := Out.grown hg1 (fun k e => by cases e; rfl)
      have O1 := hid o1
      have HD1 : Hid (IsD w1 d b1 b2 N on' c') := HD.out.out o1 (by omega) (by omega) (by omega)
      have hcx : ∃ s0, c x = some s0 := by
        have := hl.out x hlk
        cases hq : c x with
        | none => exact absurd hq this
        | some s0 => exact ⟨s0, rfl⟩
      obtain ⟨s0, hs0⟩ := hcx
      have hcx' : c' x = some s0 := by rw [hc'.out x, if_pos hlk, hs0]
      have HS0 := hid hs0
      have HLK := hid hlk
      have SC := hid (settle_some HD1.out x hcx')
      have HLT := hid hlt
      clear hkey hlk hv hat hrg1 hlt hg1 hs1 ekl hwx o1 hs0 hcx'
      go_wp2_with (go_at_call 66; refine SC.out.mono ?_; rintro e w2 ⟨rfl, q1, q2, q3⟩)
      obtain ⟨cnt2, q4, q5⟩ := q3 _ _ _ _ _ (by omega) R1.out
      rw [Maps.strike_twice] at q4
      go_roundw
      case rel =>
        have key : ∀ i : Int, (left (ky i) && !(ky i).sameKey (ky x)) = true ↔ left (ky i) = true ∧ i ≠ x := fun i => by rw [same_ky]; simp
        have hout2 : Out (fun k => k = b1 ∨ k = b2) w w2 := by
          refine ⟨q2.os.trans (O1.out.os.trans HU.out.os), q2.tape.trans (O1.out.tape.trans HU.out.tape), q2.output.trans (O1.out.output.trans HU.out.output), Nat.le_trans HU.out.size (Nat.le_trans O1.out.size q2.size), fun k hk hS => ?_⟩
          rw [q2.block k (Nat.lt_of_lt_of_le hk (Nat.le_trans HU.out.size O1.out.size)) hS, O1.out.block k (Nat.lt_of_lt_of_le hk HU.out.size) (by omega), HU.out.block k hk hS]
        refine ⟨_, _, cnt2, _, _, q4, q1, fun i hi => hl.out i ((key i).1 hi).1, fun i => ?_, fun i => ?_, hout2⟩
        · unfold upd
          by_cases hi : i = x
          · rw [if_pos hi, if_neg (by rw [key]; simp [hi])]
          · rw [if_neg hi, hc'.out i]
            by_cases hq : left (ky i) = true
            · rw [if_pos hq, if_pos ((key i).2 ⟨hq, hi⟩)]
            · rw [if_neg hq, if_neg (fun h => hq ((key i).1 h).1)]
        · unfold updS
          by_cases hi : i = x
          · rw [if_pos hi, if_neg (by rw [key]; simp [hi]), hi, HS0.out]; rfl
          · rw [if_neg hi, hon'.out i]
            by_cases hq : left (ky i) = true
            · rw [if_pos hq, if_pos ((key i).2 ⟨hq, hi⟩)]
            · rw [if_neg hq, if_neg (fun h => hq ((key i).1 h).1)]
      case measure => rw [q4.left_eq, HR.out.left_eq]; have := HLT.out; omega
/-- Numbers that came in. -/
def IsZ (w : World) (a : Option Addr) (len : Nat) (zs : List Int) : Prop :=
  zs.length = len ∧ len ≤ maxLen ∧ (0 < len → ∃ b off, a = some ⟨b, off, none⟩ ∧ ∀ i, i < len → w.cell? ⟨b, off + i, none⟩ = some (.int .i64 (zs.getD i 0))) ∧ ∀ i, -9223372036854775808 ≤ zs.getD i 0 ∧ zs.getD i 0 < 9223372036854775808
theorem IsM.cell {w : World} {b N : Nat} {f : Int → Option Sec} (h : IsM w b N f) {g o : Nat} {v : Value} (hc : w.cell? ⟨g, o, none⟩ = some v) : g ≠ b := by
  intro e
  obtain ⟨⟨D, ⟨es, clock, hb, _⟩, _⟩, _⟩ := h
  subst e
  simp [World.cell?, hb] at hc
theorem take_mem_succ (zs : List Int) (k : Nat) (h : k < zs.length) (j : Int) : j ∈ zs.take (k + 1) ↔ j ∈ zs.take k ∨ j = zs.getD k 0 := by
  rw [List.take_succ_eq_append_getElem h, List.mem_append, List.mem_singleton]
  simp [List.getD, List.getElem?_eq_getElem h]
set_option maxHeartbeats 400000 in
theorem crash_nil (a : Option Addr) (len cap : Nat) (w : World) : Calls Try.prog 50 #[.pointer none, .slice a len cap] w fun e w' => e = .returned (.int .i64 1) ∧ w' = w := by
  go_enter Try.func50, Try.ntmps50
  go_wp2
  go_ret
  exact ⟨rfl, rfl⟩
set_option maxRecDepth 100000 in
set_option maxHeartbeats 1000000 in
theorem crash_c {w : World} {d b1 b2 N : Nat} {on : Int → Sec} {c : Int → Option Sec} (h : IsD w d b1 b2 N on c) (a : Option Addr) (len cap : Nat) (zs : List Int) (hz : IsZ w a len zs) :
    Calls Try.prog 50 #[pD d, .slice a len cap] w fun e w' => e = .returned (.int .i64 0) ∧ IsD w' d b1 b2 N (fun i => if i ∈ zs then (c i).getD (on i) else on i) (fun _ => none) ∧ Out (fun k => k = b1 ∨ k = b2) w w' := by
  obtain ⟨c0, c1, c2, l0, l1, l2, d1, d2, d3⟩ := h.cells
  have H := hid h
  have HZ := hid hz
  have hm := hz.2.1
  unfold maxLen at hm
  have HC : Hid (∀ i, i < len → ∃ b off, a = some ⟨b, off, none⟩ ∧ w.cell? ⟨b, off + i, none⟩ = some (.int .i64 (zs.getD i 0)) ∧ b < w.heap.size ∧ b ≠ b1 ∧ b ≠ b2) := by
    intro i hi
    obtain ⟨b, off, e, hc⟩ := hz.2.2.1 (by omega)
    have h1 := hc i hi
    obtain ⟨_, _, _, _, m2, m, m1, _⟩ := h
    exact ⟨b, off, e, h1, World.block_lt_of_cell? w _ h1, m1.cell h1, m2.cell h1⟩
  clear h hz c0 c1 c2
  go_enter Try.func50, Try.ntmps50
  go_wp2
  go_loopw [6, 11] (fun _ i wr => ∃ (k : Nat) (on' : Int → Sec) (c' : Int → Option Sec), k ≤ len ∧ i = .int .i64 k ∧ Hid (IsD wr d b1 b2 N on' c') ∧ Hid (∀ j, c' j = if j ∈ zs.take k then none else c j) ∧ Hid (∀ j, on' j = if j ∈ zs.take k then (c j).getD (on j) else on j) ∧ Hid (Out (fun k => k = b1 ∨ k = b2) w wr)) (fun _ i _ => len - (intOf i).toNat)
  case atStart => exact ⟨0, on, c, Nat.zero_le _, rfl, H, fun j => by simp, fun j => by simp, Out.refl _ _⟩
  case round =>
    obtain ⟨k, on', c', hk, rfl, HD, hc', hon', HU⟩ := hrel
    by_cases hlt : k < len
    · obtain ⟨b, off, rfl, hcell, hbl, hb1, hb2⟩ := HC.out k hlt
      have hz1 := HZ.out.2.2.2 k
      have hcw : wr.cell? ⟨b, off + k, none⟩ = some (.int .i64 (zs.getD k 0)) := by
        rw [← hcell]; exact World.cell?_of_block (HU.out.block b hbl (by omega))
      have HT : Hid (∀ j, j ∈ zs.take (k + 1) ↔ j ∈ zs.take k ∨ j = zs.getD k 0) := take_mem_succ zs k (by have := HZ.out.1; omega)
      obtain ⟨z, ez⟩ : ∃ z, z = zs.getD k 0 := ⟨_, rfl⟩
      have EZ := hid ez
      rw [← ez] at hz1 hcw
      clear ez hcell hbl hb1 hb2
      cases hq : c' z with
      | none =>
        have SC := hid (settle_none HD.out z hz1.1 hz1.2 hq)
        have HQ := hid hq
        clear hq
        go_wp2_with (go_at_call 66; refine SC.out.mono ?_; rintro e w2 ⟨rfl, q1⟩)
        go_roundw
        case rel =>
          refine ⟨k + 1, on', c', by omega, by go_num, HD.out.later q1, fun j => ?_, fun j => ?_, HU.out.trans (Out.of q1)⟩
          · rw [hc'.out j]
            by_cases hj : j ∈ zs.take k
            · rw [if_pos hj, if_pos ((HT.out j).2 (.inl hj))]
            · rw [if_neg hj]
              by_cases hjz : j = z
              · have := HQ.out
                rw [hc'.out, ← hjz, if_neg hj] at this
                rw [this]; split <;> rfl
              · rw [if_neg (fun h => by rcases (HT.out j).1 h with h | h; exact hj h; exact hjz (h.trans EZ.out.symm))]
          · rw [hon'.out j]
            by_cases hj : j ∈ zs.take k
            · rw [if_pos hj, if_pos ((HT.out j).2 (.inl hj))]
            · rw [if_neg hj]
              by_cases hjz : j = z
              · have := HQ.out
                rw [hc'.out, ← hjz, if_neg hj] at this
                rw [this]; split <;> rfl
              · rw [if_neg (fun h => by rcases (HT.out j).1 h with h | h; exact hj h; exact hjz (h.trans EZ.out.symm))]
        case measure => simp [intOf]; omega
      | some s =>
        have SC := hid (settle_some HD.out z hq)
        have HQ := hid hq
        clear hq
        go_wp2_with (go_at_call 66; refine SC.out.mono ?_; rintro e w2 ⟨rfl, q1, q2, _⟩)
        go_roundw
        case rel =>
          refine ⟨k + 1, _, _, by omega, by go_num, q1, fun j => ?_, fun j => ?_, HU.out.trans q2⟩
          · unfold upd
            by_cases hjz : j = z
            · rw [if_pos hjz, if_pos ((HT.out j).2 (.inr (hjz.trans EZ.out)))]
            · rw [if_neg hjz, hc'.out j]
              by_cases hj : j ∈ zs.take k
              · rw [if_pos hj, if_pos ((HT.out j).2 (.inl hj))]
              · rw [if_neg hj, if_neg (fun h => by rcases (HT.out j).1 h with h | h; exact hj h; exact hjz (h.trans EZ.out.symm))]
          · unfold updS
            by_cases hjz : j = z
            · have := HQ.out
              rw [hc'.out] at this
              split at this
              · cases this
              · rw [if_pos hjz, if_pos ((HT.out j).2 (.inr (hjz.trans EZ.out))), hjz, this]; rfl
            · rw [if_neg hjz, hon'.out j]
              by_cases hj : j ∈ zs.take k
              · rw [if_pos hj, if_pos ((HT.out j).2 (.inl hj))]
              · rw [if_neg hj, if_neg (fun h => by rcases (HT.out j).1 h with h | h; exact hj h; exact hjz (h.trans EZ.out.symm))]
        case measure => simp [intOf]; omega
    · have ek : k = len := by omega
      have EK := hid ek
      clear ek
      have c2' := HD.out.cells.2.2.1
      go_wp2_with (refine wpList_clear _ rfl _ rfl b2 N c' rfl HD.out.2.2.2.2.1 ?_; intro w2 m2 t2)
      go_ret
      have o2 : Out (fun k => k = b2) wr w2 := Out.turned t2 rfl
      obtain ⟨e1, e2, e3, e4, e5, m, e6, e7⟩ := HD.out
      refine ⟨rfl, ⟨by rw [o2.block d (lt_blk e1) d2]; exact e1, e2, e3, e4, m2, m, e6.out o2 d3, fun i => ?_⟩, HU.out.trans (o2.mono fun _ e => Or.inr e)⟩
      rw [← e7 i, hon'.out i, EK.out, List.take_of_length_le (by have := HZ.out.1; omega)]
end Go.Proofs.Ytfmkgflhgapeoab
namespace Go.Proofs.Ytfmkgflhgapeoab
open Go.RowKit Go.ChangeShapes Go.WideShapes Go.ChangeAt
set_option linter.unusedVariables false
set_option linter.unusedSimpArgs false
theorem or_up (i : Nat) (a b : Int) (ha : 0 ≤ a) (ha' : a.toNat < 2 ^ i) (hb : 0 ≤ b) (hb' : b < 4294967296) (hm : b.toNat % 2 ^ i = 0) (hi : a < 4294967296) : bits .or .u32 a b = a + b := by
  rw [u32_or _ _ (by omega) (by omega) (by omega) (by omega), Nat.or_comm, nat_join i _ _ hm ha']; omega
theorem or_four (a b c d : Int) (ha : 0 ≤ a ∧ a ≤ 255) (hb : 0 ≤ b ∧ b ≤ 255) (hc : 0 ≤ c ∧ c ≤ 255) (hd : 0 ≤ d ∧ d ≤ 255) :
    bits .or .u32 (bits .or .u32 (bits .or .u32 (bits .or .u32 0 a) (b * 256)) (c * 65536)) (d * 16777216) = Fr.num4 a b c d := by
  rw [or_up 0 0 a (by omega) (by omega) (by omega) (by omega) (by omega) (by omega), or_up 8 (0 + a) (b * 256) (by omega) (by omega) (by omega) (by omega) (by omega) (by omega),
    or_up 16 (0 + a + b * 256) (c * 65536) (by omega) (by omega) (by omega) (by omega) (by omega) (by omega), or_up 24 (0 + a + b * 256 + c * 65536) (d * 16777216) (by omega) (by omega) (by omega) (by omega) (by omega) (by omega)]
  unfold Fr.num4; omega
theorem or_two (a b : Int) (ha : 0 ≤ a ∧ a ≤ 255) (hb : 0 ≤ b ∧ b ≤ 255) : bits .or .u32 (bits .or .u32 0 a) (b * 256) = a + 256 * b := by
  rw [or_up 0 0 a (by omega) (by omega) (by omega) (by omega) (by omega) (by omega), or_up 8 (0 + a) (b * 256) (by omega) (by omega) (by omega) (by omega) (by omega) (by omega)]
  omega
theorem info_parts8 : ∃ i : TypeInfo, Try.prog.info? 5 = some i ∧ i.zero = some (.int .u8 0) ∧ i.size = 1 ∧ i.bytes = 1 := by
  have h : (Try.prog.info? 5).map (fun i => (i.zero, i.size, i.bytes)) = some (some (.int .u8 0), 1, 1) := by kernel_rfl
  cases hi : Try.prog.info? 5 with
  | none => rw [hi] at h; cases h
  | some i =>
    rw [hi] at h
    simp at h
    exact ⟨i, rfl, h.1, h.2.1, h.2.2⟩
def u8V (x : Int) : Value := .int .u8 x
theorem strCells_bs (s : ByteArray) : Lib.strCells s = (Fr.bs s).map u8V := by
  unfold Lib.strCells Fr.bs; simp [u8V]
/-- What lies below block 'base', but for block g, is as it was. -/
structure Kpt (base g : Nat) (w w' : World) : Prop where
  os : w'.os = w.os
  tape : w'.tape = w.tape
  output : w'.output = w.output
  size : w.heap.size ≤ w'.heap.size
  block : ∀ k, k < base → k ≠ g → w'.heap[k]? = w.heap[k]?
theorem Kpt.refl (base g : Nat) (w : World) : Kpt base g w w := ⟨rfl, rfl, rfl, Nat.le_refl _, fun _ _ _ => rfl⟩
theorem Kpt.trans {base g : Nat} {a b c : World} (h : Kpt base g a b) (k : Kpt base g b c) : Kpt base g a c :=
  ⟨k.os.trans h.os, k.tape.trans h.tape, k.output.trans h.output, Nat.le_trans h.size k.size, fun i hi hne => (k.block i hi hne).trans (h.block i hi hne)⟩
theorem Kpt.on {base g : Nat} {a b c : World} (h : Kpt base g a b) (k : Kpt base g b.drew c) : Kpt base g a c := h.trans ⟨k.os, k.tape, k.output, k.size, k.block⟩
theorem Kpt.drew {base g : Nat} {a b : World} (h : Kpt base g a b) : Kpt base g a b.drew := ⟨h.os, h.tape, h.output, h.size, h.block⟩
theorem Kpt.below {base g B : Nat} {a b : World} (h : Kpt base g a b) (h1 : B ≤ base) (h2 : B ≤ g) : Below B a b := ⟨h.os, h.tape, h.output, h.size, fun k hk => h.block k (by omega) (by omega)⟩
theorem Kpt.cell {base g : Nat} {w w' : World} (h : Kpt base g w w') {p : Addr} (h1 : p.block < base) (h2 : p.block ≠ g) : w'.cell? p = w.cell? p := World.cell?_of_block (h.block p.block h1 h2)
/-- A pile: its cell lies in block g, its bytes in a block of its own from 'base' on. -/
def Pile (w : World) (T base g : Nat) (zs : List Int) : Prop :=
  g < base ∧ base ≤ w.heap.size ∧ ∃ v, w.heap[g]? = some (.cells #[v] T (0, 0)) ∧ w.ownsRow base 5 1 v zs.length (zs.map u8V)
theorem Pile.drew {w : World} {T base g : Nat} {zs : List Int} (h : Pile w T base g zs) : Pile w.drew T base g zs := h
theorem cell_box {w : World} {g : Nat} {v : Value} {T : TypeId} (h : w.heap[g]? = some (.cells #[v] T (0, 0))) : w.cell? ⟨g, 0, none⟩ = some v := by
  rw [cell_of_row w g 0 #[v] T (0, 0) h]; rfl
theorem frozen_box {w : World} {g : Nat} {v : Value} {T : TypeId} (h : w.heap[g]? = some (.cells #[v] T (0, 0))) : w.frozen? ⟨g, 0, none⟩ = false := by
  simp [World.frozen?, h]
theorem heap_setBox {W : World} {B : Nat} {v : Value} {t : TypeId} (v' : Value) (h : W.heap[B]? = some (.cells #[v] t (0, 0))) : (W.setCell ⟨B, 0, none⟩ v').heap[B]? = some (.cells #[v'] t (0, 0)) := by
  rw [heap_setCell_same W B 0 #[v] t v' h]; rfl
theorem lay_box {w w5 : World} {base g : Nat} {v : Value} {T n : Nat} {xs : List Value} {o : Obj} (hbox : w.heap[g]? = some (.cells #[v] T (0, 0))) (hown : w.ownsRow base 5 1 v n xs) (hg : g < base) (hgrow : (w.alloc o).grownBy w5 v.ownBlock) (hlt : g < w.heap.size) :
    w5.heap[g]? = some (.cells #[v] T (0, 0)) := by
  rw [hgrow.block g (by simp; omega) (fun e => by have := (hown.lt g e.symm).1; omega), Below.heap_alloc _ _ _ hlt]; exact hbox
theorem body_end {P : Program} {fn : Func} {R : Ending → World → Prop} {a : Act} {w : World} (hr : fn.results = #[]) (hd : a.defers = []) (hR : R (.returned (.tuple #[])) w) : bodyPost P fn R .normal a w :=
  bodyPost_end (v := .tuple #[]) (by simp [results, hr, go_sem]) hd hR
theorem own_slice {w : World} {base : Nat} {e size n : Nat} {v : Value} {xs : List Value} (h : w.ownsRow base e size v n xs) : ∃ a m c, v = .slice a m c := by
  rcases h.2 with ⟨hv, _⟩ | ⟨g, cap, cur, hv, _⟩
  · exact ⟨_, _, _, hv⟩
  · exact ⟨_, _, _, hv⟩
theorem lay_kpt {w w5 : World} {base g : Nat} {v v' : Value} {n : Nat} {xs : List Value} {o : Obj} (hown : w.ownsRow base 5 1 v n xs) (hg : g < base) (hgrow : (w.alloc o).grownBy w5 v.ownBlock) (hbase : base ≤ w.heap.size) :
    Kpt base g w (w5.setCell ⟨g, 0, none⟩ v') :=
  ⟨hgrow.os, hgrow.tape, hgrow.output, by have := hgrow.size; simp [World.setCell] at this ⊢; omega, fun k hk hne => by
    rw [heap_setCell_other _ _ _ _ hne, hgrow.block k (by simp; omega) (fun e => by have := (hown.lt k e.symm).1; omega), Below.heap_alloc _ _ _ (by omega)]⟩
theorem text_box {w w5 : World} {base g : Nat} {v : Value} {T n : Nat} {xs : List Value} (hbox : w.heap[g]? = some (.cells #[v] T (0, 0))) (hown : w.ownsRow base 5 1 v n xs) (hg : g < base) (hgrow : w.grownBy w5 v.ownBlock) (hlt : g < w.heap.size) :
    w5.heap[g]? = some (.cells #[v] T (0, 0)) := by
  rw [hgrow.block g hlt (fun e => by have := (hown.lt g e.symm).1; omega)]; exact hbox
theorem text_kpt {w w5 : World} {base g : Nat} {v v' : Value} {n : Nat} {xs : List Value} (hown : w.ownsRow base 5 1 v n xs) (hg : g < base) (hgrow : w.grownBy w5 v.ownBlock) (hbase : base ≤ w.heap.size) :
    Kpt base g w (w5.setCell ⟨g, 0, none⟩ v') :=
  ⟨hgrow.os, hgrow.tape, hgrow.output, by have := hgrow.size; simp [World.setCell] at this ⊢; omega, fun k hk hne => by
    rw [heap_setCell_other _ _ _ _ hne, hgrow.block k (by omega) (fun e => by have := (hown.lt k e.symm).1; omega)]⟩
def wayB (p : Fr.Pk) : Bool := (p.k == 1 && p.f != 0 && decide (p.f ≤ 3) && p.t == 0) || (p.k == 2 && p.f == 0 && p.t != 0 && decide (p.t ≤ 3))
theorem right_way (p : Fr.Pk) : Fr.rightB p = (wayB p && p.s != 0 && decide (p.b.size ≤ 16384)) := rfl
end Go.Proofs.Ytfmkgflhgapeoab
namespace Go.Proofs.Ytfmkgflhgapeoab
open Go.RowKit Go.ChangeShapes Go.WideShapes Go.ChangeAt Go.Maps
set_option linter.unusedVariables false
set_option linter.unusedSimpArgs false
/-- Block g holds the bytes s. -/
abbrev Bx (w : World) (g : Nat) (T : TypeId) (s : List Int) : Prop := w.heap[g]? = some (.cells (s.map by8).toArray T (0, 0))
/-- s with l from the place i on. -/
def put (s : List Int) (i : Nat) (l : List Int) : List Int := s.take i ++ l ++ s.drop (i + l.length)
theorem put_len {s l : List Int} {i : Nat} (h : i + l.length ≤ s.length) : (put s i l).length = s.length := by unfold put; simp; omega
theorem put_bytes {s l : List Int} {i : Nat} (hs : Jo.Bytes s) (hl : Jo.Bytes l) : Jo.Bytes (put s i l) := by
  unfold put; exact Jo.bytes_app (Jo.bytes_app (Jo.bytes_take hs _) hl) (Jo.bytes_drop hs _)
theorem bx_cell {w : World} {g : Nat} {T : TypeId} {s : List Int} (h : Bx w g T s) (i : Nat) (hi : i < s.length) : w.cell? ⟨g, i, none⟩ = some (.int .u8 (s.getD i 0)) := by
  rw [cell_of_row w g i _ T (0, 0) h]; simp [hi, by8, List.getD]
theorem bx_frozen {w : World} {g : Nat} {T : TypeId} {s : List Int} (h : Bx w g T s) (i : Nat) : w.frozen? ⟨g, i, none⟩ = false := by simp [World.frozen?, h]
theorem bx_lt {w : World} {g : Nat} {T : TypeId} {s : List Int} (h : Bx w g T s) : g < w.heap.size := lt_blk h
theorem bx_set {w : World} {g : Nat} {T : TypeId} {s : List Int} (h : Bx w g T s) (i : Nat) (x : Int) (hi : i < s.length) : Bx (w.setCell ⟨g, i, none⟩ (.int .u8 x)) g T (s.set i x) := by
  unfold Bx
  rw [heap_setCell_same w g i _ T _ h]
  simp [by8]
theorem bx_out {S : Nat → Prop} {w w' : World} {g : Nat} {T : TypeId} {s : List Int} (h : Bx w g T s) (ho : Out S w w') (hS : ¬ S g) : Bx w' g T s := by
  unfold Bx; rw [ho.block g (bx_lt h) hS]; exact h
theorem Out.setCell {S : Nat → Prop} {a w : World} (h : Out S a w) (p : Addr) (v : Value) (hS : S p.block) : Out S a (w.setCell p v) := by
  refine ⟨h.os, h.tape, h.output, by simp [World.setCell]; exact h.size, fun k hk hn => ?_⟩
  rw [heap_setCell_other _ _ _ _ (fun e => hn (by rw [e]; exact hS))]
  exact h.block k hk hn
theorem put4 {s : List Int} {i : Nat} {a b c d : Int} (h : i + 4 ≤ s.length) : (((s.set i a).set (i + 1) b).set (i + 2) c).set (i + 3) d = put s i [a, b, c, d] := by
  apply List.ext_getElem?
  intro k
  unfold put
  simp only [List.getElem?_set, List.length_set, List.append_assoc]
  by_cases h1 : k < i
  · rw [if_neg (by omega), if_neg (by omega), if_neg (by omega), if_neg (by omega), List.getElem?_append_left (by simp; omega), List.getElem?_take, if_pos h1]
  · rw [List.getElem?_append_right (by simp; omega)]
    simp only [List.length_take]
    rw [Nat.min_eq_left (by omega)]
    by_cases h2 : k < i + 4
    · obtain ⟨j, rfl⟩ : ∃ j, k = i + j := ⟨k - i, by omega⟩
      have hj : j = 0 ∨ j = 1 ∨ j = 2 ∨ j = 3 := by omega
      rcases hj with rfl | rfl | rfl | rfl
      · rw [if_neg (by omega), if_neg (by omega), if_neg (by omega), if_pos (by omega), if_pos (by omega)]; simp
      · rw [if_neg (by omega), if_neg (by omega), if_pos (by omega), if_pos (by omega)]; simp
      · rw [if_neg (by omega), if_pos (by omega), if_pos (by omega)]; simp
      · rw [if_pos (by omega), if_pos (by omega)]; simp
    · rw [if_neg (by omega), if_neg (by omega), if_neg (by omega), if_neg (by omega), List.getElem?_append_right (by simp; omega), List.getElem?_drop]
      congr 1
      simp; omega
set_option maxHeartbeats 1000000 in
theorem putNumber_c (g off cap : Nat) (T : TypeId) (s : List Int) (n : Int) (w : World) (h : Bx w g T s) (hoff : off + 4 ≤ s.length) (h0 : 0 ≤ n) (h1 : n < 4294967296) :
    Calls Try.prog 77 #[.slice (some ⟨g, off, none⟩) 4 cap, .int .u32 n] w fun e w' => e = .returned (.tuple #[]) ∧ Bx w' g T (put s off (Fr.le4 n)) ∧ Out (fun k => k = g) w w' ∧ w'.heap.size = w.heap.size := by
  have k0 : IntKind.i64.wrap 0 = 0 := by decide
  have k1 : IntKind.i64.wrap 8 = 8 := by decide
  have k2 : IntKind.i64.wrap 16 = 16 := by decide
  have k3 : IntKind.i64.wrap 24 = 24 := by decide
  have c0 := bx_cell h off (by omega)
  have c1 := bx_cell h (off + 1) (by omega)
  have c2 := bx_cell h (off + 2) (by omega)
  have c3 := bx_cell h (off + 3) (by omega)
  have f0 := bx_frozen h off
  have f1 := bx_frozen h (off + 1)
  have f2 := bx_frozen h (off + 2)
  have f3 := bx_frozen h (off + 3)
  have H := hid h
  clear h
  go_enter Try.func77, Try.ntmps77
  go_wp2
  refine wp_loop_rounds 5 ?_
  rw [rounds_succ]
  go_wp2
  rw [rounds_succ]
  go_wp2
  rw [rounds_succ]
  go_wp2
  rw [rounds_succ]
  go_wp2
  rw [rounds_succ]
  go_wp2
  refine body_end (by kernel_rfl) rfl ⟨rfl, ?_, ?_, by simp [World.setCell]⟩
  · have e := bx_set (bx_set (bx_set (bx_set H.out off (n % 256) (by omega)) (off + 1) (n / 256 % 256) (by simp; omega)) (off + 2) (n / 65536 % 256) (by simp; omega)) (off + 3) (n / 16777216) (by simp; omega)
    rw [put4 hoff] at e
    have e4 : Fr.le4 n = [n % 256, n / 256 % 256, n / 65536 % 256, n / 16777216] := by unfold Fr.le4; rw [show n / 16777216 % 256 = n / 16777216 by omega]
    rw [e4]
    simpa [IntKind.wrap_u8'] using e
  · exact ((((Out.refl (fun k => k = g) w).setCell ⟨g, off, none⟩ _ rfl).setCell ⟨g, off + 1, none⟩ _ rfl).setCell ⟨g, off + 2, none⟩ _ rfl).setCell ⟨g, off + 3, none⟩ _ rfl
set_option maxHeartbeats 1000000 in
theorem readNumber_c (a : Option Addr) (cap : Nat) (zs : List Int) (w : World) (hb : IsB w a 4 zs) :
    Calls Try.prog 72 #[.slice a 4 cap] w fun e w' => e = .returned (.int .u32 (Fr.at4 zs 0)) ∧ w' = w := by
  obtain ⟨hl, hm, hc, hz⟩ := hb
  obtain ⟨b, off, rfl, hcell⟩ := hc (by omega)
  have c0 : w.cell? ⟨b, off, none⟩ = some (.int .u8 (zs.getD 0 0)) := hcell 0 (by omega)
  have c1 := hcell 1 (by omega)
  have c2 := hcell 2 (by omega)
  have c3 := hcell 3 (by omega)
  have z0 := hz 0
  have z1 := hz 1
  have z2 := hz 2
  have z3 := hz 3
  have E : Hid (Fr.at4 zs 0 = Fr.num4 (zs.getD 0 0) (zs.getD 1 0) (zs.getD 2 0) (zs.getD 3 0)) := rfl
  generalize zs.getD 0 0 = x0 at *
  generalize zs.getD 1 0 = x1 at *
  generalize zs.getD 2 0 = x2 at *
  generalize zs.getD 3 0 = x3 at *
  have O := hid (or_four x0 x1 x2 x3 z0 z1 z2 z3)
  clear hc hcell hz hl hm
  go_enter Try.func72, Try.ntmps72
  go_wp2
  refine wp_loop_rounds 5 ?_
  rw [rounds_succ]
  go_wp2
  rw [rounds_succ]
  go_wp2
  rw [rounds_succ]
  go_wp2
  rw [rounds_succ]
  go_wp2
  rw [rounds_succ]
  go_wp2
  go_ret
  exact ⟨ret_int (by rw [E.out]; exact O.out), rfl⟩
abbrev pB (g : Nat) : Value := .pointer (some ⟨g, 0, none⟩)
set_option maxRecDepth 20000 in
set_option maxHeartbeats 400000 in
theorem field_c (g i : Nat) (w : World) (hi : i + 4 ≤ 32) : Calls Try.prog 73 #[pB g, .int .i64 i] w fun e w' => e = .returned (.slice (some ⟨g, i, none⟩) 4 4) ∧ w' = w := by
  have i0 : (0 : Int) ≤ i := by omega
  have i1 : (i : Int) ≤ i + 4 := by omega
  have i2 : (i : Int) + 4 ≤ 32 := by omega
  go_enter Try.func73, Try.ntmps73
  go_wp2
  go_ret
  exact ⟨by show Ending.returned (.slice _ (i + 4 - i) (i + 4 - i)) = _; rw [Nat.add_sub_cancel_left], rfl⟩
set_option maxHeartbeats 400000 in
theorem inside_c (g : Nat) (w : World) : Calls Try.prog 70 #[pB g] w fun e w' => e = .returned (.slice (some ⟨g, 1, none⟩) 31 31) ∧ w' = w := by
  go_enter Try.func70, Try.ntmps70
  go_wp2
  go_ret
  exact ⟨rfl, rfl⟩
/-- The bytes from a place on, as a slice. -/
theorem bx_isB {w : World} {g : Nat} {T : TypeId} {s : List Int} (h : Bx w g T s) (hb : Jo.Bytes s) (i n : Nat) (hn : i + n ≤ s.length) (hm : n ≤ maxLen) : IsB w (some ⟨g, i, none⟩) n ((s.drop i).take n) := by
  refine ⟨by simp; omega, hm, fun hp => ⟨g, i, rfl, fun k hk => ?_⟩, fun k => ?_⟩
  · rw [bx_cell h (i + k) (by omega)]; simp [List.getD, List.getElem?_take, hk, List.getElem?_drop]
  · have := Jo.bytes_getD (Jo.bytes_take (Jo.bytes_drop hb i) n) k; omega
theorem at4_drop (s : List Int) (i : Nat) : Fr.at4 ((s.drop i).take 4) 0 = Fr.at4 s i := by
  unfold Fr.at4; simp [List.getD, List.getElem?_take, List.getElem?_drop]
set_option maxHeartbeats 1000000 in
theorem seal_c (g i : Nat) (T : TypeId) (s : List Int) (w : World) (h : Bx w g T s) (hs : s.length = 32) (hb : Jo.Bytes s) (hi : i + 4 ≤ 32) :
    Calls Try.prog 78 #[pB g, .int .i64 i] w fun e w' => e = .returned (.tuple #[]) ∧ Bx w' g T (put s i (Fr.le4 (M.foldF (s.take i)))) ∧ Out (fun k => k = g) w w' ∧ w'.heap.size = w.heap.size := by
  have hz := bx_isB h hb 0 i (by omega) (by unfold maxLen; omega)
  rw [List.drop_zero] at hz
  have hf := Fr.fold_lt (s.take i)
  have HZ := hid hz
  have H := hid h
  have hi1 : (i : Int) ≤ 32 := by omega
  have hi0 : (0 : Int) ≤ i := by omega
  clear h hz
  go_enter Try.func78, Try.ntmps78
  go_wp2_with fail
  go_region_held3 (fun w' => True) (trivial) (first
    | (go_at_call 77; refine (putNumber_c g i 4 T s _ _ (by exact H.out) (by omega) hf.1 hf.2).mono ?_; rintro e w1 ⟨rfl, hp1, hk1, hk2⟩)
    | (go_at_call 89; refine (fold_c _ _ _ (s.take i) _ (by exact HZ.out)).mono ?_; rintro e w0 ⟨rfl, rfl⟩)
    | (go_at_call 73; refine (field_c g i _ hi).mono ?_; rintro e w0 ⟨rfl, rfl⟩))
  go_wp2
  exact body_end (by kernel_rfl) rfl ⟨rfl, hp1, ((Out.refl _ w).drew).trans hk1, hk2⟩
theorem results_cell1 {fn : Func} {p : Tmp} {ty : TypeId} (h : fn.results = #[.cell p ty]) (tmps : Array Value) (P : Program) (w : World) :
    (results fn tmps).run P w = ((asAddr (tmps.getD p undef)).run P w).andThen fun a w₁ => (loadVar ty a).run P w₁ := by
  simp only [results, h]
  simp [Sem.run_bind, Result.andThen]
/-- A sector that is handed back alone. -/
theorem res_sec1 {fn : Func} {p : Tmp} {ty e : TypeId} (h : fn.results = #[.cell p ty]) (tmps : Array Value) (w : World) (hT : (Try.prog.info? ty).map (·.size) = some 32) (hu : Try.prog.underlying ty = some (.array 32 e))
    (g : Nat) (hp : tmps.getD p undef = .pointer (some ⟨g, 0, none⟩)) (s : Sec) (hs : s.length = 32) (t : TypeId) (fr : Nat × Nat) (hb : w.heap[g]? = some (.cells (s.map by8).toArray t fr)) :
    (results fn tmps).run Try.prog w = .ok (secV s) w := by
  have hl := run_loadVar_row (P := Try.prog) w g t ty (s.map by8).toArray fr _ hb hu rfl (by rw [hT]; simp [hs])
  rw [results_cell1 h, hp]
  simp [asAddr, Result.andThen, hl, secV]
/-- A sector with its mark alone. -/
def markS (m : Int) : List Int := m :: List.replicate 31 0
theorem mark_sct {m : Int} (h : 0 ≤ m ∧ m < 256) : Jo.Sct (markS m) := ⟨by simp [markS], Jo.bytes_cons h (Jo.bytes_zero _)⟩
theorem mlit (m : Int) : (#[.int .u8 m, .int .u8 0, .int .u8 0, .int .u8 0, .int .u8 0, .int .u8 0, .int .u8 0, .int .u8 0, .int .u8 0, .int .u8 0, .int .u8 0, .int .u8 0, .int .u8 0, .int .u8 0, .int .u8 0, .int .u8 0, .int .u8 0, .int .u8 0, .int .u8 0, .int .u8 0, .int .u8 0, .int .u8 0, .int .u8 0, .int .u8 0, .int .u8 0, .int .u8 0, .int .u8 0, .int .u8 0, .int .u8 0, .int .u8 0, .int .u8 0, .int .u8 0] : Array Value) = ((markS m).map by8).toArray := rfl
/-- Two new sectors behind w: the first one of noughts, the second one s. -/
structure Two (w w' : World) (s : List Int) : Prop where
  sec : Bx w' (w.heap.size + 1) 34 s
  res : w'.heap[w.heap.size]? = some (.cells (zsec.map by8).toArray 34 (0, 0))
  size : w'.heap.size = w.heap.size + 2
  below : Below w.heap.size w w'
  sct : Jo.Sct s
theorem two_new (w : World) (s : List Int) (h : Jo.Sct s) : Two w ((w.alloc (.cells (zsec.map by8).toArray 34)).alloc (.cells (s.map by8).toArray 34)) s :=
  ⟨two_last w _ _, two_alloc w _ _, by simp, ((Below.refl _ _).alloc (Nat.le_refl _) _).alloc (by simp) _, h⟩
theorem Two.next {w v v' : World} {s : List Int} {i : Nat} {n : Int} (h : Two w v s) (hi : i + 4 ≤ 32) (hb : Bx v' (w.heap.size + 1) 34 (put s i (Fr.le4 n))) (ho : Out (fun k => k = w.heap.size + 1) v v') (hz : v'.heap.size = v.heap.size) : Two w v' (put s i (Fr.le4 n)) :=
  ⟨hb, by rw [ho.block _ (by rw [h.size]; omega) (by simp)]; exact h.res, by rw [hz]; exact h.size, h.below.trans (ho.below (by rw [h.size]; omega) (fun k e => by omega)),
    ⟨by rw [put_len (by rw [h.sct.1]; exact hi)]; exact h.sct.1, put_bytes h.sct.2 (Jo.bytes_le4 _)⟩⟩
theorem Two.last {w v v' : World} {s : List Int} (h : Two w v s) (ho : Out (fun k => k = w.heap.size) v v') : Below w.heap.size w v' :=
  h.below.trans (ho.below (by rw [h.size]; omega) (fun k e => by omega))
theorem Two.eq {w v : World} {s s' : List Int} (h : Two w v s) (e : s = s') : Two w v s' := e ▸ h
theorem Two.byte {w v : World} {s : List Int} (h : Two w v s) {x : Int} (hx : 0 ≤ x ∧ x < 256) (i : Nat) (hi : i < 32) : Two w (v.setCell ⟨w.heap.size + 1, i, none⟩ (.int .u8 x)) (put s i [x]) := by
  have hb := bx_set h.sec i x (by rw [h.sct.1]; exact hi)
  have e : s.set i x = put s i [x] := by
    unfold put
    rw [List.set_eq_take_append_cons_drop, if_pos (by rw [h.sct.1]; exact hi)]
    simp
  rw [e] at hb
  have ho : Out (fun k => k = w.heap.size + 1) v (v.setCell ⟨w.heap.size + 1, i, none⟩ (.int .u8 x)) := (Out.refl _ v).setCell _ _ rfl
  exact ⟨hb, by rw [ho.block _ (by rw [h.size]; omega) (by simp)]; exact h.res, by simp [World.setCell]; exact h.size, h.below.trans (ho.below (by rw [h.size]; omega) (fun k e => by omega)),
    ⟨by rw [put_len (by rw [h.sct.1]; simp; omega)]; exact h.sct.1, put_bytes h.sct.2 (Jo.bytes_cons hx (fun _ h => by cases h))⟩⟩
theorem head_put (t : Int) : put (put (markS 72) 1 (Fr.le4 t)) 5 (Fr.le4 (M.foldF ((put (markS 72) 1 (Fr.le4 t)).take 5))) = Jo.headS t := by
  have e : put (markS 72) 1 (Fr.le4 t) = Jo.pad (72 :: Fr.le4 t) := rfl
  have e2 : (Jo.pad (72 :: Fr.le4 t)).take 5 = 72 :: Fr.le4 t := rfl
  rw [e, e2]; unfold Jo.headS Jo.sealed; generalize M.foldF (72 :: Fr.le4 t) = f; rfl
theorem last_put (t n : Int) : put (put (put (markS 67) 1 (Fr.le4 t)) 5 (Fr.le4 n)) 9 (Fr.le4 (M.foldF ((put (put (markS 67) 1 (Fr.le4 t)) 5 (Fr.le4 n)).take 9))) = Jo.lastS t n := by
  have e : put (put (markS 67) 1 (Fr.le4 t)) 5 (Fr.le4 n) = Jo.pad (67 :: (Fr.le4 t ++ Fr.le4 n)) := rfl
  have e2 : (Jo.pad (67 :: (Fr.le4 t ++ Fr.le4 n))).take 9 = 67 :: (Fr.le4 t ++ Fr.le4 n) := rfl
  rw [e, e2]; unfold Jo.lastS Jo.sealed; generalize M.foldF (67 :: (Fr.le4 t ++ Fr.le4 n)) = f; rfl
theorem first_put (t n k l : Int) : put (put (put (put (put (markS 71) 1 (Fr.le4 t)) 5 (Fr.le4 n)) 9 [k]) 10 (Fr.le4 l)) 14 (Fr.le4 (M.foldF ((put (put (put (put (markS 71) 1 (Fr.le4 t)) 5 (Fr.le4 n)) 9 [k]) 10 (Fr.le4 l)).take 14))) = Jo.firstS t n k l := by
  have e : put (put (put (put (markS 71) 1 (Fr.le4 t)) 5 (Fr.le4 n)) 9 [k]) 10 (Fr.le4 l) = Jo.pad (71 :: (Fr.le4 t ++ Fr.le4 n ++ k :: Fr.le4 l)) := rfl
  have e2 : (Jo.pad (71 :: (Fr.le4 t ++ Fr.le4 n ++ k :: Fr.le4 l))).take 14 = 71 :: (Fr.le4 t ++ Fr.le4 n ++ k :: Fr.le4 l) := rfl
  rw [e, e2]; unfold Jo.firstS Jo.sealed; generalize M.foldF (71 :: (Fr.le4 t ++ Fr.le4 n ++ k :: Fr.le4 l)) = f; rfl
set_option maxRecDepth 100000 in
set_option maxHeartbeats 1000000 in
theorem headSector_c (t : Int) (w : World) (ht : 0 ≤ t ∧ t < 4294967296) :
    Calls Try.prog 59 #[.int .u32 t] w fun e w' => e = .returned (secV (Jo.headS t)) ∧ Below w.heap.size w w' := by
  have zz := zlit
  have zn : ¬ zsec = [] := by decide
  have hS := (Jo.head_sct t).1
  have T0 := two_new w (markS 72) (mark_sct (by omega))
  go_enter Try.func59, Try.ntmps59
  go_wp2_with (first
    | (go_at_call 78; refine (seal_c (w.heap.size + 1) 5 _ _ _ T1.sec T1.sct.1 T1.sct.2 (by omega)).mono ?_; rintro e w2 ⟨rfl, hb, ho, hz⟩; (have T2 := (T1.next (by omega) hb ho hz).eq (head_put t)); (have b2 := T2.sec); (have r2 := T2.res); clear hb ho hz)
    | (go_at_call 77; refine (putNumber_c (w.heap.size + 1) 1 4 _ _ t _ T0.sec (by have := T0.sct.1; omega) ht.1 ht.2).mono ?_; rintro e w1 ⟨rfl, hb, ho, hz⟩; (have T1 := T0.next (by omega) hb ho hz); clear hb ho hz)
    | (go_at_call 73; refine (field_c (w.heap.size + 1) 1 _ (by omega)).mono ?_; rintro e w0 ⟨rfl, rfl⟩)
    | (refine wpList_storeS _ rfl _ _ _ rfl sizeS _ rfl (by simp) (markS 72) rfl (by rfl) _ (by simp; decide) ?_)
    | (refine wpList_loadS _ rfl _ _ rfl sizeS Try.underlying34 _ rfl (Jo.headS t) hS _ _ b2 ?_)
    | (refine wpList_storeA _ rfl _ _ _ rfl sizeS _ rfl (Jo.headS t) rfl hS _ _ r2 (by simp; decide) ?_; intro w4 k1 k2 k3))
  exact bodyPost_ret (v := secV (Jo.headS t)) (res_sec1 rfl _ _ sizeS Try.underlying34 w.heap.size rfl _ hS _ _ k1) rfl ⟨rfl, T2.last k2⟩
set_option maxRecDepth 100000 in
set_option maxHeartbeats 1000000 in
theorem lastSector_c (t n : Int) (w : World) (ht : 0 ≤ t ∧ t < 4294967296) (hn : 0 ≤ n ∧ n < 4294967296) :
    Calls Try.prog 71 #[.int .u32 t, .int .u32 n] w fun e w' => e = .returned (secV (Jo.lastS t n)) ∧ Below w.heap.size w w' := by
  have zz := zlit
  have zn : ¬ zsec = [] := by decide
  have hS := (Jo.last_sct t n).1
  have T0 := two_new w (markS 67) (mark_sct (by omega))
  go_enter Try.func71, Try.ntmps71
  go_wp2_with (first
    | (go_at_call 78; refine (seal_c (w.heap.size + 1) 9 _ _ _ T2.sec T2.sct.1 T2.sct.2 (by omega)).mono ?_; rintro e w3 ⟨rfl, hb, ho, hz⟩; (have T3 := (T2.next (by omega) hb ho hz).eq (last_put t n)); (have b2 := T3.sec); (have r2 := T3.res); clear hb ho hz)
    | (go_at_call 77; refine (putNumber_c (w.heap.size + 1) 5 4 _ _ n _ T1.sec (by have := T1.sct.1; omega) hn.1 hn.2).mono ?_; rintro e w2 ⟨rfl, hb, ho, hz⟩; (have T2 := T1.next (by omega) hb ho hz); clear hb ho hz)
    | (have _q := T1.size; clear _q; go_at_call 73; refine (field_c (w.heap.size + 1) 5 _ (by omega)).mono ?_; rintro e w0 ⟨rfl, rfl⟩)
    | (go_at_call 77; refine (putNumber_c (w.heap.size + 1) 1 4 _ _ t _ T0.sec (by have := T0.sct.1; omega) ht.1 ht.2).mono ?_; rintro e w1 ⟨rfl, hb, ho, hz⟩; (have T1 := T0.next (by omega) hb ho hz); clear hb ho hz)
    | (go_at_call 73; refine (field_c (w.heap.size + 1) 1 _ (by omega)).mono ?_; rintro e w0 ⟨rfl, rfl⟩)
    | (refine wpList_storeS _ rfl _ _ _ rfl sizeS _ rfl (by simp) (markS 67) rfl (by rfl) _ (by simp; decide) ?_)
    | (refine wpList_loadS _ rfl _ _ rfl sizeS Try.underlying34 _ rfl (Jo.lastS t n) hS _ _ b2 ?_)
    | (refine wpList_storeA _ rfl _ _ _ rfl sizeS _ rfl (Jo.lastS t n) rfl hS _ _ r2 (by simp; decide) ?_; intro w4 k1 k2 k3))
  exact bodyPost_ret (v := secV (Jo.lastS t n)) (res_sec1 rfl _ _ sizeS Try.underlying34 w.heap.size rfl _ hS _ _ k1) rfl ⟨rfl, T3.last k2⟩
set_option maxRecDepth 100000 in
set_option maxHeartbeats 2000000 in
theorem firstSector_c (t n k l : Int) (w : World) (ht : 0 ≤ t ∧ t < 4294967296) (hn : 0 ≤ n ∧ n < 4294967296) (hk : 0 ≤ k ∧ k < 256) (hl : 0 ≤ l ∧ l < 4294967296) :
    Calls Try.prog 68 #[.int .u32 t, .int .u32 n, .int .u8 k, .int .u32 l] w fun e w' => e = .returned (secV (Jo.firstS t n k l)) ∧ Below w.heap.size w w' := by
  have zz := zlit
  have zn : ¬ zsec = [] := by decide
  have hS := (Jo.first_sct t n hk l).1
  have T0 := two_new w (markS 71) (mark_sct (by omega))
  go_enter Try.func68, Try.ntmps68
  go_wp2_with (first
    | (go_at_call 78; refine (seal_c (w.heap.size + 1) 14 _ _ _ T4.sec T4.sct.1 T4.sct.2 (by omega)).mono ?_; rintro e w5 ⟨rfl, hb, ho, hz⟩; (have T5 := (T4.next (by omega) hb ho hz).eq (first_put t n k l)); (have b2 := T5.sec); (have r2 := T5.res); clear hb ho hz)
    | (go_at_call 77; refine (putNumber_c (w.heap.size + 1) 10 4 _ _ l _ T3.sec (by have := T3.sct.1; omega) hl.1 hl.2).mono ?_; rintro e w4 ⟨rfl, hb, ho, hz⟩; (have T4 := T3.next (by omega) hb ho hz); clear hb ho hz)
    | (have _q := T3.size; clear _q; go_at_call 73; refine (field_c (w.heap.size + 1) 10 _ (by omega)).mono ?_; rintro e w0 ⟨rfl, rfl⟩)
    | (go_at_call 77; refine (putNumber_c (w.heap.size + 1) 5 4 _ _ n _ T1.sec (by have := T1.sct.1; omega) hn.1 hn.2).mono ?_; rintro e w2 ⟨rfl, hb, ho, hz⟩; (have T2 := T1.next (by omega) hb ho hz); (have c9 := bx_cell hb 9 (by have := T2.sct.1; omega)); (have f9 := bx_frozen hb 9); (have T3 := T2.byte hk 9 (by omega)); clear hb ho hz)
    | (have _q := T1.size; clear _q; go_at_call 73; refine (field_c (w.heap.size + 1) 5 _ (by omega)).mono ?_; rintro e w0 ⟨rfl, rfl⟩)
    | (go_at_call 77; refine (putNumber_c (w.heap.size + 1) 1 4 _ _ t _ T0.sec (by have := T0.sct.1; omega) ht.1 ht.2).mono ?_; rintro e w1 ⟨rfl, hb, ho, hz⟩; (have T1 := T0.next (by omega) hb ho hz); clear hb ho hz)
    | (go_at_call 73; refine (field_c (w.heap.size + 1) 1 _ (by omega)).mono ?_; rintro e w0 ⟨rfl, rfl⟩)
    | (refine wpList_storeS _ rfl _ _ _ rfl sizeS _ rfl (by simp) (markS 71) rfl (by rfl) _ (by simp; decide) ?_)
    | (refine wpList_loadS _ rfl _ _ rfl sizeS Try.underlying34 _ rfl (Jo.firstS t n k l) hS _ _ b2 ?_)
    | (refine wpList_storeA _ rfl _ _ _ rfl sizeS _ rfl (Jo.firstS t n k l) rfl hS _ _ r2 (by simp; decide) ?_; intro w7 k1 k2 k3))
  exact bodyPost_ret (v := secV (Jo.firstS t n k l)) (res_sec1 rfl _ _ sizeS Try.underlying34 w.heap.size rfl _ hS _ _ k1) rfl ⟨rfl, T5.last k2⟩
end Go.Proofs.Ytfmkgflhgapeoab
namespace Go.Proofs.Ytfmkgflhgapeoab
open Go.RowKit Go.ChangeShapes Go.WideShapes Go.ChangeAt Go.Maps
set_option linter.unusedVariables false
set_option linter.unusedSimpArgs false
/-- A slice of slices of bytes: the parts of a group. -/
def IsG (w : World) (a : Option Addr) (len : Nat) (g : Jo.Gr) : Prop :=
  g.length = len ∧ len ≤ maxLen ∧ (0 < len → ∃ b off, a = some ⟨b, off, none⟩ ∧ ∀ i, i < len → ∃ pa cap, w.cell? ⟨b, off + i, none⟩ = some (.slice pa (g.getD i []).length cap) ∧ IsB w pa (g.getD i []).length (g.getD i []) ∧ (g.getD i []).length ≤ cap)
theorem IsG.later {w w' : World} {a : Option Addr} {len : Nat} {g : Jo.Gr} (h : IsG w a len g) (hb : Below w.heap.size w w') : IsG w' a len g := by
  obtain ⟨h1, h2, h3⟩ := h
  refine ⟨h1, h2, fun hp => ?_⟩
  obtain ⟨b, off, e, hc⟩ := h3 hp
  refine ⟨b, off, e, fun i hi => ?_⟩
  obtain ⟨pa, cap, c1, c2, c3⟩ := hc i hi
  exact ⟨pa, cap, cell_later hb c1, c2.later hb, c3⟩
theorem IsG.bytes {w : World} {a : Option Addr} {len : Nat} {g : Jo.Gr} (h : IsG w a len g) : ∀ p ∈ g, Jo.Bytes p := by
  intro p hp x hx
  obtain ⟨i, hi, rfl⟩ := List.getElem_of_mem hp
  obtain ⟨h1, h2, h3⟩ := h
  obtain ⟨b, off, e, hc⟩ := h3 (by omega)
  obtain ⟨pa, cap, c1, c2, c3⟩ := hc i (by omega)
  obtain ⟨j, hj, rfl⟩ := List.getElem_of_mem hx
  have := c2.2.2.2 j
  simp [List.getD, hi, hj] at this
  omega
theorem need_len {g : Jo.Gr} (h : g.length < 1 ∨ 8 < g.length) : Jo.needF g = 0 := by
  unfold Jo.needF; rw [if_neg (fun e => by have := Jo.ok_iff.1 e; omega)]
theorem need_big {g : Jo.Gr} (k : Nat) (hk : k < g.length) (h : 16384 < (g.getD k []).length) : Jo.needF g = 0 := by
  unfold Jo.needF
  rw [if_neg fun e => ?_]
  have := (Jo.ok_iff.1 e).2.2 g[k] (List.getElem_mem hk)
  simp [List.getD, hk] at h
  omega
theorem need_all {g : Jo.Gr} (h1 : 1 ≤ g.length) (h2 : g.length ≤ 8) (h : ∀ k, k < g.length → (g.getD k []).length ≤ 16384) : Jo.needF g = Jo.secsOf (Jo.loadF g).length := by
  refine Jo.need_ok (Jo.ok_iff.2 ⟨h1, h2, fun p hp => ?_⟩)
  obtain ⟨i, hi, rfl⟩ := List.getElem_of_mem hp
  have := h i hi
  simpa [List.getD, hi] using this
theorem load_len_take {g : Jo.Gr} {k : Nat} (h : k < g.length) : (Jo.loadF (g.take (k + 1))).length = (Jo.loadF (g.take k)).length + (4 + (g.getD k []).length) := by
  rw [Jo.load_take h]; simp [Jo.le4_len]
theorem load_take_le {g : Jo.Gr} {k : Nat} (hk : k ≤ g.length) (h8 : g.length ≤ 8) (h : ∀ j, j < k → (g.getD j []).length ≤ 16384) : (Jo.loadF (g.take k)).length ≤ 131104 := by
  have h1 := Jo.load_le (g := g.take k) (m := 16384) fun p hp => by
    obtain ⟨i, hi, rfl⟩ := List.getElem_of_mem hp
    have h2 := h i (by simp at hi; omega)
    have hi2 : i < g.length := by simp at hi; omega
    simpa [List.getD, hi2] using h2
  have h3 : (g.take k).length * (4 + 16384) ≤ 8 * (4 + 16384) := Nat.mul_le_mul_right _ (by simp; omega)
  omega
set_option maxHeartbeats 400000 in
theorem sectorsOf_c (n : Nat) (w : World) (h : n ≤ 1000000) : Calls Try.prog 41 #[.int .i64 n] w fun e w' => e = .returned (.int .i64 (Jo.secsOf n : Nat)) ∧ w' = w := by
  have E : Hid (((Jo.secsOf n : Nat) : Int) = 2 + ((n : Int) + 31 - 1) / 31) := by unfold Jo.secsOf Jo.many; show _ = _; omega
  go_enter Try.func41, Try.ntmps41
  go_wp2
  go_ret
  exact ⟨ret_int E.out.symm, rfl⟩
set_option maxHeartbeats 1000000 in
theorem needs_c (a : Option Addr) (len cap : Nat) (g : Jo.Gr) (w : World) (h : IsG w a len g) :
    Calls Try.prog 21 #[.slice a len cap] w fun e w' => e = .returned (.int .i64 (Jo.needF g : Nat)) ∧ w' = w := by
  obtain ⟨h1, h2, h3⟩ := h
  unfold maxLen at h2
  by_cases hs : len < 1
  · have E := hid (need_len (g := g) (by omega))
    go_enter Try.func21, Try.ntmps21
    go_wp2
    go_ret
    exact ⟨ret_int (by rw [E.out]; rfl), rfl⟩
  by_cases hg : 8 < len
  · have E := hid (need_len (g := g) (by omega))
    have hg' : (8 : Int) < len := by omega
    clear h3
    go_enter Try.func21, Try.ntmps21
    go_wp2
    go_ret
    exact ⟨ret_int (by rw [E.out]; rfl), rfl⟩
  obtain ⟨b, off, rfl, hc⟩ := h3 (by omega)
  have hs' : ¬ (len : Int) < 1 := by omega
  have hg' : ¬ (8 : Int) < len := by omega
  have HC := hid hc
  have HL := hid h1
  clear hc h3 h1
  go_enter Try.func21, Try.ntmps21
  go_wp2
  go_loop [3, 16] (fun n i => ∃ k : Nat, k ≤ len ∧ i = .int .i64 k ∧ n = .int .i64 ((Jo.loadF (g.take k)).length : Nat) ∧ ∀ j, j < k → (g.getD j []).length ≤ 16384) (fun _ i => len - (intOf i).toNat)
  case atStart => exact ⟨0, Nat.zero_le _, rfl, by simp [Jo.loadF], fun j hj => by omega⟩
  case round =>
    obtain ⟨k, hk, rfl, rfl, hall⟩ := hrel
    have hle := load_take_le (g := g) (k := k) (by rw [HL.out]; exact hk) (by rw [HL.out]; omega) hall
    by_cases hlt : k < len
    · obtain ⟨pa, pc, c1, c2, c3⟩ := HC.out k hlt
      have hpl := c2.2.1
      unfold maxLen at hpl
      have HT := hid (load_len_take (g := g) (k := k) (by rw [HL.out]; exact hlt))
      by_cases hbig : 16384 < (g.getD k []).length
      · have E := hid (need_big (g := g) k (by rw [HL.out]; exact hlt) hbig)
        generalize (g.getD k []).length = pl at *
        go_wp2
        go_ret
        exact ⟨ret_int (by rw [E.out]; rfl), rfl⟩
      · have HA := hid hall
        have HB := hid hbig
        clear hall
        generalize (Jo.loadF (g.take k)).length = q at *
        have hbig' : ¬ (16384 : Int) < ((g.getD k []).length : Nat) := by omega
        go_wp2
        go_round
        case rel => exact ⟨k + 1, by omega, by go_num, by rw [HT.out]; go_num, fun j hj => by
          by_cases e : j = k
          · subst e; exact Nat.le_of_not_lt HB.out
          · exact HA.out j (by omega)⟩
        case measure => simp [intOf]; omega
    · have ek : k = len := by omega
      subst ek
      have hne := need_all (g := g) (by rw [HL.out]; omega) (by rw [HL.out]; omega) (fun j hj => hall j (by rw [HL.out] at hj; exact hj))
      have ht : g.take k = g := List.take_of_length_le (by rw [HL.out]; exact Nat.le_refl _)
      rw [ht] at hle ⊢
      have E := hid hne
      clear hne ht hall
      go_wp2_with ((go_at_call 41; refine (sectorsOf_c _ _ (by omega)).mono ?_; rintro e w' ⟨rfl, rfl⟩))
      go_ret
      exact ⟨ret_int (by rw [E.out]), rfl⟩
end Go.Proofs.Ytfmkgflhgapeoab
namespace Go.Proofs.Ytfmkgflhgapeoab
open Go.RowKit Go.ChangeShapes Go.WideShapes Go.ChangeAt Go.Maps
set_option linter.unusedVariables false
set_option linter.unusedSimpArgs false
theorem addr_add (b off j : Nat) : (⟨b, off, none⟩ : Addr).add j = ⟨b, off + j, none⟩ := by unfold Addr.add; split <;> simp_all
theorem isB_news {w : World} {b off len : Nat} {zs : List Int} (h : IsB w (some ⟨b, off, none⟩) len zs) : ∀ j u, (zs.map by8)[j]? = some u → w.cell? ((⟨b, off, none⟩ : Addr).add j) = some u := by
  intro j u hu
  obtain ⟨h1, h2, h3, h4⟩ := h
  rw [List.getElem?_map] at hu
  by_cases hj : j < zs.length
  · obtain ⟨b', off', e, hc⟩ := h3 (by omega)
    cases e
    rw [List.getElem?_eq_getElem hj] at hu
    simp at hu
    rw [addr_add, hc j (by omega), ← hu]
    simp [List.getD, hj, by8]
  · rw [List.getElem?_eq_none (by omega)] at hu; cases hu
theorem one8 (zs : List Int) : ∀ u ∈ zs.map by8, u.oneCell' = true := fun u hu => by obtain ⟨x, _, rfl⟩ := List.mem_map.1 hu; rfl
theorem grown_refl (w : World) (r : Option Nat) : w.grownBy w r := ⟨rfl, rfl, rfl, Nat.le_refl _, fun _ _ _ => rfl⟩
/-- 'append(s, x...)' of bytes that may be none. -/
theorem wpList_appendB (w : World) {ops : Array Oper} {rest : List Oper} {o : Oper} {a : Act} {Q : Exit → Act → World → Prop} (hgd : o.guard = none) (s x : Operand)
    (ho : o.op = .call { callee := .builtin .append, args := #[s, x], argTypes := #[31, 31] }) (base : Nat) (v : Value) (n : Nat) (xs : List Value) (hs : a.eval s = v) (hown : w.ownsRow base 5 1 v n xs)
    (pa : Option Addr) (m c : Nat) (zs : List Int) (hx : a.eval x = .slice pa m c) (hb : IsB w pa m zs) (hc : pa = none → c = 0) (h63 : n + m ≤ 1000000) (hbase : base ≤ w.heap.size)
    (h : ∀ v' w', w'.ownsRow base 5 1 v' (n + m) (xs ++ zs.map by8) → w.grownBy w' v.ownBlock → wpList Try.prog ops Q rest (a.put o.dst v') w') : wpList Try.prog ops Q (o :: rest) a w := by
  obtain ⟨i0, hi, hz0, hz1, hz2⟩ := info_parts8
  cases pa with
  | none =>
    have hm : m = 0 := by
      rcases Nat.eq_zero_or_pos m with h0 | h0
      · exact h0
      · obtain ⟨b, off, e, _⟩ := hb.2.2.1 h0; cases e
    subst hm
    have hz : zs = [] := List.eq_nil_of_length_eq_zero hb.1
    subst hz
    have hc0 := hc rfl
    subst hc0
    refine wpList_append_own_none hgd s x 31 ho base 5 i0 1 Try.underlying31 hi v n xs hs hown hx ?_
    exact h v w (by simpa using hown) (grown_refl _ _)
  | some ad =>
    by_cases hm : m = 0
    · subst hm
      have hz : zs = [] := List.eq_nil_of_length_eq_zero hb.1
      subst hz
      refine wpList_append_own w hgd s x 31 ho base 5 i0 (.int .u8 0) 1 1 Try.underlying31 hi hz0 hz1 hz2 rfl (by decide) v n xs hs hown ad 0 c [] hx rfl (fun j u hu => by simp at hu) (fun u hu => by cases hu) (by unfold maxLen; omega) (by omega) hbase ?_
      intro v' w' h1 h2 h3
      exact h v' w' (by simpa using h1) h2
    · obtain ⟨b, off, e, _⟩ := hb.2.2.1 (by omega)
      cases e
      refine wpList_append_own w hgd s x 31 ho base 5 i0 (.int .u8 0) 1 1 Try.underlying31 hi hz0 hz1 hz2 rfl (by decide) v n xs hs hown ⟨b, off, none⟩ m c (zs.map by8) hx (by simp [hb.1]) (isB_news hb) (one8 zs) (by unfold maxLen; omega) (by omega) hbase ?_
      intro v' w' h1 h2 h3
      exact h v' w' h1 h2
/-- What is read of a row of bytes that was made here. -/
theorem own_isB {w : World} {base : Nat} {v : Value} {zs : List Int} (h : w.ownsRow base 5 1 v zs.length (zs.map by8)) (hb : Jo.Bytes zs) : ∃ a cap, v = .slice a zs.length cap ∧ IsB w a zs.length zs ∧ zs.length ≤ cap ∧ (a = none → cap = 0) ∧ (∀ q, a = some q → base ≤ q.block ∧ q.block < w.heap.size) := by
  have hbd : ∀ i, 0 ≤ zs.getD i 0 ∧ zs.getD i 0 ≤ 255 := fun i => by have := Jo.bytes_getD hb i; omega
  have hlt := h.lt
  rcases h with ⟨hl, ⟨rfl, hn⟩ | ⟨g, cap, cur, rfl, hg, hbk, hnc, hcm, hcs, ht⟩⟩
  · exact ⟨none, 0, by rw [hn], ⟨rfl, by unfold maxLen; omega, (fun hp => by omega), hbd⟩, by omega, (fun _ => rfl), (fun q e => by cases e)⟩
  · refine ⟨some ⟨g, 0, none⟩, cap, rfl, ⟨rfl, by omega, fun hp => ⟨g, 0, rfl, fun i hi => ?_⟩, hbd⟩, hnc, (fun e => by cases e), (fun q e => by cases e; exact hlt g rfl)⟩
    rw [cell_of_row w g _ cur 5 (0, 0) hbk]
    have e1 : (cur.toList.take (zs.length * 1))[i]? = (zs.map by8)[i]? := by rw [ht]
    rw [List.getElem?_take, if_pos (by omega)] at e1
    simp only [Nat.zero_add]
    rw [← Array.getElem?_toList, e1]
    simp [hi, by8, List.getD]
/-- The parts of a group, with what is known of those that are none. -/
def IsG0 (w : World) (a : Option Addr) (len : Nat) (g : Jo.Gr) : Prop :=
  g.length = len ∧ len ≤ maxLen ∧ (0 < len → ∃ b off, a = some ⟨b, off, none⟩ ∧ ∀ i, i < len → ∃ pa cap, w.cell? ⟨b, off + i, none⟩ = some (.slice pa (g.getD i []).length cap) ∧ IsB w pa (g.getD i []).length (g.getD i []) ∧ (g.getD i []).length ≤ cap ∧ (pa = none → cap = 0))
theorem IsG0.isG {w : World} {a : Option Addr} {len : Nat} {g : Jo.Gr} (h : IsG0 w a len g) : IsG w a len g := by
  obtain ⟨h1, h2, h3⟩ := h
  refine ⟨h1, h2, fun hp => ?_⟩
  obtain ⟨b, off, e, hc⟩ := h3 hp
  refine ⟨b, off, e, fun i hi => ?_⟩
  obtain ⟨pa, cap, c1, c2, c3, _⟩ := hc i hi
  exact ⟨pa, cap, c1, c2, c3⟩
theorem IsG0.later {w w' : World} {a : Option Addr} {len : Nat} {g : Jo.Gr} (h : IsG0 w a len g) (hb : Below w.heap.size w w') : IsG0 w' a len g := by
  obtain ⟨h1, h2, h3⟩ := h
  refine ⟨h1, h2, fun hp => ?_⟩
  obtain ⟨b, off, e, hc⟩ := h3 hp
  refine ⟨b, off, e, fun i hi => ?_⟩
  obtain ⟨pa, cap, c1, c2, c3, c4⟩ := hc i hi
  exact ⟨pa, cap, cell_later hb c1, c2.later hb, c3, c4⟩
theorem zero4 : (#[.int .u8 0, .int .u8 0, .int .u8 0, .int .u8 0] : Array Value) = (([0, 0, 0, 0] : List Int).map by8).toArray := rfl
theorem below_grown {B : Nat} {a w w' : World} {base : Nat} {e size n : Nat} {v : Value} {xs : List Value} (h : Below B a w) (hown : w.ownsRow base e size v n xs) (hB : B ≤ base) (hBw : B ≤ w.heap.size) (hg : w.grownBy w' v.ownBlock) : Below B a w' :=
  Below.grown h hg hBw (fun k hk => by have := (hown.lt k hk).1; omega)
theorem own_keep {S : Nat → Prop} {w w' : World} {base : Nat} {e : TypeId} {size : Nat} {v : Value} {n : Nat} {xs : List Value} (h : w.ownsRow base e size v n xs) (ho : Out S w w') (hS : ∀ k, v.ownBlock = some k → ¬ S k) : w'.ownsRow base e size v n xs := by
  refine ⟨h.1, ?_⟩
  rcases h.2 with h | ⟨g, cap, cur, e1, e2, e3, e4⟩
  · exact .inl h
  · exact .inr ⟨g, cap, cur, e1, e2, by rw [ho.block g (lt_blk e3) (hS g (by rw [e1]; rfl))]; exact e3, e4⟩
theorem own_shape6 {w : World} {base e size n : Nat} {v : Value} {xs : List Value} (h : w.ownsRow base e size v n xs) : ∃ a cap, v = .slice a n cap := by
  rcases h.2 with ⟨hv, hn⟩ | ⟨g, cap, cur, hv, _⟩
  · exact ⟨_, _, by rw [hv, hn]⟩
  · exact ⟨_, _, hv⟩
theorem isB_put4 {w : World} {g : Nat} {T : TypeId} {n : Int} (h : Bx w g T (put [0, 0, 0, 0] 0 (Fr.le4 n))) : IsB w (some ⟨g, 0, none⟩) 4 (Fr.le4 n) :=
  bx_isB (s := Fr.le4 n) h (Jo.bytes_le4 _) 0 4 (by rw [Jo.le4_len]; omega) (by decide)
theorem out_new {a w' : World} {o : Obj} (h : Out (fun k => k = a.heap.size) (a.alloc o) w') : Out (fun k => a.heap.size ≤ k) a w' :=
  (Out.of ((Below.refl _ _).alloc (Nat.le_refl _) o)).trans (h.mono (fun k e => by omega))
theorem out_below {a w' : World} (h : Out (fun k => a.heap.size ≤ k) a w') : Below a.heap.size a w' := h.below (Nat.le_refl _) (fun k e => e)
set_option maxRecDepth 20000 in
set_option maxHeartbeats 2000000 in
theorem loadOf_c (a : Option Addr) (len cap : Nat) (g : Jo.Gr) (w : World) (h : IsG0 w a len g) (hok : g.length ≤ 8) (hsm : ∀ j, j < g.length → (g.getD j []).length ≤ 16384) :
    Calls Try.prog 67 #[.slice a len cap] w fun e w' => ∃ v, e = .returned v ∧ w'.ownsRow w.heap.size 5 1 v (Jo.loadF g).length ((Jo.loadF g).map by8) ∧ Below w.heap.size w w' := by
  have H := hid h
  obtain ⟨h1, h2, h3⟩ := h
  unfold maxLen at h2
  have HL := hid h1
  have H3 := hid h3
  have HS := hid hsm
  have HO := hid hok
  clear h3 h1 hsm hok
  have zf := zero4
  go_enter Try.func67, Try.ntmps67
  go_wp2
  go_loopw [3, 9] (fun v i wr => ∃ k : Nat, k ≤ len ∧ i = .int .i64 k ∧ wr.ownsRow w.heap.size 5 1 v (Jo.loadF (g.take k)).length ((Jo.loadF (g.take k)).map by8) ∧ Below w.heap.size w wr) (fun _ i _ => len - (intOf i).toNat)
  case atStart => exact ⟨0, Nat.zero_le _, rfl, by simpa [Jo.loadF] using World.ownsRow_nil w w.heap.size 5 1, Below.refl _ _⟩
  case round =>
    obtain ⟨k, hk, rfl, hown, hB⟩ := hrel
    have hBz := hB.size
    by_cases hlt : k < len
    · obtain ⟨b, off, rfl, hc⟩ := H3.out (by omega)
      obtain ⟨pa, pc, c1, c2, c3, c4⟩ := hc k hlt
      have c1' := cell_later hB c1
      have hpl := HS.out k (by rw [HL.out]; exact hlt)
      have hle := load_take_le (g := g) (k := k) (by rw [HL.out]; exact hk) HO.out (fun j hj => HS.out j (by rw [HL.out]; omega))
      have C2 := hid c2
      have C4 := hid c4
      have HT := hid (Jo.load_take (g := g) (k := k) (by rw [HL.out]; exact hlt))
      have HO1 := hid hown
      have HB1 := hid hB
      clear hc c1 c2 c4 hB
      generalize hp : g.getD k [] = p at *
      clear hp
      have hx1 : Bx (wr.alloc (.cells (([0, 0, 0, 0] : List Int).map by8).toArray 139)) wr.heap.size 139 [0, 0, 0, 0] := heap_alloc_new wr _
      have hB1 : Below wr.heap.size wr (wr.alloc (.cells (([0, 0, 0, 0] : List Int).map by8).toArray 139)) := (Below.refl _ _).alloc (Nat.le_refl _) _
      go_wp2_with (first
        | (at_builtin; refine wpList_appendB _ rfl _ _ rfl w.heap.size _ _ _ rfl hown5 pa p.length pc p rfl (C2.out.later (HB1.out.trans B5)) C4.out (by omega) (by have := B5.size; omega) ?_; intro v6 w6 hown6 hgrow6)
        | (at_builtin; refine wpList_appendB _ rfl _ _ rfl w.heap.size _ _ _ rfl hown1 (some ⟨wr.heap.size, 0, none⟩) 4 4 (Fr.le4 p.length) rfl (isB_put4 hb1) (fun e => by cases e) (by omega) (by have := O1.size; omega) ?_; intro v5 w5 hown5 hgrow5; (have B5 : Below w.heap.size wr w5 := below_grown ((out_below O1).mono hBz) hown1 (Nat.le_refl _) (by have := O1.size; omega) hgrow5))
        | (go_at_call 77; refine (putNumber_c wr.heap.size 0 4 139 [0, 0, 0, 0] _ _ (by exact hx1) (by decide) (by omega) (by omega)).mono ?_; rintro e w1 ⟨rfl, hb1, ho1, hz1⟩; (have O1 := out_new ho1); (have hown1 := own_keep HO1.out O1 (fun k hk h => by have := (HO1.out.lt k hk).2; omega))))
      have B6 : Below w.heap.size w w6 := below_grown (HB1.out.trans B5) hown5 (Nat.le_refl _) (by have := B5.size; omega) hgrow6
      obtain ⟨a6, c6, rfl⟩ := own_shape6 hown6
      go_roundw
      case rel => exact ⟨k + 1, by omega, by go_num, by rw [HT.out]; simpa [Jo.le4_len, Nat.add_assoc] using hown6, B6⟩
      case measure => simp [intOf]; omega
    · have ek : k = len := by omega
      have ht : g.take k = g := List.take_of_length_le (by rw [HL.out]; omega)
      rw [ht] at hown
      have HO1 := hid hown
      obtain ⟨a6, c6, rfl⟩ := own_shape6 hown
      clear hown ht
      go_wp2
      go_ret
      exact ⟨_, rfl, HO1.out, hB⟩
end Go.Proofs.Ytfmkgflhgapeoab
