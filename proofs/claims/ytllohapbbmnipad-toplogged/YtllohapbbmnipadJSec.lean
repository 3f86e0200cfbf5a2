/-
  What the functions of the package journal return that write numbers into sectors and read them: one contract a function.
-/
import Derived.Test.YtllohapbbmnipadDEnds
import Derived.Test.YtllohapbbmnipadFCalls
import Derived.Test.YtllohapbbmnipadJMath
namespace Go.Proofs.Ytllohapbbmnipad
open Go.RowKit Go.ChangeShapes Go.WideShapes Go.ChangeAt Go.Maps
set_option linter.unusedVariables false
set_option linter.unusedSimpArgs false
/-- Block g holds the bytes s. -/
abbrev Bx (w : World) (g : Nat) (T : TypeId) (s : List Int) : Prop := w.heap[g]? = some (.cells (s.map by8).toArray T (0, 0))
/-- s with l from the place i on. -/
def put (s : List Int) (i : Nat) (l : List Int) : List Int := s.take i ++ l ++ s.drop (i + l.length)
theorem put_len {s l : List Int} {i : Nat} (h : i + l.length ≤ s.length) : (put s i l).length = s.length := by unfold put; simp; omega
theorem put_bytes {s l : List Int} {i : Nat} (hs : Jo.Bytes s) (hl : Jo.Bytes l) : Jo.Bytes (put s i l) := by
  unfold put; exact Jo.bytes_app (Jo.bytes_app (Jo.bytes_take hs _) hl) (Jo.bytes_drop hs _)
theorem bx_cell {w : World} {g : Nat} {T : TypeId} {s : List Int} (h : Bx w g T s) (i : Nat) (hi : i < s.length) : w.cell? ⟨g, i, none⟩ = some (.int .u8 (s.getD i 0)) := by
  rw [cell_of_row w g i _ T (0, 0) h]; simp [hi, by8, List.getD]
theorem bx_frozen {w : World} {g : Nat} {T : TypeId} {s : List Int} (h : Bx w g T s) (i : Nat) : w.frozen? ⟨g, i, none⟩ = false := by simp [World.frozen?, h]
theorem bx_lt {w : World} {g : Nat} {T : TypeId} {s : List Int} (h : Bx w g T s) : g < w.heap.size := lt_blk h
theorem bx_set {w : World} {g : Nat} {T : TypeId} {s : List Int} (h : Bx w g T s) (i : Nat) (x : Int) (hi : i < s.length) : Bx (w.setCell ⟨g, i, none⟩ (.int .u8 x)) g T (s.set i x) := by
  unfold Bx
  rw [heap_setCell_same w g i _ T _ h]
  simp [by8]
theorem bx_out {S : Nat → Prop} {w w' : World} {g : Nat} {T : TypeId} {s : List Int} (h : Bx w g T s) (ho : Out S w w') (hS : ¬ S g) : Bx w' g T s := by
  unfold Bx; rw [ho.block g (bx_lt h) hS]; exact h
theorem Out.setCell {S : Nat → Prop} {a w : World} (h : Out S a w) (p : Addr) (v : Value) (hS : S p.block) : Out S a (w.setCell p v) := by
  refine ⟨h.os, h.tape, h.output, by simp [World.setCell]; exact h.size, fun k hk hn => ?_⟩
  rw [heap_setCell_other _ _ _ _ (fun e => hn (by rw [e]; exact hS))]
  exact h.block k hk hn
theorem put4 {s : List Int} {i : Nat} {a b c d : Int} (h : i + 4 ≤ s.length) : (((s.set i a).set (i + 1) b).set (i + 2) c).set (i + 3) d = put s i [a, b, c, d] := by
  apply List.ext_getElem?
  intro k
  unfold put
  simp only [List.getElem?_set, List.length_set, List.append_assoc]
  by_cases h1 : k < i
  · rw [if_neg (by omega), if_neg (by omega), if_neg (by omega), if_neg (by omega), List.getElem?_append_left (by simp; omega), List.getElem?_take, if_pos h1]
  · rw [List.getElem?_append_right (by simp; omega)]
    simp only [List.length_take]
    rw [Nat.min_eq_left (by omega)]
    by_cases h2 : k < i + 4
    · obtain ⟨j, rfl⟩ : ∃ j, k = i + j := ⟨k - i, by omega⟩
      have hj : j = 0 ∨ j = 1 ∨ j = 2 ∨ j = 3 := by omega
      rcases hj with rfl | rfl | rfl | rfl
      · rw [if_neg (by omega), if_neg (by omega), if_neg (by omega), if_pos (by omega), if_pos (by omega)]; simp
      · rw [if_neg (by omega), if_neg (by omega), if_pos (by omega), if_pos (by omega)]; simp
      · rw [if_neg (by omega), if_pos (by omega), if_pos (by omega)]; simp
      · rw [if_pos (by omega), if_pos (by omega)]; simp
    · rw [if_neg (by omega), if_neg (by omega), if_neg (by omega), if_neg (by omega), List.getElem?_append_right (by simp; omega), List.getElem?_drop]
      congr 1
      simp; omega
set_option maxHeartbeats 1000000 in
theorem putNumber_c (g off cap : Nat) (T : TypeId) (s : List Int) (n : Int) (w : World) (h : Bx w g T s) (hoff : off + 4 ≤ s.length) (h0 : 0 ≤ n) (h1 : n < 4294967296) :
    Calls Try.prog 75 #[.slice (some ⟨g, off, none⟩) 4 cap, .int .u32 n] w fun e w' => e = .returned (.tuple #[]) ∧ Bx w' g T (put s off (Fr.le4 n)) ∧ Out (fun k => k = g) w w' ∧ w'.heap.size = w.heap.size := by
  have k0 : IntKind.i64.wrap 0 = 0 := by decide
  have k1 : IntKind.i64.wrap 8 = 8 := by decide
  have k2 : IntKind.i64.wrap 16 = 16 := by decide
  have k3 : IntKind.i64.wrap 24 = 24 := by decide
  have c0 := bx_cell h off (by omega)
  have c1 := bx_cell h (off + 1) (by omega)
  have c2 := bx_cell h (off + 2) (by omega)
  have c3 := bx_cell h (off + 3) (by omega)
  have f0 := bx_frozen h off
  have f1 := bx_frozen h (off + 1)
  have f2 := bx_frozen h (off + 2)
  have f3 := bx_frozen h (off + 3)
  have H := hid h
  clear h
  go_enter Try.func75, Try.ntmps75
  go_wp2
  refine wp_loop_rounds 5 ?_
  rw [rounds_succ]
  go_wp2
  rw [rounds_succ]
  go_wp2
  rw [rounds_succ]
  go_wp2
  rw [rounds_succ]
  go_wp2
  rw [rounds_succ]
  go_wp2
  refine body_end (by kernel_rfl) rfl ⟨rfl, ?_, ?_, by simp [World.setCell]⟩
  · have e := bx_set (bx_set (bx_set (bx_set H.out off (n % 256) (by omega)) (off + 1) (n / 256 % 256) (by simp; omega)) (off + 2) (n / 65536 % 256) (by simp; omega)) (off + 3) (n / 16777216) (by simp; omega)
    rw [put4 hoff] at e
    have e4 : Fr.le4 n = [n % 256, n / 256 % 256, n / 65536 % 256, n / 16777216] := by unfold Fr.le4; rw [show n / 16777216 % 256 = n / 16777216 by omega]
    rw [e4]
    simpa [IntKind.wrap_u8'] using e
  · exact ((((Out.refl (fun k => k = g) w).setCell ⟨g, off, none⟩ _ rfl).setCell ⟨g, off + 1, none⟩ _ rfl).setCell ⟨g, off + 2, none⟩ _ rfl).setCell ⟨g, off + 3, none⟩ _ rfl
set_option maxHeartbeats 1000000 in
theorem readNumber_c (a : Option Addr) (cap : Nat) (zs : List Int) (w : World) (hb : IsB w a 4 zs) :
    Calls Try.prog 63 #[.slice a 4 cap] w fun e w' => e = .returned (.int .u32 (Fr.at4 zs 0)) ∧ w' = w := by
  obtain ⟨hl, hm, hc, hz⟩ := hb
  obtain ⟨b, off, rfl, hcell⟩ := hc (by omega)
  have c0 : w.cell? ⟨b, off, none⟩ = some (.int .u8 (zs.getD 0 0)) := hcell 0 (by omega)
  have c1 := hcell 1 (by omega)
  have c2 := hcell 2 (by omega)
  have c3 := hcell 3 (by omega)
  have z0 := hz 0
  have z1 := hz 1
  have z2 := hz 2
  have z3 := hz 3
  have E : Hid (Fr.at4 zs 0 = Fr.num4 (zs.getD 0 0) (zs.getD 1 0) (zs.getD 2 0) (zs.getD 3 0)) := rfl
  generalize zs.getD 0 0 = x0 at *
  generalize zs.getD 1 0 = x1 at *
  generalize zs.getD 2 0 = x2 at *
  generalize zs.getD 3 0 = x3 at *
  have O := hid (or_four x0 x1 x2 x3 z0 z1 z2 z3)
  clear hc hcell hz hl hm
  go_enter Try.func63, Try.ntmps63
  go_wp2
  refine wp_loop_rounds 5 ?_
  rw [rounds_succ]
  go_wp2
  rw [rounds_succ]
  go_wp2
  rw [rounds_succ]
  go_wp2
  rw [rounds_succ]
  go_wp2
  rw [rounds_succ]
  go_wp2
  go_ret
  exact ⟨ret_int (by rw [E.out]; exact O.out), rfl⟩
abbrev pB (g : Nat) : Value := .pointer (some ⟨g, 0, none⟩)
set_option maxRecDepth 20000 in
set_option maxHeartbeats 400000 in
theorem field_c (g i : Nat) (w : World) (hi : i + 4 ≤ 32) : Calls Try.prog 64 #[pB g, .int .i64 i] w fun e w' => e = .returned (.slice (some ⟨g, i, none⟩) 4 4) ∧ w' = w := by
  have i0 : (0 : Int) ≤ i := by omega
  have i1 : (i : Int) ≤ i + 4 := by omega
  have i2 : (i : Int) + 4 ≤ 32 := by omega
  go_enter Try.func64, Try.ntmps64
  go_wp2
  go_ret
  exact ⟨by show Ending.returned (.slice _ (i + 4 - i) (i + 4 - i)) = _; rw [Nat.add_sub_cancel_left], rfl⟩
set_option maxHeartbeats 400000 in
theorem inside_c (g : Nat) (w : World) : Calls Try.prog 73 #[pB g] w fun e w' => e = .returned (.slice (some ⟨g, 1, none⟩) 31 31) ∧ w' = w := by
  go_enter Try.func73, Try.ntmps73
  go_wp2
  go_ret
  exact ⟨rfl, rfl⟩
/-- The bytes from a place on, as a slice. -/
theorem bx_isB {w : World} {g : Nat} {T : TypeId} {s : List Int} (h : Bx w g T s) (hb : Jo.Bytes s) (i n : Nat) (hn : i + n ≤ s.length) (hm : n ≤ maxLen) : IsB w (some ⟨g, i, none⟩) n ((s.drop i).take n) := by
  refine ⟨by simp; omega, hm, fun hp => ⟨g, i, rfl, fun k hk => ?_⟩, fun k => ?_⟩
  · rw [bx_cell h (i + k) (by omega)]; simp [List.getD, List.getElem?_take, hk, List.getElem?_drop]
  · have := Jo.bytes_getD (Jo.bytes_take (Jo.bytes_drop hb i) n) k; omega
theorem at4_drop (s : List Int) (i : Nat) : Fr.at4 ((s.drop i).take 4) 0 = Fr.at4 s i := by
  unfold Fr.at4; simp [List.getD, List.getElem?_take, List.getElem?_drop]
set_option maxHeartbeats 1000000 in
theorem seal_c (g i : Nat) (T : TypeId) (s : List Int) (w : World) (h : Bx w g T s) (hs : s.length = 32) (hb : Jo.Bytes s) (hi : i + 4 ≤ 32) :
    Calls Try.prog 76 #[pB g, .int .i64 i] w fun e w' => e = .returned (.tuple #[]) ∧ Bx w' g T (put s i (Fr.le4 (M.foldF (s.take i)))) ∧ Out (fun k => k = g) w w' ∧ w'.heap.size = w.heap.size := by
  have hz := bx_isB h hb 0 i (by omega) (by unfold maxLen; omega)
  rw [List.drop_zero] at hz
  have hf := Fr.fold_lt (s.take i)
  have HZ := hid hz
  have H := hid h
  have hi1 : (i : Int) ≤ 32 := by omega
  have hi0 : (0 : Int) ≤ i := by omega
  clear h hz
  go_enter Try.func76, Try.ntmps76
  go_wp2_with fail
  go_region_held3 (fun w' => True) (trivial) (first
    | (go_at_call 75; refine (putNumber_c g i 4 T s _ _ (by exact H.out) (by omega) hf.1 hf.2).mono ?_; rintro e w1 ⟨rfl, hp1, hk1, hk2⟩)
    | (go_at_call 101; refine (fold_c _ _ _ (s.take i) _ (by exact HZ.out)).mono ?_; rintro e w0 ⟨rfl, rfl⟩)
    | (go_at_call 64; refine (field_c g i _ hi).mono ?_; rintro e w0 ⟨rfl, rfl⟩))
  go_wp2
  exact body_end (by kernel_rfl) rfl ⟨rfl, hp1, ((Out.refl _ w).drew).trans hk1, hk2⟩
theorem results_cell1 {fn : Func} {p : Tmp} {ty : TypeId} (h : fn.results = #[.cell p ty]) (tmps : Array Value) (P : Program) (w : World) :
    (results fn tmps).run P w = ((asAddr (tmps.getD p undef)).run P w).andThen fun a w₁ => (loadVar ty a).run P w₁ := by
  simp only [results, h]
  simp [Sem.run_bind, Result.andThen]
/-- A sector that is handed back alone. -/
theorem res_sec1 {fn : Func} {p : Tmp} {ty e : TypeId} (h : fn.results = #[.cell p ty]) (tmps : Array Value) (w : World) (hT : (Try.prog.info? ty).map (·.size) = some 32) (hu : Try.prog.underlying ty = some (.array 32 e))
    (g : Nat) (hp : tmps.getD p undef = .pointer (some ⟨g, 0, none⟩)) (s : Sec) (hs : s.length = 32) (t : TypeId) (fr : Nat × Nat) (hb : w.heap[g]? = some (.cells (s.map by8).toArray t fr)) :
    (results fn tmps).run Try.prog w = .ok (secV s) w := by
  have hl := run_loadVar_row (P := Try.prog) w g t ty (s.map by8).toArray fr _ hb hu rfl (by rw [hT]; simp [hs])
  rw [results_cell1 h, hp]
  simp [asAddr, Result.andThen, hl, secV]
/-- A sector with its mark alone. -/
def markS (m : Int) : List Int := m :: List.replicate 31 0
theorem mark_sct {m : Int} (h : 0 ≤ m ∧ m < 256) : Jo.Sct (markS m) := ⟨by simp [markS], Jo.bytes_cons h (Jo.bytes_zero _)⟩
theorem mlit (m : Int) : (#[.int .u8 m, .int .u8 0, .int .u8 0, .int .u8 0, .int .u8 0, .int .u8 0, .int .u8 0, .int .u8 0, .int .u8 0, .int .u8 0, .int .u8 0, .int .u8 0, .int .u8 0, .int .u8 0, .int .u8 0, .int .u8 0, .int .u8 0, .int .u8 0, .int .u8 0, .int .u8 0, .int .u8 0, .int .u8 0, .int .u8 0, .int .u8 0, .int .u8 0, .int .u8 0, .int .u8 0, .int .u8 0, .int .u8 0, .int .u8 0, .int .u8 0, .int .u8 0] : Array Value) = ((markS m).map by8).toArray := rfl
/-- Two new sectors behind w: the first one of noughts, the second one s. -/
structure Two (w w' : World) (s : List Int) : Prop where
  sec : Bx w' (w.heap.size + 1) 90 s
  res : w'.heap[w.heap.size]? = some (.cells (zsec.map by8).toArray 90 (0, 0))
  size : w'.heap.size = w.heap.size + 2
  below : Below w.heap.size w w'
  sct : Jo.Sct s
theorem two_new (w : World) (s : List Int) (h : Jo.Sct s) : Two w ((w.alloc (.cells (zsec.map by8).toArray 90)).alloc (.cells (s.map by8).toArray 90)) s :=
  ⟨two_last w _ _, two_alloc w _ _, by simp, ((Below.refl _ _).alloc (Nat.le_refl _) _).alloc (by simp) _, h⟩
theorem Two.next {w v v' : World} {s : List Int} {i : Nat} {n : Int} (h : Two w v s) (hi : i + 4 ≤ 32) (hb : Bx v' (w.heap.size + 1) 90 (put s i (Fr.le4 n))) (ho : Out (fun k => k = w.heap.size + 1) v v') (hz : v'.heap.size = v.heap.size) : Two w v' (put s i (Fr.le4 n)) :=
  ⟨hb, by rw [ho.block _ (by rw [h.size]; omega) (by simp)]; exact h.res, by rw [hz]; exact h.size, h.below.trans (ho.below (by rw [h.size]; omega) (fun k e => by omega)),
    ⟨by rw [put_len (by rw [h.sct.1]; exact hi)]; exact h.sct.1, put_bytes h.sct.2 (Jo.bytes_le4 _)⟩⟩
theorem Two.last {w v v' : World} {s : List Int} (h : Two w v s) (ho : Out (fun k => k = w.heap.size) v v') : Below w.heap.size w v' :=
  h.below.trans (ho.below (by rw [h.size]; omega) (fun k e => by omega))
theorem Two.eq {w v : World} {s s' : List Int} (h : Two w v s) (e : s = s') : Two w v s' := e ▸ h
theorem Two.byte {w v : World} {s : List Int} (h : Two w v s) {x : Int} (hx : 0 ≤ x ∧ x < 256) (i : Nat) (hi : i < 32) : Two w (v.setCell ⟨w.heap.size + 1, i, none⟩ (.int .u8 x)) (put s i [x]) := by
  have hb := bx_set h.sec i x (by rw [h.sct.1]; exact hi)
  have e : s.set i x = put s i [x] := by
    unfold put
    rw [List.set_eq_take_append_cons_drop, if_pos (by rw [h.sct.1]; exact hi)]
    simp
  rw [e] at hb
  have ho : Out (fun k => k = w.heap.size + 1) v (v.setCell ⟨w.heap.size + 1, i, none⟩ (.int .u8 x)) := (Out.refl _ v).setCell _ _ rfl
  exact ⟨hb, by rw [ho.block _ (by rw [h.size]; omega) (by simp)]; exact h.res, by simp [World.setCell]; exact h.size, h.below.trans (ho.below (by rw [h.size]; omega) (fun k e => by omega)),
    ⟨by rw [put_len (by rw [h.sct.1]; simp; omega)]; exact h.sct.1, put_bytes h.sct.2 (Jo.bytes_cons hx (fun _ h => by cases h))⟩⟩
theorem head_put (t : Int) : put (put (markS 72) 1 (Fr.le4 t)) 5 (Fr.le4 (M.foldF ((put (markS 72) 1 (Fr.le4 t)).take 5))) = Jo.headS t := by
  have e : put (markS 72) 1 (Fr.le4 t) = Jo.pad (72 :: Fr.le4 t) := rfl
  have e2 : (Jo.pad (72 :: Fr.le4 t)).take 5 = 72 :: Fr.le4 t := rfl
  rw [e, e2]; unfold Jo.headS Jo.sealed; generalize M.foldF (72 :: Fr.le4 t) = f; rfl
theorem last_put (t n : Int) : put (put (put (markS 67) 1 (Fr.le4 t)) 5 (Fr.le4 n)) 9 (Fr.le4 (M.foldF ((put (put (markS 67) 1 (Fr.le4 t)) 5 (Fr.le4 n)).take 9))) = Jo.lastS t n := by
  have e : put (put (markS 67) 1 (Fr.le4 t)) 5 (Fr.le4 n) = Jo.pad (67 :: (Fr.le4 t ++ Fr.le4 n)) := rfl
  have e2 : (Jo.pad (67 :: (Fr.le4 t ++ Fr.le4 n))).take 9 = 67 :: (Fr.le4 t ++ Fr.le4 n) := rfl
  rw [e, e2]; unfold Jo.lastS Jo.sealed; generalize M.foldF (67 :: (Fr.le4 t ++ Fr.le4 n)) = f; rfl
theorem first_put (t n k l : Int) : put (put (put (put (put (markS 71) 1 (Fr.le4 t)) 5 (Fr.le4 n)) 9 [k]) 10 (Fr.le4 l)) 14 (Fr.le4 (M.foldF ((put (put (put (put (markS 71) 1 (Fr.le4 t)) 5 (Fr.le4 n)) 9 [k]) 10 (Fr.le4 l)).take 14))) = Jo.firstS t n k l := by
  have e : put (put (put (put (markS 71) 1 (Fr.le4 t)) 5 (Fr.le4 n)) 9 [k]) 10 (Fr.le4 l) = Jo.pad (71 :: (Fr.le4 t ++ Fr.le4 n ++ k :: Fr.le4 l)) := rfl
  have e2 : (Jo.pad (71 :: (Fr.le4 t ++ Fr.le4 n ++ k :: Fr.le4 l))).take 14 = 71 :: (Fr.le4 t ++ Fr.le4 n ++ k :: Fr.le4 l) := rfl
  rw [e, e2]; unfold Jo.firstS Jo.sealed; generalize M.foldF (71 :: (Fr.le4 t ++ Fr.le4 n ++ k :: Fr.le4 l)) = f; rfl
set_option maxRecDepth 100000 in
set_option maxHeartbeats 1000000 in
theorem headSector_c (t : Int) (w : World) (ht : 0 ≤ t ∧ t < 4294967296) :
    Calls Try.prog 42 #[.int .u32 t] w fun e w' => e = .returned (secV (Jo.headS t)) ∧ Below w.heap.size w w' := by
  have zz := zlit
  have zn : ¬ zsec = [] := by decide
  have hS := (Jo.head_sct t).1
  have T0 := two_new w (markS 72) (mark_sct (by omega))
  go_enter Try.func42, Try.ntmps42
  go_wp2_with (first
    | (go_at_call 76; refine (seal_c (w.heap.size + 1) 5 _ _ _ T1.sec T1.sct.1 T1.sct.2 (by omega)).mono ?_; rintro e w2 ⟨rfl, hb, ho, hz⟩; (have T2 := (T1.next (by omega) hb ho hz).eq (head_put t)); (have b2 := T2.sec); (have r2 := T2.res); clear hb ho hz)
    | (go_at_call 75; refine (putNumber_c (w.heap.size + 1) 1 4 _ _ t _ T0.sec (by have := T0.sct.1; omega) ht.1 ht.2).mono ?_; rintro e w1 ⟨rfl, hb, ho, hz⟩; (have T1 := T0.next (by omega) hb ho hz); clear hb ho hz)
    | (go_at_call 64; refine (field_c (w.heap.size + 1) 1 _ (by omega)).mono ?_; rintro e w0 ⟨rfl, rfl⟩)
    | (refine wpList_storeS _ rfl _ _ _ rfl sizeS _ rfl (by simp) (markS 72) rfl (by rfl) _ (by simp; decide) ?_)
    | (refine wpList_loadS _ rfl _ _ rfl sizeS Try.underlying90 _ rfl (Jo.headS t) hS _ _ b2 ?_)
    | (refine wpList_storeA _ rfl _ _ _ rfl sizeS _ rfl (Jo.headS t) rfl hS _ _ r2 (by simp; decide) ?_; intro w4 k1 k2 k3))
  exact bodyPost_ret (v := secV (Jo.headS t)) (res_sec1 rfl _ _ sizeS Try.underlying90 w.heap.size rfl _ hS _ _ k1) rfl ⟨rfl, T2.last k2⟩
set_option maxRecDepth 100000 in
set_option maxHeartbeats 1000000 in
theorem lastSector_c (t n : Int) (w : World) (ht : 0 ≤ t ∧ t < 4294967296) (hn : 0 ≤ n ∧ n < 4294967296) :
    Calls Try.prog 74 #[.int .u32 t, .int .u32 n] w fun e w' => e = .returned (secV (Jo.lastS t n)) ∧ Below w.heap.size w w' := by
  have zz := zlit
  have zn : ¬ zsec = [] := by decide
  have hS := (Jo.last_sct t n).1
  have T0 := two_new w (markS 67) (mark_sct (by omega))
  go_enter Try.func74, Try.ntmps74
  go_wp2_with (first
    | (go_at_call 76; refine (seal_c (w.heap.size + 1) 9 _ _ _ T2.sec T2.sct.1 T2.sct.2 (by omega)).mono ?_; rintro e w3 ⟨rfl, hb, ho, hz⟩; (have T3 := (T2.next (by omega) hb ho hz).eq (last_put t n)); (have b2 := T3.sec); (have r2 := T3.res); clear hb ho hz)
    | (go_at_call 75; refine (putNumber_c (w.heap.size + 1) 5 4 _ _ n _ T1.sec (by have := T1.sct.1; omega) hn.1 hn.2).mono ?_; rintro e w2 ⟨rfl, hb, ho, hz⟩; (have T2 := T1.next (by omega) hb ho hz); clear hb ho hz)
    | (have _q := T1.size; clear _q; go_at_call 64; refine (field_c (w.heap.size + 1) 5 _ (by omega)).mono ?_; rintro e w0 ⟨rfl, rfl⟩)
    | (go_at_call 75; refine (putNumber_c (w.heap.size + 1) 1 4 _ _ t _ T0.sec (by have := T0.sct.1; omega) ht.1 ht.2).mono ?_; rintro e w1 ⟨rfl, hb, ho, hz⟩; (have T1 := T0.next (by omega) hb ho hz); clear hb ho hz)
    | (go_at_call 64; refine (field_c (w.heap.size + 1) 1 _ (by omega)).mono ?_; rintro e w0 ⟨rfl, rfl⟩)
    | (refine wpList_storeS _ rfl _ _ _ rfl sizeS _ rfl (by simp) (markS 67) rfl (by rfl) _ (by simp; decide) ?_)
    | (refine wpList_loadS _ rfl _ _ rfl sizeS Try.underlying90 _ rfl (Jo.lastS t n) hS _ _ b2 ?_)
    | (refine wpList_storeA _ rfl _ _ _ rfl sizeS _ rfl (Jo.lastS t n) rfl hS _ _ r2 (by simp; decide) ?_; intro w4 k1 k2 k3))
  exact bodyPost_ret (v := secV (Jo.lastS t n)) (res_sec1 rfl _ _ sizeS Try.underlying90 w.heap.size rfl _ hS _ _ k1) rfl ⟨rfl, T3.last k2⟩
set_option maxRecDepth 100000 in
set_option maxHeartbeats 2000000 in
theorem firstSector_c (t n k l : Int) (w : World) (ht : 0 ≤ t ∧ t < 4294967296) (hn : 0 ≤ n ∧ n < 4294967296) (hk : 0 ≤ k ∧ k < 256) (hl : 0 ≤ l ∧ l < 4294967296) :
    Calls Try.prog 71 #[.int .u32 t, .int .u32 n, .int .u8 k, .int .u32 l] w fun e w' => e = .returned (secV (Jo.firstS t n k l)) ∧ Below w.heap.size w w' := by
  have zz := zlit
  have zn : ¬ zsec = [] := by decide
  have hS := (Jo.first_sct t n hk l).1
  have T0 := two_new w (markS 71) (mark_sct (by omega))
  go_enter Try.func71, Try.ntmps71
  go_wp2_with (first
    | (go_at_call 76; refine (seal_c (w.heap.size + 1) 14 _ _ _ T4.sec T4.sct.1 T4.sct.2 (by omega)).mono ?_; rintro e w5 ⟨rfl, hb, ho, hz⟩; (have T5 := (T4.next (by omega) hb ho hz).eq (first_put t n k l)); (have b2 := T5.sec); (have r2 := T5.res); clear hb ho hz)
    | (go_at_call 75; refine (putNumber_c (w.heap.size + 1) 10 4 _ _ l _ T3.sec (by have := T3.sct.1; omega) hl.1 hl.2).mono ?_; rintro e w4 ⟨rfl, hb, ho, hz⟩; (have T4 := T3.next (by omega) hb ho hz); clear hb ho hz)
    | (have _q := T3.size; clear _q; go_at_call 64; refine (field_c (w.heap.size + 1) 10 _ (by omega)).mono ?_; rintro e w0 ⟨rfl, rfl⟩)
    | (go_at_call 75; refine (putNumber_c (w.heap.size + 1) 5 4 _ _ n _ T1.sec (by have := T1.sct.1; omega) hn.1 hn.2).mono ?_; rintro e w2 ⟨rfl, hb, ho, hz⟩; (have T2 := T1.next (by omega) hb ho hz); (have c9 := bx_cell hb 9 (by have := T2.sct.1; omega)); (have f9 := bx_frozen hb 9); (have T3 := T2.byte hk 9 (by omega)); clear hb ho hz)
    | (have _q := T1.size; clear _q; go_at_call 64; refine (field_c (w.heap.size + 1) 5 _ (by omega)).mono ?_; rintro e w0 ⟨rfl, rfl⟩)
    | (go_at_call 75; refine (putNumber_c (w.heap.size + 1) 1 4 _ _ t _ T0.sec (by have := T0.sct.1; omega) ht.1 ht.2).mono ?_; rintro e w1 ⟨rfl, hb, ho, hz⟩; (have T1 := T0.next (by omega) hb ho hz); clear hb ho hz)
    | (go_at_call 64; refine (field_c (w.heap.size + 1) 1 _ (by omega)).mono ?_; rintro e w0 ⟨rfl, rfl⟩)
    | (refine wpList_storeS _ rfl _ _ _ rfl sizeS _ rfl (by simp) (markS 71) rfl (by rfl) _ (by simp; decide) ?_)
    | (refine wpList_loadS _ rfl _ _ rfl sizeS Try.underlying90 _ rfl (Jo.firstS t n k l) hS _ _ b2 ?_)
    | (refine wpList_storeA _ rfl _ _ _ rfl sizeS _ rfl (Jo.firstS t n k l) rfl hS _ _ r2 (by simp; decide) ?_; intro w7 k1 k2 k3))
  exact bodyPost_ret (v := secV (Jo.firstS t n k l)) (res_sec1 rfl _ _ sizeS Try.underlying90 w.heap.size rfl _ hS _ _ k1) rfl ⟨rfl, T5.last k2⟩
end Go.Proofs.Ytllohapbbmnipad
