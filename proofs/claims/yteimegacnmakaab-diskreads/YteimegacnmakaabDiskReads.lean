/-
  For every number, every deeds (the first sixty are done), and a write: what is read is what was written last; a Flush changes nothing that is read; a number that is none is refused, and changes nothing.
-/
import Derived.Test.YteimegacnmakaabRPlay
namespace Go.Proofs.Yteimegacnmakaab
open Go.ChangeShapes Go.WideShapes Go.ChangeAt Go.RowKit Go.Maps
open Go.ChangeMaps (open_string shut_string)
set_option linter.unusedVariables false
set_option linter.unusedSimpArgs false
theorem same_secs (w : World) {s : Sec} (hs : IsSec s) : (Op.equalIn 10000 53 (.agg (s.map by8).toArray) (.agg (s.map by8).toArray)).run Try.prog w = .ok true w := by
  have e4 := secEq (P := Try.prog) w 53 5 Try.underlying53 Try.underlying5 size8 hs hs
  unfold secV at e4
  rw [run_eql_struct] at e4
  cases hR : (Op.equalIn 10000 53 (.agg (s.map by8).toArray) (.agg (s.map by8).toArray)).run Try.prog w with
  | ok b w' =>
    rw [hR] at e4
    simp [Result.andThen] at e4
    rw [e4.1, e4.2]
  | halt h w' =>
    rw [hR] at e4
    simp [Result.andThen] at e4
theorem load_sec {w : World} {g : Nat} {s : Sec} (hs : s.length = 32) (h : w.heap[g]? = some (.cells (s.map by8).toArray 53)) : (Instr.loadAt 53 (.pointer (some ⟨g, 0, none⟩))).run Try.prog w = .ok (.agg (s.map by8).toArray) w :=
  run_loadAt_mid w g 0 53 (s.map by8) _ (range_sec h) Try.underlying53 rfl (by rw [sizeS]; simp [hs])
theorem quiet_load {o : Oper} {a : Act} {C : World → Prop} {w : World} {v : Value} (x : Operand) (T : TypeId) (p : Value) (hop : o.op = .load T x) (hx : a.eval x = p) (hl : (Instr.loadAt T p).run Try.prog w = .ok v w) (hC : C w) : o.quietAt Try.prog a C w v := by
  unfold Oper.quietAt
  simp only [execOp, hop, hx, Sem.run_bind, hl, Result.andThen, Sem.run_pure]
  exact ⟨rfl, rfl⟩
theorem quiet_eql {o : Oper} {a : Act} {C : World → Prop} {w : World} (x y : Operand) (t : TypeId) (s u : Sec) (hop : o.op = .binOp .eql 53 x y t) (hx : a.eval x = secV s) (hy : a.eval y = secV u) (hs : IsSec s) (hu : IsSec u) (hC : C w) : o.quietAt Try.prog a C w (.bool (s == u)) := by
  have e1 := secEq (P := Try.prog) w 53 5 Try.underlying53 Try.underlying5 size8 hs hu
  have e2 : (eqGuard .eql 53 x y (secV s) (secV u)).run Try.prog w = .ok () w := run_eqGuard_agg w .eql 53 x y _ _ guardS
  unfold Oper.quietAt
  simp only [execOp, hop, hx, hy, Sem.run_bind, e1, e2, Result.andThen, Sem.run_pure]
  exact ⟨rfl, rfl⟩
set_option maxRecDepth 100000 in
set_option maxHeartbeats 4000000 in
theorem reads_bad (n : Nat) (hn : n < 256) (a : Option Addr) (len cap : Nat) (f : Nat → Dd) (k i y : Int) (xa : Option Addr) (xl xp : Nat) (w : World) (h : IsDs w a len f) (hi : i < 0 ∨ ((n % 8 + 1 : Nat) : Int) ≤ i) (hy0 : 0 ≤ y) (hy1 : y < 256) :
    Calls Try.prog 6 #[.int .u8 n, .slice a len cap, .agg #[.int .i64 k, .int .i64 i, .int .u8 y, .slice xa xl xp]] w fun e w' => e = .returned (.bool true) ∧ Below w.heap.size w w' := by
  have zz := zlit
  have hb0 : Below w.heap.size w (w.alloc (.cells #[.int .i64 k, .int .i64 i, .int .u8 y, .slice xa xl xp] 51)) := (Below.refl _ _).alloc (Nat.le_refl _) _
  have HX0 : Hid (BoxAt (w.alloc (.cells #[.int .i64 k, .int .i64 i, .int .u8 y, .slice xa xl xp] 51)) w.heap.size k i y xa xl xp) := heap_alloc_new w _
  have PC := hid (play_c n hn a len cap f (h.later hb0))
  have HB0 := hid hb0
  clear h hb0
  go_enter Try.func6, Try.ntmps6
  go_wp2_with fail
  generalize (w.alloc (.cells #[.int .i64 k, .int .i64 i, .int .u8 y, .slice xa xl xp] 51)) = W at *
  refine PC.out.mono ?_
  rintro _ w1 ⟨d, b1, b2, r, on, c, rfl, hP, hge, hb1⟩
  have HP := hid hP
  have HX1 := hid (HX0.out.later hb1)
  have HB1 := hid (HB0.out.trans (hb1.mono HB0.out.size))
  clear hP hb1 PC HX0
  go_wp2_with fail
  refine (dlive_c _).mono ?_
  rintro _ w2 ⟨rfl, hb2⟩
  have HP2 := hid (HP.out.later hb2)
  have HX2 : Hid (BoxAt w2.drew w.heap.size k i y xa xl xp) := HX1.out.later hb2.drew
  have HB2 := hid (HB1.out.trans (hb2.mono HB1.out.size))
  have HD2 : Hid (IsD w2.drew d b1 b2 (n % 8 + 1) on c) := HP2.out.1
  obtain ⟨x1, x2, x3⟩ := HX2.out.cells
  have x1' : w2.cell? ⟨w.heap.size, 1, none⟩ = some (.int .i64 i) := x1
  have x2' : w2.cell? ⟨w.heap.size, 2, none⟩ = some (.int .u8 y) := x2
  clear hb2 HX1 x1 x2 x3
  go_wp2
  go_region_held3 (fun w' => w'.cell? ⟨w.heap.size, 1, none⟩ = some (.int .i64 i) ∧ w'.cell? ⟨w.heap.size, 2, none⟩ = some (.int .u8 y)) (first | go_keep | exact ⟨S2.out.cells.1, S2.out.cells.2.1⟩ | exact ⟨S1.out.cells.1, S1.out.cells.2.1⟩)
    (first
      | (go_at_call 20; refine (sector_c y w2.drew).mono ?_; rintro _ w3 ⟨rfl, hb3⟩; have D1 := hid (HD2.out.later hb3); have S1 := hid (HX2.out.later hb3); have P1 := hid (Pair.later (w := w2.drew) HP2.out hb3); have O1 := hid hb3)
      | (go_at_call 19; refine (write_bad D1.out i (full y) hi).mono ?_; rintro _ w4 ⟨rfl, hb4⟩; have D2 := hid (D1.out.later hb4); have S2 := hid (S1.out.later hb4); have P2 := hid (P1.out.later hb4); have O2 : Hid (Below w.heap.size w w4) := ((HB2.out.drew).trans (O1.out.mono HB2.out.size)).trans (hb4.mono (Nat.le_trans HB2.out.size O1.out.size))))
  obtain ⟨y1, y2, y3⟩ := S2.out.cells
  have RB := hid (read_bad D2.out i hi)
  clear y3
  have hz32 := zsec_is.1
  go_wp2_with (first
    | (go_at_call 23; refine RB.out.mono ?_; rintro _ w5 ⟨rfl, hb5⟩; have SC := hid (same_c ((P2.out.later hb5).later ((Below.refl _ w5).alloc (Nat.le_refl _) (.cells (zsec.map by8).toArray 53)))); have O5 : Hid (Below w.heap.size w (w5.alloc (.cells (zsec.map by8).toArray 53))) := (O2.out.trans (hb5.mono O2.out.size)).alloc (Nat.le_trans O2.out.size hb5.size) _)
    | (refine wpList_storeS _ rfl _ _ _ rfl sizeS _ rfl (by simp) zsec rfl hz32 _ (by simp; decide) ?_)
    | (go_at_call 16; refine SC.out.mono ?_; rintro _ w6 ⟨rfl, hb6⟩))
  go_ret
  exact ⟨rfl, O5.out.trans (hb6.mono O5.out.size)⟩
section
open Go.Sort Go.Shelf
set_option maxRecDepth 100000 in
set_option maxHeartbeats 1000000 in
theorem loose_empty {w : World} {d b1 b2 N : Nat} {on : Int → Sec} (h : IsD w d b1 b2 N on (fun _ => none)) :
    Calls Try.prog 22 #[pD d] w fun e w' => e = .returned (.slice none 0 0) ∧ Below w.heap.size w w' := by
  obtain ⟨c0, c1, c2, l0, l1, l2, d1, d2, d3⟩ := h.cells
  obtain ⟨D, hown, hf⟩ := h.2.2.2.2.1.1
  have hN := h.2.2.2.1
  have hsz : Maps.size D ≤ N := hown.size_le
  refine (callsIn_wide (n := 6)).1 ?_
  have hseq : SeqGives Fence.wide 2 Try.prog 54 #[.pointer (some ⟨w.heap.size, 0, none⟩)] encZ (fun ss => ss.Perm (intKeys D)) (Maps.size D) (w.alloc (.cells #[.map (some b2)] 80)) :=
    AnyZI.keys_gives (ρ := Try.keysA_ren) { Try.keysA with } Fence.wide _ trivial rfl (by omega) w.heap.size b2 N D _ (by simp) (by simp) (by
      obtain ⟨es, clock, hb, Ft, hs, hD⟩ := hown
      exact ⟨es, clock, (Below.heap_alloc _ _ b2 l2).trans hb, Ft, hs, hD⟩)
  have cK : ∀ mb W, CallsIn Fence.wide 5 Try.prog 42 #[.map mb] W fun e w' => e = .returned (.func (.func 54) #[] #[.pointer (some ⟨W.heap.size, 0, none⟩)]) ∧ w' = W.alloc (.cells #[.map mb] 80) := fun mb W => AnyZI.keys_in Try.keysA Fence.wide 5 trivial rfl mb W
  have cS := AnyZI.sorted_in Try.sortedA Fence.wide 5 trivial trivial trivial trivial rfl (by omega) (sortsA _) (enters_of Try.func53 (by kernel_rfl) rfl) 54 #[.pointer (some ⟨w.heap.size, 0, none⟩)] trivial (enters_of Try.func54 (by kernel_rfl) rfl) _ _ (by unfold maxLen; omega) (by omega) _ hseq
  change CallsIn _ _ Try.prog 41 _ _ _ at cS
  have hfK : Fence.wide.fn 42 := trivial
  have hfS : Fence.wide.fn 41 := trivial
  have HO := hid hown
  have HF := hid hf
  have CS := hid cS
  have CK := hid cK
  clear h c0 c1 hown hf cS cK hseq hN hsz
  refine callsIn_of_wp Try.func22 rfl trivial ?_ rfl
  simp only [Try.ntmps22, List.size_toArray, List.length_cons, List.length_nil, Nat.reduceAdd, Nat.reduceSub, Array.replicate_succ, Array.replicate_zero, List.push_toArray, List.append_toArray, List.nil_append, List.cons_append]
  gi_wp2_with (first
    | (gi_at_call 42; refine (CK.out _ _).mono ?_; rintro e w' ⟨rfl, rfl⟩)
    | (gi_at_call 41; refine CS.out.mono ?_; rintro e w' ⟨v, ss, rfl, hS, hrow, hnil, hb⟩))
  go_ret
  have hk := keys_of HO.out hS
  have hss : ss = [] := by
    cases ss with
    | nil => rfl
    | cons x l =>
      have h1 : x ∈ (x :: l).mergeSort (fun x y => decide (x ≤ y)) := (List.mergeSort_perm (x :: l) _).mem_iff.2 (by simp)
      have h2 := (hk.2 x).1 h1
      rw [← HF.out x] at h2
      cases h2
  exact ⟨by rw [hnil.2 hss]; rfl, ((Below.refl _ w).alloc (Nat.le_refl _) _).trans (hb.mono (by simp))⟩
end
set_option maxRecDepth 100000 in
set_option maxHeartbeats 8000000 in
theorem reads_good (n : Nat) (hn : n < 256) (a : Option Addr) (len cap : Nat) (f : Nat → Dd) (k i y : Int) (xa : Option Addr) (xl xp : Nat) (w : World) (h : IsDs w a len f) (h0 : 0 ≤ i) (h1 : i < ((n % 8 + 1 : Nat) : Int)) (hy0 : 0 ≤ y) (hy1 : y < 256) :
    Calls Try.prog 6 #[.int .u8 n, .slice a len cap, .agg #[.int .i64 k, .int .i64 i, .int .u8 y, .slice xa xl xp]] w fun e w' => e = .returned (.bool true) ∧ Below w.heap.size w w' := by
  have zz := zlit
  have hfy := full_is hy0 hy1
  have hb0 : Below w.heap.size w (w.alloc (.cells #[.int .i64 k, .int .i64 i, .int .u8 y, .slice xa xl xp] 51)) := (Below.refl _ _).alloc (Nat.le_refl _) _
  have HX0 : Hid (BoxAt (w.alloc (.cells #[.int .i64 k, .int .i64 i, .int .u8 y, .slice xa xl xp] 51)) w.heap.size k i y xa xl xp) := heap_alloc_new w _
  have PC := hid (play_c n hn a len cap f (h.later hb0))
  have HB0 := hid hb0
  have HXL := hid HX0.out.lt
  clear h hb0
  go_enter Try.func6, Try.ntmps6
  go_wp2_with fail
  generalize (w.alloc (.cells #[.int .i64 k, .int .i64 i, .int .u8 y, .slice xa xl xp] 51)) = W at *
  refine PC.out.mono ?_
  rintro _ w1 ⟨d, b1, b2, r, on, c, rfl, hP, hge, hb1⟩
  have HP := hid hP
  have HX1 := hid (HX0.out.later hb1)
  have HB1 := hid (HB0.out.trans (hb1.mono HB0.out.size))
  clear hP hb1 PC HX0
  go_wp2_with fail
  refine (dlive_c _).mono ?_
  rintro _ w2 ⟨rfl, hb2⟩
  have HB2 := hid (HB1.out.trans (hb2.mono HB1.out.size))
  obtain ⟨hD2, L, B, hR2, hon, hc⟩ := HP.out.later hb2
  have HX2 : Hid (BoxAt w2.drew w.heap.size k i y xa xl xp) := HX1.out.later hb2.drew
  have HD2 : Hid (IsD w2.drew d b1 b2 (n % 8 + 1) on c) := hD2
  have HR2 : Hid (IsR w2.drew r (n % 8 + 1) L B) := hR2
  have HON := hid hon
  have HC := hid hc
  have HBP := hid hR2.2.2.2.1
  have hwW : w.heap.size < W.heap.size := HXL.out
  have hne1 : w.heap.size ≠ b2 := by omega
  have hne2 : w.heap.size ≠ r := by omega
  have hne3 : ¬ Trio b1 b2 r w.heap.size := by rintro (e | e | e) <;> omega
  obtain ⟨x1, x2, x3⟩ := HX2.out.cells
  have x1' : w2.cell? ⟨w.heap.size, 1, none⟩ = some (.int .i64 i) := x1
  have x2' : w2.cell? ⟨w.heap.size, 2, none⟩ = some (.int .u8 y) := x2
  clear hb2 HX1 x1 x2 x3 hD2 hR2 hon hc HP
  go_wp2
  go_region_held3 (fun w' => w'.cell? ⟨w.heap.size, 1, none⟩ = some (.int .i64 i) ∧ w'.cell? ⟨w.heap.size, 2, none⟩ = some (.int .u8 y)) (first | go_keep | exact ⟨S2.out.cells.1, S2.out.cells.2.1⟩ | exact ⟨S1.out.cells.1, S1.out.cells.2.1⟩)
    (first
      | (go_at_call 20; refine (sector_c y w2.drew).mono ?_; rintro _ w3 ⟨rfl, hb3⟩; have D1 := hid (HD2.out.later hb3); have S1 := hid (HX2.out.later hb3); have R1 := hid (HR2.out.later hb3); have O1 := hid ((HB2.out.drew).trans (hb3.mono HB2.out.size)))
      | (go_at_call 19; refine (write_c D1.out i (full y) hfy h0 h1).mono ?_; rintro _ w4 ⟨rfl, hD4, ho4⟩; have D2 := hid hD4; have S2 := hid (S1.out.out ho4 hne1); have R2 := hid (R1.out.disk D1.out (ho4.mono (fun _ e => Or.inr e))); have O2 := hid (O1.out.trans (ho4.below O1.out.size (fun k e => by omega)))))
  obtain ⟨y1, y2, y3⟩ := S2.out.cells
  have RB := hid (read_c D2.out i h0 h1)
  have eU : (upd c i (some (full y)) i).getD (on i) = full y := by simp [upd]
  rw [eU] at RB
  clear y3 eU
  have hf32 := hfy.1
  go_wp2_with (first
    | (go_at_call 23; refine RB.out.mono ?_; rintro _ w5 ⟨rfl, hb5⟩)
    | (refine wpList_storeS _ rfl _ _ _ rfl sizeS _ rfl (by simp) (full y) rfl hf32 _ (by simp; decide) ?_))
  have hbb : Below w4.heap.size w4 (w5.alloc (.cells ((full y).map by8).toArray 53)) := hb5.alloc hb5.size _
  have hs5 : (w5.alloc (.cells ((full y).map by8).toArray 53)).heap[w5.heap.size]? = some (.cells ((full y).map by8).toArray 53) := heap_alloc_new w5 _
  have D5 := hid (D2.out.later hbb)
  have R5 := hid (R2.out.later hbb)
  have S5 := hid (S2.out.later hbb)
  have O5 := hid (O2.out.trans (hbb.mono O2.out.size))
  have HS5 := hid hs5
  have HG5 : Hid (¬ Trio b1 b2 r w5.heap.size) := by
    have l1 := D2.out.cells
    have l2 := lt_blk R2.out.row.choose_spec.choose_spec.choose_spec.choose_spec.1
    have l3 := hb5.size
    show ¬ _
    rintro (e | e | e) <;> omega
  clear hbb hs5 hb5 y1 y2
  generalize (w5.alloc (.cells ((full y).map by8).toArray 53)) = W5 at *
  obtain ⟨z1, z2, z3⟩ := S5.out.cells
  have D6 : Hid (IsD W5.drew d b1 b2 (n % 8 + 1) on (upd c i (some (full y)))) := D5.out
  have R6 : Hid (IsR W5.drew r (n % 8 + 1) L B) := R5.out
  have S6 : Hid (BoxAt W5.drew w.heap.size k i y xa xl xp) := S5.out
  have O6 : Hid (Below w.heap.size w W5.drew) := O5.out.drew
  have K6 : Hid (W5.drew.heap[w5.heap.size]? = some (.cells ((full y).map by8).toArray 53)) := HS5.out
  clear z3
  go_region_held3 (fun w' => w'.cell? ⟨w.heap.size, 1, none⟩ = some (.int .i64 i) ∧ w'.cell? ⟨w.heap.size, 2, none⟩ = some (.int .u8 y)) (first | go_keep | exact ⟨S8.out.cells.1, S8.out.cells.2.1⟩ | exact ⟨S7.out.cells.1, S7.out.cells.2.1⟩)
    (first
      | (go_at_call 20; refine (sector_c y W5.drew).mono ?_; rintro _ w7 ⟨rfl, hb7⟩; have D7 := hid (D6.out.later hb7); have S7 := hid (S6.out.later hb7); have R7 := hid (R6.out.later hb7); have O7 := hid (O6.out.trans (hb7.mono O6.out.size)); have K7 := hid ((hb7.block _ (lt_blk K6.out)).trans K6.out))
      | (go_at_call 24; refine (rwrite_c R7.out i (full y) hfy h0 h1).mono ?_; rintro _ w8 ⟨rfl, hR8, ho8⟩; have D8 := hid (D7.out.ref R7.out ho8); have S8 := hid (S7.out.out ho8 hne2); have R8 := hid hR8; have O8 := hid (O7.out.trans (ho8.below O7.out.size (fun k e => by omega))); have K8 := hid ((ho8.block _ (lt_blk K7.out) (fun e => HG5.out (.inr (.inr e)))).trans K7.out)))
  have P8 := hid (pair_write (w := w) D8.out HBP.out R8.out HON.out HC.out)
  have SC := hid (same_c P8.out)
  go_wp2_with (go_at_call 16; refine SC.out.mono ?_; rintro _ w9 ⟨rfl, hb9⟩)
  obtain ⟨hD9, L9, B9, hR9, hon9, hc9⟩ := P8.out.later hb9
  have D9 := hid hD9
  have R9 := hid hR9
  have HON9 := hid hon9
  have HC9 := hid hc9
  have S9 := hid (S8.out.later hb9)
  have K9 := hid ((hb9.block _ (lt_blk K8.out)).trans K8.out)
  have O9 := hid (O8.out.trans (hb9.mono O8.out.size))
  clear hb9 hD9 hR9 hon9 hc9 SC
  go_wp2_with (go_at_call 17; refine (flush_c D9.out).mono ?_; rintro _ w10 ⟨rfl, hD10, ho10⟩)
  have D10 := hid hD10
  have R10 := hid (R9.out.disk D9.out ho10)
  have S10 := hid (S9.out.out ho10 (fun e => hne3 (by rcases e with e | e; exact .inl e; exact .inr (.inl e))))
  have K10 := hid ((ho10.block _ (lt_blk K9.out) (fun e => HG5.out (by rcases e with e | e; exact .inl e; exact .inr (.inl e)))).trans K9.out)
  have O10 := hid (O9.out.trans (ho10.below O9.out.size (fun k e => by omega)))
  clear hD10 ho10
  go_wp2_with (go_at_call 25; refine (rflush_c R10.out).mono ?_; rintro _ w11 ⟨rfl, hR11, ho11⟩)
  have P11 := hid (pair_out (on := on) (c := upd c i (some (full y))) true [] R9.out.2.2.2.1 (fun p hp => (R9.out.2.2.2.2.1 p hp).2.1) R9.out.2.1 (D10.out.ref R10.out ho11) hR11 HON9.out HC9.out (fun i => by simp))
  have S11 := hid (S10.out.out ho11 hne2)
  have K11 := hid ((ho11.block _ (lt_blk K10.out) (fun e => HG5.out (.inr (.inr e)))).trans K10.out)
  have O11 := hid (O10.out.trans (ho11.below O10.out.size (fun k e => by omega)))
  clear hR11 ho11
  have HE := hid (fun w' => same_secs w' hfy)
  go_wp2_with fail
  refine wp_region_class (by kernel_rfl) (by kernel_rfl) ?_
  have hyy : (full y == full y) = true := by simp
  repeat (first
    | go_big_quiet_skip
    | (go_big_quiet_want
       apply quiet_by
       · intro w1 hw1
         exact quiet_load _ 53 _ rfl rfl (load_sec hf32 ((hw1.block _ (lt_blk K11.out)).trans K11.out)) hw1
       · go_simp; rfl
       go_big_quiet_on)
    | (go_big_quiet_want
       apply quiet_by
       · intro w1 hw1
         rw [← hyy]
         exact quiet_eql _ _ _ (full y) (full y) rfl rfl rfl hfy hfy hw1
       · go_simp; rfl
       go_big_quiet_on)
    | (go_big_quiet_want
       apply quiet_by
       · intro w1 hw1
         obtain ⟨_, g2, _⟩ := (S11.out.later hw1).cells
         go_simp
         first
           | rfl
           | (go_at_call 20; exact class_of hw1 (sector_c _ _))
           | (go_at_call 16; exact class_of hw1 (same_c (P11.out.later hw1)))
           | (go_at_call 22; exact class_of hw1 (loose_empty (P11.out.later hw1).1))
       · go_simp; rfl
       go_big_quiet_on))
  refine wpQuiet_nil ?_
  intro w12 hw12
  go_wp2
  go_ret
  exact ⟨rfl, O11.out.trans (hw12.mono O11.out.size)⟩
theorem diskReads_walk (n : Int) (wn : (Lit.int .u8 n).wf = true) (a : Option Addr) (len cap : Nat) (f : Nat → Dd) (x : Dd) (w : World) (h : IsDs w a len f) (hx : x.Wf) (hz : IsZ w x.a x.len x.zs) :
    Calls Try.prog 6 #[.int .u8 n, .slice a len cap, x.val] w fun e w' => e = .returned (.bool true) ∧ Below w.heap.size w w' := by
  have hb := bd_u8 wn
  obtain ⟨m, rfl⟩ : ∃ m : Nat, n = (m : Int) := ⟨n.toNat, by omega⟩
  have hy := hx.2.2
  by_cases hi : 0 ≤ x.i ∧ x.i < ((m % 8 + 1 : Nat) : Int)
  · exact reads_good m (by omega) a len cap f x.k x.i x.c x.a x.len x.cap w h hi.1 hi.2 hy.1 hy.2
  · exact reads_bad m (by omega) a len cap f x.k x.i x.c x.a x.len x.cap w h (by omega) hy.1 hy.2

/-! ### The row of DiskReads -/
theorem diskReads_own : ownKnob Try.prog.godebug = none := by kernel_rfl
theorem diskReads_laidOut : laidOutB Try.prog = true := by kernel_rfl
set_option maxRecDepth 100000 in
theorem diskReads_lifted (os : Os) (started : os.Started) (H : Type) (enc : TypeId × Value → H) :
    ReturnsInHanded {} Try.checked os 6 .any (Rows.diskReadsSpec.pre6 enc Try.prog Try.f6 Rows.diskReadsRow.domain false) (Rows.diskReadsSpec.post enc Try.prog Try.f6 false true false false) := by
  refine returnsInHanded_of_change (C := Try.checked) diskReads_own started (by kernel_rfl) Try.func6
    (ChangeSpec.witness6 (enc := enc) (C := Try.checked) false ⟨#[], #[.int .u8 0, .slice none 0 0, .agg #[.int .i64 0, .int .i64 0, .int .u8 0, .slice none 0 0]], []⟩ 8 (by kernel_rfl) (by kernel_rfl) (by kernel_rfl) (by kernel_rfl)) ?_
  intro W base args ds gs before hval0 hW hcnd _
  have hval : ∀ (j : Nat) t v, Try.f6.params[j]? = some t → args[j]? = some v → Value.okWide Try.prog W .any base t v := hval0
  have hW' := hW
  obtain ⟨p, q, hA0, hV, rfl, hfz, hnd⟩ := hW
  have hA : DataW.TrodAll enc Try.prog W 0 (fun _ => true) true Try.f6.params.toList args.toList ds p := hA0
  rw [Try.params6] at hA hval
  obtain ⟨v0, vs0, d0, ds0, p0, q0, hargs, rfl, rfl, h0, r0⟩ := trodAll_cons hA
  obtain ⟨v1, vs1, d1, ds1, p1, q1, rfl, rfl, rfl, h1, r1⟩ := trodAll_cons r0
  obtain ⟨v2, vs2, d2, ds2, p2, q2, rfl, rfl, rfl, h2, r2⟩ := trodAll_cons r1
  obtain ⟨rfl, rfl, rfl⟩ := trodAll_nil r2
  obtain rfl : args = #[v0, v1, v2] := by cases args; simp_all
  obtain ⟨rfl, rfl⟩ := trodVars_none hV
  obtain ⟨a0, rfl, rfl, rfl, w0⟩ := open_int Try.underlying5 (hval 0 5 v0 rfl rfl) h0
  have k1 := h1
  have lt1 : ∀ x ∈ p1, x.block < W.heap.size := by obtain ⟨m, hm⟩ := k1; exact DataW.trod_lt m _ _ _ hm
  obtain ⟨a1, len1, cap1, rfl⟩ := okWide_slice Try.underlying38 (hval 1 38 v1 rfl rfl)
  obtain ⟨z1, w1⟩ := isDs_of Try.underlying38 h1
  have k2 := h2
  have lt2 : ∀ x ∈ p2, x.block < W.heap.size := by obtain ⟨m, hm⟩ := k2; exact DataW.trod_lt m _ _ _ hm
  obtain ⟨q2, rfl, wq2, zq2⟩ := open_deed (hval 2 51 v2 rfl rfl) h2
  clear hA0 hval0
  refine (diskReads_walk a0 w0 a1 len1 cap1 z1 q2 W w1 wq2 zq2).mono fun e W' ⟨he, bel⟩ => ?_
  subst he
  exact ⟨_, rfl, _, _, _, [], _, [], hW', trodAll_mk1 (shut_bool Try.underlying4 _), (trodAll_cons_mk (shut_int Try.underlying5 w0) (trodAll_cons_mk (Below.trod diskReads_laidOut (by kernel_rfl) (of_decide_eq_true (by kernel_rfl)) k1 bel lt1) (trodAll_cons_mk (Below.trod diskReads_laidOut (by kernel_rfl) (of_decide_eq_true (by kernel_rfl)) k2 bel lt2) trodAll_mk0))), rfl, bel.frame _, fun h => by cases h⟩
theorem diskReads_over : Rows.diskReadsRow.holds Try.pinned (OpenSpec.ofChange Rows.diskReadsSpec) :=
  OpenClaim.holds_of_wide 6 Try.f6 rfl rfl rfl rfl rfl rfl rfl ⟨rfl, rfl, rfl, rfl, rfl⟩ rfl rfl rfl rfl rfl (by kernel_rfl) Try.func6 (by kernel_rfl)
    (of_decide_eq_true (by kernel_rfl)) (by unfold Func.isWrapper; first | (rw [if_pos (by decide +kernel)]; kernel_rfl) | (rw [if_neg (by decide +kernel)]; exact ⟨rfl, rfl⟩))
    (fun os started H enc _ => diskReads_lifted os started H enc)
/-- The statement. -/
theorem diskReads_holds : Rows.DiskReadsSaid := diskReads_over
#print axioms diskReads_holds

end Go.Proofs.Yteimegacnmakaab
