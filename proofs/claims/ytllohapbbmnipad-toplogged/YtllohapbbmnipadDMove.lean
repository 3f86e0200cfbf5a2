/-
  What settle, Flush and Crash of the package disk do.
-/
import Derived.Test.YtllohapbbmnipadDRead
namespace Go.Proofs.Ytllohapbbmnipad
open Go.RowKit Go.ChangeShapes Go.WideShapes Go.ChangeAt Go.Maps
set_option linter.unusedVariables false
set_option linter.unusedSimpArgs false
theorem size8 (w : World) : (sizeOf 5).run Try.prog w = .ok 1 w := by
  have h : (Try.prog.info? 5).map (·.size) = some 1 := by kernel_rfl
  cases hi : Try.prog.info? 5 with
  | none => rw [hi] at h; cases h
  | some i => rw [hi] at h; simp at h; simp [sizeOf, typeInfo, hi, h]
theorem guardS : Try.prog.eqGuardType Try.prog.depth 90 = false := by kernel_rfl
/-- 's == u'. -/
theorem wpList_eqlS (w : World) {ops : Array Oper} {rest : List Oper} {o : Oper} {a : Act} {Q : Exit → Act → World → Prop} (hg : o.guard = none) (x y : Operand) (t : TypeId) (hop : o.op = .binOp .eql 90 x y t)
    (s u : Sec) (hx : a.eval x = secV s) (hy : a.eval y = secV u) (hs : IsSec s) (hu : IsSec u) (h : wpList Try.prog ops Q rest (a.put o.dst (.bool (s == u))) w) : wpList Try.prog ops Q (o :: rest) a w := by
  refine wpList_plain hg fun K' hK' => ?_
  have e1 := secEq (P := Try.prog) w 90 5 Try.underlying90 Try.underlying5 size8 hs hu
  have e2 : (eqGuard .eql 90 x y (secV s) (secV u)).run Try.prog w = .ok () w := run_eqGuard_agg w .eql 90 x y _ _ guardS
  unfold Oper.wp
  simp only [execOp, hop, hx, hy, Sem.run_bind, e1, e2, Result.andThen, Sem.run_pure]
  exact hK' _ _ h
def updS (on : Int → Sec) (i : Int) (s : Sec) : Int → Sec := fun j => if j = i then s else on j
set_option maxRecDepth 100000 in
set_option maxHeartbeats 1000000 in
theorem settle_none {w : World} {d b1 b2 N : Nat} {on : Int → Sec} {c : Int → Option Sec} (h : IsD w d b1 b2 N on c) (i : Int) (hb0 : -9223372036854775808 ≤ i) (hb1 : i < 9223372036854775808) (hci : c i = none) :
    Calls Try.prog 44 #[pD d, .int .i64 i] w fun e w' => e = .returned (.tuple #[]) ∧ Below w.heap.size w w' := by
  have zz := zlit
  obtain ⟨c0, c1, c2, l0, l1, l2, d1, d2, d3⟩ := h.cells
  have HM := hid h.2.2.2.2.1
  have EC := hid hci
  clear h hci c0 c1
  go_enter Try.func44, Try.ntmps44
  go_wp2_with (first
      | (at_lookup; refine wpList_look_ok _ rfl _ _ rfl b2 N c rfl HM.out i rfl hb0 hb1 ?_; rw [EC.out]; simp only [Option.getD_none, Option.isSome_none])
      | (refine wpList_storeS _ rfl _ _ _ rfl sizeS _ rfl (by simp) zsec rfl zsec_is.1 _ (by simp; decide) ?_))
  exact bodyPost_ret (v := .tuple #[]) (by simp [results, Try.results44, go_sem]) rfl ⟨rfl, (Below.refl _ _).alloc (Nat.le_refl _) _⟩
set_option maxRecDepth 100000 in
set_option maxHeartbeats 2000000 in
theorem settle_some {w : World} {d b1 b2 N : Nat} {on : Int → Sec} {c : Int → Option Sec} (h : IsD w d b1 b2 N on c) (i : Int) {s : Sec} (hci : c i = some s) :
    Calls Try.prog 44 #[pD d, .int .i64 i] w fun e w' => e = .returned (.tuple #[]) ∧ IsD w' d b1 b2 N (updS on i s) (upd c i none) ∧ Out (fun k => k = b1 ∨ k = b2) w w' ∧
      ∀ r n D left cnt, r ≠ b1 → w.ranges Try.prog 3 secR b2 r n D left cnt → ∃ cnt', w'.ranges Try.prog 3 secR b2 r n (D.del (ky i)) (fun z => left z && !z.sameKey (ky i)) cnt' ∧ cnt' ≤ cnt := by
  have zz := zlit
  obtain ⟨hs, h0, h1⟩ := h.2.2.2.2.1.2 i s hci
  have hb := bd_key h0 h1 h.2.2.2.1
  obtain ⟨c0, c1, c2, l0, l1, l2, d1, d2, d3⟩ := h.cells
  have HM := hid h.2.2.2.2.1
  have EC := hid hci
  have H := hid h
  have B0 : Hid (Out (fun _ => False) w (w.alloc (.cells (s.map by8).toArray 90))) := (Out.refl _ _).alloc _
  have HR : Hid ((w.alloc (.cells (s.map by8).toArray 90)).heap[w.heap.size]? = some (.cells (s.map by8).toArray 90)) := heap_alloc_new w _
  have HL : Hid (w.heap.size < (w.alloc (.cells (s.map by8).toArray 90)).heap.size) := by show _ < _; simp
  have HM2 : Hid (IsM (w.alloc (.cells (s.map by8).toArray 90)) b2 N c) := HM.out.out B0.out id
  obtain ⟨m, hm, he⟩ := h.2.2.2.2.2
  have HB1 := hid hm
  have HE := hid he
  have G : Hid (∀ w2 : World, (w.alloc (.cells (s.map by8).toArray 90)).mapTurned w2 b2 → Out (fun k => k = b2) w w2 ∧ w2.heap[w.heap.size]? = some (.cells (s.map by8).toArray 90) ∧ IsM w2 b1 N m ∧ w2.cell? ⟨d, 1, none⟩ = some (.map (some b1)) ∧ w.heap.size < w2.heap.size) := by
    intro w2 t2
    have o2 : Out (fun k => k = b2) w w2 := (B0.out.mono (fun _ e => e.elim)).trans (Out.turned t2 rfl)
    have o3 : Out (fun k => k = b2) (w.alloc (.cells (s.map by8).toArray 90)) w2 := Out.turned t2 rfl
    refine ⟨o2, by rw [o3.block _ HL.out (fun e => by omega)]; exact HR.out, HB1.out.out o2 d3, ?_, Nat.lt_of_lt_of_le HL.out o3.size⟩
    rw [← c1]; exact World.cell?_of_block (o2.block d l0 d2)
  have FIN : Hid (∀ w2 w3 : World, ∀ m', IsM w2 b2 N (upd c i none) → Out (fun k => k = b2) w w2 → Out (fun k => k = b1) w2 w3 → IsM w3 b1 N m' → (∀ j, (m' j).getD zsec = updS on i s j) →
      (∀ r n D left cnt, (w.alloc (.cells (s.map by8).toArray 90)).ranges Try.prog 3 secR b2 r n D left cnt → ∃ cnt', w2.ranges Try.prog 3 secR b2 r n (D.del (ky i)) (fun z => left z && !z.sameKey (ky i)) cnt' ∧ cnt' ≤ cnt) →
      IsD w3 d b1 b2 N (updS on i s) (upd c i none) ∧ Out (fun k => k = b1 ∨ k = b2) w w3 ∧
      ∀ r n D left cnt, r ≠ b1 → w.ranges Try.prog 3 secR b2 r n D left cnt → ∃ cnt', w3.ranges Try.prog 3 secR b2 r n (D.del (ky i)) (fun z => left z && !z.sameKey (ky i)) cnt' ∧ cnt' ≤ cnt) := by
    intro w2 w3 m' k1 k2 k3 k4 k5 k6
    obtain ⟨e1, e2, e3, e4, e5, _, _, _⟩ := H.out
    have o : Out (fun k => k = b1 ∨ k = b2) w w3 := (k2.mono (fun _ e => Or.inr e)).trans (k3.mono (fun _ e => Or.inl e))
    refine ⟨⟨by rw [o.block d (lt_blk e1) (by omega)]; exact e1, e2, e3, e4, k1.out k3 (by omega), m', k4, fun j => (k5 j).symm⟩, o, ?_⟩
    intro r n D left cnt hr hrg
    obtain ⟨cnt', q1, q2⟩ := k6 r n D left cnt (ranges_out hrg B0.out id id)
    exact ⟨cnt', ranges_out q1 k3 (by omega) hr, q2⟩
  clear h hci c0 hm he
  by_cases hz : s = zsec
  · have hq : (s == zsec) = true := by simp [hz]
    have HZ := hid hz
    clear hz
    go_enter Try.func44, Try.ntmps44
    go_wp2_with (first
      | (at_lookup; refine wpList_look_ok _ rfl _ _ rfl b2 N c rfl HM.out i rfl hb.1 hb.2 ?_; rw [EC.out]; simp only [Option.getD_some, Option.isSome_some])
      | (refine wpList_storeS _ rfl _ _ _ rfl sizeS _ rfl (by simp) s rfl hs.1 _ (by simp; decide) ?_)
      | (at_delete; refine wpList_drop _ rfl _ _ rfl b2 N c rfl HM2.out i rfl hb.1 hb.2 ?_; intro w2 m2 t2 r2; have M2 := hid m2; have R2 := hid r2; have G2 := hid (G.out w2 t2); have g4 := G2.out.2.2.2.1; clear m2 t2 r2)
      | (refine wpList_loadS _ rfl _ _ rfl sizeS Try.underlying90 _ rfl s hs.1 _ _ G2.out.2.1 ?_)
      | (refine wpList_eqlS _ rfl _ _ _ rfl s zsec rfl rfl hs zsec_is ?_; rw [hq])
      | (at_delete; refine wpList_drop _ rfl _ _ rfl b1 N m rfl G2.out.2.2.1 i rfl hb.1 hb.2 ?_; intro w3 m3 t3 r3))
    refine bodyPost_ret (v := .tuple #[]) (by simp [results, Try.results44, go_sem]) rfl ⟨rfl, FIN.out w2 w3 _ M2.out G2.out.1 (Out.turned t3 rfl) m3 ?_ R2.out⟩
    intro j
    unfold upd updS
    split
    · rw [HZ.out]; rfl
    · exact (HE.out j).symm
  · have hq : (s == zsec) = false := by simp [hz]
    clear hz
    go_enter Try.func44, Try.ntmps44
    go_wp2_with (first
      | (at_lookup; refine wpList_look_ok _ rfl _ _ rfl b2 N c rfl HM.out i rfl hb.1 hb.2 ?_; rw [EC.out]; simp only [Option.getD_some, Option.isSome_some])
      | (refine wpList_storeS _ rfl _ _ _ rfl sizeS _ rfl (by simp) s rfl hs.1 _ (by simp; decide) ?_)
      | (at_delete; refine wpList_drop _ rfl _ _ rfl b2 N c rfl HM2.out i rfl hb.1 hb.2 ?_; intro w2 m2 t2 r2; have M2 := hid m2; have R2 := hid r2; have G2 := hid (G.out w2 t2); have g4 := G2.out.2.2.2.1; clear m2 t2 r2)
      | (refine wpList_loadS _ rfl _ _ rfl sizeS Try.underlying90 _ rfl s hs.1 _ _ G2.out.2.1 ?_)
      | (refine wpList_eqlS _ rfl _ _ _ rfl s zsec rfl rfl hs zsec_is ?_; rw [hq]))
    have hR : w2.rangeAt w.heap.size 0 (s.map by8) := range_sec G2.out.2.1
    have hu := Try.underlying90
    have hi : (Try.prog.info? 90).map (·.size) = some (s.map by8).length := by rw [sizeS]; simp [hs.1]
    have hl32 : (s.map by8).length = 32 := by simp [hs.1]
    have h1c : ∀ v ∈ s.map by8, v.oneCell' = true := fun v hv => by obtain ⟨x, _, rfl⟩ := List.mem_map.1 hv; rfl
    obtain ⟨w3, hmu, m1, t1⟩ := IsM.store (w := w2.drew) (b := b1) (N := N) (f := m) G2.out.2.2.1 h0 h1 H.out.2.2.2.1 hs
    have o1 : Out (fun k => k = b1) w2 w3 := ((Out.refl _ w2).drew).trans (Out.turned t1 rfl)
    have k1 : w3.cell? ⟨d, 1, none⟩ = some (.map (some b1)) := by
      rw [← g4]; exact World.cell?_of_block (o1.block d (Nat.lt_of_lt_of_le l0 G2.out.1.size) d1)
    have k2 : w3.rangeAt w.heap.size 0 (s.map by8) := range_sec (by rw [o1.block w.heap.size G2.out.2.2.2.2 (fun e => by omega)]; exact G2.out.2.1)
    have M1 := hid m1
    have O1 := hid o1
    unfold secV at hmu
    clear m1 o1 t1
    go_region_held3 (fun w' => w'.cell? ⟨d, 1, none⟩ = some (.map (some b1)) ∧ w'.rangeAt w.heap.size 0 (s.map by8)) (first | go_keep_ranges | exact ⟨k1, k2⟩) (fail)
    go_end0
    refine ⟨rfl, FIN.out w2 w3 _ M2.out G2.out.1 O1.out M1.out ?_ R2.out⟩
    intro j
    unfold upd updS
    split
    · rfl
    · exact (HE.out j).symm
end Go.Proofs.Ytllohapbbmnipad
