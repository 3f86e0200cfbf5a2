/-
  For every operations: what Apply answers is right, behind any operations; Fold makes the same tree.
-/
import Derived.Test.YtloojakcknnilaaGreatSyBp
namespace Go.Proofs.YtloojakcknnilaaGreat
open Go.RowKit Go.ChangeShapes Go.WideShapes Go.ChangeAt Go.Maps Go.Shelf
open Go.ChangeMaps (open_string shut_string)
set_option linter.unusedVariables false
set_option linter.unusedSimpArgs false
set_option maxRecDepth 20000 in
set_option maxHeartbeats 4000000 in
theorem treeStays_walk (a0 : Option Addr) (len0 cap0 : Nat) (ops : List Rec) (lz0 : ops.length = len0) (lc0 : len0 ≤ cap0) (w : World) (h0 : IsOs w a0 ops) :
    Calls Tryz.prog 5 #[.slice a0 len0 cap0] w fun e w' => e = .returned (.bool true) ∧ Below w.heap.size w w' := by
  have NC := hid (fun W => tNew_c W)
  have HO := hid h0
  have HZ := hid lz0
  obtain ⟨n, Hn⟩ : ∃ n, Hid (n = min len0 60) := ⟨_, hid rfl⟩
  have RP : Hid (∀ m, Rt (PmL ops m)) := hid (fun m => pm_rt h0.2.1 m)
  have FE : Hid ((FoldL newL (ops.take 60)).1 = PmL ops n) := hid (by
    rw [pm_fold, List.length_take, lz0, Hn.out, pm_take _ (by omega), Nat.min_comm])
  have FC : Hid (∀ (b : Option Addr) (c : Nat) (W : World), Below w.heap.size w W → Tr W b newL → Calls Tryz.prog 21 #[.slice b 1 c, .slice a0 n cap0] W (FoP W (FoldL newL (ops.take 60)))) := hid (fun b c W hW hT => by
    have := tFold_c b a0 c cap0 newL (ops.take 60) W hT ((h0.later hW).take 60) (by decide) (by rw [List.length_take]; omega)
    rw [newEr, List.length_take, lz0, Nat.min_comm, ← Hn.out] at this
    exact this)
  have hn0 : n ≤ len0 := by have := Hn.out; omega
  have hn60 : n ≤ 60 := by have := Hn.out; omega
  have LC := hid (fun W => tlive_c W)
  clear h0 lz0
  go_enter Tryz.func5, Tryz.ntmps5
  go_wp2_with (go_at_call 24; refine (NC.out w).mono ?_; rintro _ w1 ⟨a1, c1, rfl, t1, hb1⟩; have T1 := hid t1; have B1 := hid hb1; clear t1 hb1)
  go_loopg [3, 4] n (fun gk v3 v4 wr => ∃ (m : Nat) (a : Option Addr) (c : Nat) (L : List Nd), m + gk = n ∧ v4 = .int .i64 m ∧ v3 = .slice a L.length c ∧ Hid (TrE wr a L (PmL ops m)) ∧ Hid (Below w.heap.size w wr))
  case atStart => exact ⟨0, a1, c1, newL, by omega, rfl, rfl, hid ⟨T1.out, rfl⟩, B1⟩
  case round =>
    clear T1 B1
    obtain ⟨m, a, c, L, hm2, rfl, rfl, TX, BX⟩ := hrel
    by_cases hlt : m < n
    · have hl1 : (m : Int) < (len0 : Int) := by omega
      have hl2 : (m : Int) < 60 := by omega
      have hln : m < ops.length := by rw [HZ.out]; omega
      obtain ⟨b', off, rfl, _⟩ := HO.out.2.2 (by omega)
      have hO := HO.out.later BX.out
      have hc := hO.at (i := m) hln
      have WF := hid (hO.wf (i := m) hln)
      have HPS := hid (pm_succ ops hln)
      have few := (RP.out m).few
      clear hO hln
      generalize ops.getD m Rec.no = o at *
      have AC := hid (apply_c c o wr TX.out (by omega) WF.out)
      have NO := hid (ApplyL_no (l := PmL ops m) (o := o))
      have YS : Hid ((ApplyL (PmL ops m) o).1 = 0 → Rt (ApplyL (PmL ops m) o).2) := hid (ApplyL_rt WF.out)
      obtain ⟨⟨ce, Lr⟩, Hr⟩ : ∃ r, Hid (ApplyL (PmL ops m) o = r) := ⟨_, hid rfl⟩
      rw [Hr.out] at AC HPS NO YS
      simp only at HPS NO YS
      obtain ⟨k, fid, dir, nm, tof, nm2, md, dt, sn⟩ := o
      have c0 := hc 0 _ rfl
      rw [Nat.add_zero] at c0
      have c1 := hc 1 _ rfl
      have c2 := hc 2 _ rfl
      have c3 := hc 3 _ rfl
      have c4 := hc 4 _ rfl
      have c5 := hc 5 _ rfl
      have c6 := hc 6 _ rfl
      have c7 := hc 7 _ rfl
      clear hc few
      simp only [Rec.opV] at AC
      by_cases he : ce = 0
      · subst he
        have RR := hid (YS.out rfl)
        have PN : Hid (PmL ops (m + 1) = Lr) := hid (by rw [HPS.out, if_pos rfl])
        clear NO YS HPS Hr
        go_wp2_with (first
          | (go_at_call 14; refine RC.out.mono ?_; rintro _ w3 ⟨rfl, hb3⟩; have B3 := hid (B2.out.trans (hb3.mono B2.out.size)); have T3 := hid (T2.out.later hb3); clear hb3)
          | (go_at_call 10; refine AC.out.mono ?_; rintro _ w2 ⟨a2, c2', L2, rfl, t2, hb2⟩; have T2 := hid t2; have B2 := hid (BX.out.trans (hb2.mono BX.out.size)); have RC : Hid (Calls Tryz.prog 14 #[.slice a2 L2.length c2'] w2 fun e w' => e = .returned (.bool true) ∧ Below w2.heap.size w2 w') := hid (by (have h9 := rightT_c a2 c2' L2 w2 t2.1.1 (by rw [t2.len]; have := RR.out.few; simp only; omega)); (rw [← rightD_er, t2.2, rightD_rt.2 RR.out] at h9); exact h9); clear t2 hb2))
        go_roundg (gk - 1)
        case measure => omega
        case rel => exact ⟨m + 1, a2, c2', L2, by omega, by go_num, rfl, hid (by rw [PN.out]; exact T3.out), B3⟩
      · have heb : (ce != 0) = true := by simp [he]
        have LN := hid (NO.out he)
        have PN : Hid (PmL ops (m + 1) = PmL ops m) := hid (by rw [HPS.out, if_neg he])
        clear NO YS HPS
        go_wp2_with (go_at_call 10; refine AC.out.mono ?_; rintro _ w2 ⟨a2, c2', L2, rfl, t2, hb2⟩; have hl0 : L2.length = 0 := (by rw [t2.len]; simp only; rw [LN.out]; rfl); have B2 := hid (BX.out.trans (hb2.mono BX.out.size)); have T2 := hid (TX.out.later hb2); clear t2 hb2)
        go_roundg (gk - 1)
        case measure => omega
        case rel => exact ⟨m + 1, a, c, L, by omega, by go_num, rfl, hid (by rw [PN.out]; exact T2.out), B2⟩
    · have em : m = n := by omega
      subst em
      have FT : Hid (∀ (b : Option Addr) (c' : Nat) (U : List Nd) (W : World), Below wr.heap.size wr W → TrE W b U (PmL ops m) → Calls Tryz.prog 25 #[.slice a L.length c, .slice b U.length c'] W fun e w' => e = .returned (.bool true) ∧ Below W.heap.size W w') := hid (fun b c' U W hW hU => by
        have few := (RP.out m).few
        refine (tSame_c a b c c' L U W (TX.out.later hW).1 hU.1 (by rw [TX.out.len]; omega) (by rw [hU.len]; omega)).mono ?_
        rintro e w' ⟨⟨r, rfl, hr⟩, hb⟩
        exact ⟨by rw [hr.2 (TX.out.2.trans hU.2.symm)], hb⟩)
      by_cases q60 : 60 < len0
      · have q1 : (60 : Int) < (len0 : Int) := by omega
        have q2 : (60 : Int) ≤ (cap0 : Int) := by omega
        obtain rfl : m = 60 := by have := Hn.out; omega
        have q3 : ¬ ((60 : Nat) : Int) < 60 := by omega
        go_wp2_with (first
          | (go_at_call 25; refine SC.out.mono ?_; rintro _ w6 ⟨rfl, hb6⟩; have B6 := hid (B5.out.trans (hb6.mono B5.out.size)); clear hb6)
          | (go_at_call 12; refine (LC.out _).mono ?_; rintro _ w5 ⟨rfl, hb5⟩; have B5 := hid (B4.out.trans (hb5.mono B4.out.size)); have SC := hid (FT.out a4 c4 L4 w5 (W4.out.trans (hb5.mono W4.out.size)) (T4.out.later hb5)); clear hb5)
          | (go_at_call 21; refine (FC.out a3 c3 w3 B3.out T3.out).mono ?_; rintro _ w4 ⟨a4, c4, L4, b4, d4, rfl, t4, e4, z4, hb4⟩; have T4 : Hid (TrE w4 a4 L4 (PmL ops 60)) := hid ⟨t4, e4.trans FE.out⟩; have B4 := hid (B3.out.trans (hb4.mono B3.out.size)); have W4 := hid (W3.out.trans (hb4.mono W3.out.size)); clear t4 e4 z4 hb4)
          | (go_at_call 24; refine (NC.out _).mono ?_; rintro _ w3 ⟨a3, c3, rfl, t3, hb3⟩; have T3 := hid t3; have B3 := hid (BX.out.trans (hb3.mono BX.out.size)); have W3 := hid hb3; clear t3 hb3))
        go_ret
        exact ⟨by first | rfl | simp, B6.out⟩
      · have q1 : decide ((60 : Int) < (len0 : Int)) = false := decide_eq_false (by omega)
        have em : m = len0 := by have := Hn.out; omega
        subst em
        have q3 : ¬ (m : Int) < (m : Int) := by omega
        go_wp2_with (first
          | (go_at_call 25; refine SC.out.mono ?_; rintro _ w6 ⟨rfl, hb6⟩; have B6 := hid (B5.out.trans (hb6.mono B5.out.size)); clear hb6)
          | (go_at_call 12; refine (LC.out _).mono ?_; rintro _ w5 ⟨rfl, hb5⟩; have B5 := hid (B4.out.trans (hb5.mono B4.out.size)); have SC := hid (FT.out a4 c4 L4 w5 (W4.out.trans (hb5.mono W4.out.size)) (T4.out.later hb5)); clear hb5)
          | (go_at_call 21; refine (FC.out a3 c3 w3 B3.out T3.out).mono ?_; rintro _ w4 ⟨a4, c4, L4, b4, d4, rfl, t4, e4, z4, hb4⟩; have T4 : Hid (TrE w4 a4 L4 (PmL ops m)) := hid ⟨t4, e4.trans FE.out⟩; have B4 := hid (B3.out.trans (hb4.mono B3.out.size)); have W4 := hid (W3.out.trans (hb4.mono W3.out.size)); clear t4 e4 z4 hb4)
          | (go_at_call 24; refine (NC.out _).mono ?_; rintro _ w3 ⟨a3, c3, rfl, t3, hb3⟩; have T3 := hid t3; have B3 := hid (BX.out.trans (hb3.mono BX.out.size)); have W3 := hid hb3; clear t3 hb3))
        go_ret
        exact ⟨by first | rfl | simp, B6.out⟩
/-! ### The row of TreeStays -/
theorem treeStays_own : ownKnob Tryz.prog.godebug = none := by kernel_rfl
theorem treeStays_laidOut : laidOutB Tryz.prog = true := by kernel_rfl
set_option maxRecDepth 100000 in
theorem treeStays_lifted (os : Os) (started : os.Started) (H : Type) (enc : TypeId × Value → H) :
    ReturnsInHanded {} Tryz.checked os 5 .any (Rows.treeStaysSpec.pre6 enc Tryz.prog Tryz.f5 Rows.treeStaysRow.domain false) (Rows.treeStaysSpec.post enc Tryz.prog Tryz.f5 false true false false) := by
  refine returnsInHanded_of_change (C := Tryz.checked) treeStays_own started (by kernel_rfl) Tryz.func5
    (ChangeSpec.witness6 (enc := enc) (C := Tryz.checked) false ⟨#[], #[.slice none 0 0], []⟩ 8 (by kernel_rfl) (by kernel_rfl) (by kernel_rfl) (by kernel_rfl)) ?_
  intro W base args ds gs before hval0 hW hcnd _
  have hval : ∀ (j : Nat) t v, Tryz.f5.params[j]? = some t → args[j]? = some v → Value.okWide Tryz.prog W .any base t v := hval0
  have hW' := hW
  obtain ⟨p, q, hA0, hV, rfl, hfz, hnd⟩ := hW
  have hA : DataW.TrodAll enc Tryz.prog W 0 (fun _ => true) true Tryz.f5.params.toList args.toList ds p := hA0
  rw [Tryz.params5] at hA hval
  obtain ⟨v0, vs0, d0, ds0, p0, q0, hargs, rfl, rfl, h0, r0⟩ := trodAll_cons hA
  obtain ⟨rfl, rfl, rfl⟩ := trodAll_nil r0
  obtain rfl : args = #[v0] := by cases args; simp_all
  obtain ⟨rfl, rfl⟩ := trodVars_none hV
  have k0 := h0
  have lt0 : ∀ x ∈ p0, x.block < W.heap.size := by obtain ⟨m, hm⟩ := k0; exact DataW.trod_lt m _ _ _ hm
  obtain ⟨a0, len0, cap0, rfl⟩ := okWide_slice Tryz.underlying41 (hval 0 41 v0 rfl rfl)
  obtain ⟨z0, lz0, w0, lc0⟩ := isOs_of Tryz.underlying41 h0
  clear hA0 hval0
  refine (treeStays_walk a0 len0 cap0 z0 lz0 lc0 W w0).mono fun e W' ⟨he, bel⟩ => ?_
  subst he
  exact ⟨_, rfl, _, _, _, [], _, [], hW', trodAll_mk1 (shut_bool Tryz.underlying4 _), (trodAll_cons_mk (Below.trod treeStays_laidOut (by kernel_rfl) (of_decide_eq_true (by kernel_rfl)) k0 bel lt0) trodAll_mk0), rfl, bel.frame _, fun h => by cases h⟩
theorem treeStays_over : Rows.treeStaysRow.holds Tryz.pinned (OpenSpec.ofChange Rows.treeStaysSpec) :=
  OpenClaim.holds_of_wide 5 Tryz.f5 rfl rfl rfl rfl rfl rfl rfl ⟨rfl, rfl, rfl, rfl, rfl⟩ rfl rfl rfl rfl rfl (by kernel_rfl) Tryz.func5 (by kernel_rfl)
    (of_decide_eq_true (by kernel_rfl)) (by unfold Func.isWrapper; first | (rw [if_pos (by decide +kernel)]; kernel_rfl) | (rw [if_neg (by decide +kernel)]; exact ⟨rfl, rfl⟩))
    (fun os started H enc _ => treeStays_lifted os started H enc)
/-- The statement. -/
theorem treeStays_holds : Rows.TreeStaysSaid := treeStays_over
#print axioms treeStays_holds
end Go.Proofs.YtloojakcknnilaaGreat
