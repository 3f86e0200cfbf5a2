/-
  For every records (the first forty are looked at), every number and every object: Cut and Drop, Touches and Ops are what the document says, and the first records and the others are all.
-/
import Derived.Test.YtegkmkbbmdplkaaCApp
namespace Go.Proofs.Ytegkmkbbmdplkaa
open Go.RowKit Go.ChangeShapes Go.WideShapes Go.ChangeAt Go.Maps Go.Shelf
open Go.ChangeMaps (open_string shut_string)
set_option linter.unusedVariables false
set_option linter.unusedSimpArgs false
set_option maxRecDepth 20000 in
set_option maxHeartbeats 4000000 in
theorem cmlCuts_walk (a : Option Addr) (len cap : Nat) (l0 : List Rec) (hl : l0.length = len) (hc : len ≤ cap) (z : Int) (hz : (Lit.int .i64 z).wf = true) (f : Int) (hf : (Lit.int .u32 f).wf = true) (w : World) (h : IsL w a l0) :
    Calls Try.prog 4 #[.slice a len cap, .int .i64 z, .int .u32 f] w fun e w' => e = .returned (.bool true) ∧ Below w.heap.size w w' := by
  have FC := hid (few8_c a len cap l0 w hl hc h)
  have hI := h.front 40
  have hn : (l0.take 40).length ≤ 40 := by rw [List.length_take]; omega
  clear h hl hz hf
  generalize l0.take 40 = l at *
  have CC := hid (cut_c a cap l z w hI (by omega))
  have HWC := hid (cut_wf hI.2.1 z).1
  have HWD := hid (cut_wf hI.2.1 z).2
  have HCD := hid (cut_drop z l)
  have hlc : (cutF z l).length ≤ 40 := Nat.le_trans (keep_len _ _ _) hn
  have hld : (dropF z l).length ≤ 40 := Nat.le_trans (keep_len _ _ _) hn
  have HI := hid hI
  have DC0 := hid (fun W (hW : Below w.heap.size w W) => drop_c a cap l z W (hI.later hW) (by omega))
  have RC0 := hid (fun W (hW : Below w.heap.size w W) => rcut_c a cap l z W (hI.later hW) (by omega))
  have RD0 := hid (fun W (hW : Below w.heap.size w W) => rdrop_c a cap l z W (hI.later hW) (by omega))
  clear hI hc
  generalize cutF z l = A at *
  generalize dropF z l = D at *
  go_enter Try.func4, Try.ntmps4
  go_wp2_with (first
    | (go_at_call 15; refine S2.out.mono ?_; rintro _ w6 ⟨rfl, hb6⟩; have B6 := hid (B5.out.trans (hb6.mono B5.out.size)); have IA6 := hid (IA5.out.later hb6); have ID6 := hid (ID5.out.later hb6); clear hb6 S2 B5 IA5 ID5)
    | (go_at_call 17; refine RD.out.mono ?_; rintro _ w5 ⟨v5, rfl, hO5, hb5⟩; obtain ⟨a5, c5, rfl, hI5, _, _⟩ := isL_own hO5 HWD.out; have B5 := hid (B4.out.trans (hb5.mono B4.out.size)); have IA5 := hid (IA4.out.later hb5); have ID5 := hid (ID4.out.later hb5); have S2 := hid (rsame_c a2 a5 c2 c5 D D w5 ID5.out hI5 (by omega) (by omega)); rw [eqL_t (rfl : D = D)] at S2; clear hO5 hI5 hb5 RD B4 IA4 ID4)
    | (go_at_call 15; refine S1.out.mono ?_; rintro _ w4 ⟨rfl, hb4⟩; have B4 := hid (B3.out.trans (hb4.mono B3.out.size)); have IA4 := hid (IA3.out.later hb4); have ID4 := hid (ID3.out.later hb4); have RD := hid (RD0.out w4 B4.out); clear hb4 S1 B3 IA3 ID3)
    | (go_at_call 16; refine RC.out.mono ?_; rintro _ w3 ⟨v3, rfl, hO3, hb3⟩; obtain ⟨a3, c3, rfl, hI3, _, _⟩ := isL_own hO3 HWC.out; have B3 := hid (B2.out.trans (hb3.mono B2.out.size)); have IA3 := hid (IA2.out.later hb3); have ID3 := hid (ID2.out.later hb3); have S1 := hid (rsame_c a1 a3 c1 c3 A A w3 IA3.out hI3 (by omega) (by omega)); rw [eqL_t (rfl : A = A)] at S1; clear hO3 hI3 hb3 RC B2 IA2 ID2)
    | (go_at_call 14; refine DC.out.mono ?_; rintro _ w2 ⟨v2, rfl, hO2, hb2⟩; obtain ⟨a2, c2, rfl, hI2, _, hN2⟩ := isL_own hO2 HWD.out; have B2 := hid (B1.out.trans (hb2.mono B1.out.size)); have IA2 := hid (IA1.out.later hb2); have ID2 := hid hI2; have N2 := hid hN2; have RC := hid (RC0.out w2 B2.out); clear hO2 hI2 hb2 hN2 DC B1 IA1)
    | (go_at_call 13; refine CC.out.mono ?_; rintro _ w1 ⟨v1, rfl, hO1, hb1⟩; obtain ⟨a1, c1, rfl, hI1, _, hN1⟩ := isL_own hO1 HWC.out; have B1 := hid hb1; have IA1 := hid hI1; have N1 := hid hN1; have DC := hid (DC0.out w1 B1.out); clear hO1 hI1 hb1 hN1 CC)
    | (go_at_call 6; refine FC.out.mono ?_; rintro _ wf ⟨rfl, hwf⟩; have hwf2 := hwf.symm; clear hwf; subst hwf2))
  clear FC DC0 RC0 RD0
  obtain ⟨n, hnn⟩ : ∃ n, n = l.length := ⟨_, rfl⟩
  rw [← hnn] at hn ⊢
  have HNN := hid hnn
  clear hnn
  have HI6 := hid (HI.out.later B6.out)
  go_loopg [9] n (fun g v wr => ∃ m : Nat, m + g = n ∧ v = .int .i64 m ∧ Hid (Below w6.heap.size w6 wr))
  case atStart => exact ⟨0, by omega, rfl, hid (Below.refl _ _)⟩
  case round =>
    obtain ⟨m, hm, rfl, HB⟩ := hrel
    by_cases hlt : m < n
    · have hltI : (m : Int) < n := by omega
      have hil := HI6.out.later HB.out
      obtain ⟨b, off, rfl, _⟩ := hil.2.2 (by rw [← HNN.out]; omega)
      have hx := hil.at (i := m) (by rw [← HNN.out]; exact hlt)
      clear hil
      generalize l.getD m Rec.no = x at *
      have x0 : ∀ w', Below wr.heap.size wr w' → w'.cell? ⟨b, off + m * 9, none⟩ = some (.int .u8 x.k) := fun w' h => (hx.later h) 0 _ rfl
      have x1 : ∀ w', Below wr.heap.size wr w' → w'.cell? ⟨b, off + m * 9 + 1, none⟩ = some (.int .u32 x.fid) := fun w' h => (hx.later h) 1 _ rfl
      have x2 : ∀ w', Below wr.heap.size wr w' → w'.cell? ⟨b, off + m * 9 + 2, none⟩ = some (.int .u32 x.dir) := fun w' h => (hx.later h) 2 _ rfl
      have x3 : ∀ w', Below wr.heap.size wr w' → w'.cell? ⟨b, off + m * 9 + 3, none⟩ = some (.string x.nm) := fun w' h => (hx.later h) 3 _ rfl
      have x4 : ∀ w', Below wr.heap.size wr w' → w'.cell? ⟨b, off + m * 9 + 4, none⟩ = some (.int .u32 x.to) := fun w' h => (hx.later h) 4 _ rfl
      have x5 : ∀ w', Below wr.heap.size wr w' → w'.cell? ⟨b, off + m * 9 + 5, none⟩ = some (.string x.nm2) := fun w' h => (hx.later h) 5 _ rfl
      have x6 : ∀ w', Below wr.heap.size wr w' → w'.cell? ⟨b, off + m * 9 + 6, none⟩ = some (.int .u16 x.md) := fun w' h => (hx.later h) 6 _ rfl
      have x7 : ∀ w', Below wr.heap.size wr w' → w'.cell? ⟨b, off + m * 9 + 7, none⟩ = some (.string x.dt) := fun w' h => (hx.later h) 7 _ rfl
      have x8 : ∀ w', Below wr.heap.size wr w' → w'.cell? ⟨b, off + m * 9 + 8, none⟩ = some (.int .u64 x.sn) := fun w' h => (hx.later h) 8 _ rfl
      have TC0 := fun W => touches_c x f W
      have UC0 := fun W => rtouches_c x f W
      cases ht : touchF x f
      all_goals
        rw [ht] at TC0 UC0
        have TC := hid TC0
        have UC := hid UC0
        clear TC0 UC0 hx
        go_wp2
        refine wp_region_class (by kernel_rfl) (by kernel_rfl) ?_
        repeat (first
          | go_big_quiet_skip
          | (go_big_quiet_want
             apply quiet_by
             · intro w7 hw7
               have x0 := x0 w7 hw7
               have x1 := x1 w7 hw7
               have x2 := x2 w7 hw7
               have x3 := x3 w7 hw7
               have x4 := x4 w7 hw7
               have x5 := x5 w7 hw7
               have x6 := x6 w7 hw7
               have x7 := x7 w7 hw7
               have x8 := x8 w7 hw7
               go_simp
               first
                 | rfl
                 | (go_at_call 18; exact class_of hw7 (TC.out _))
                 | (go_at_call 19; exact class_of hw7 (UC.out _))
             · go_simp; rfl
             go_big_quiet_on))
        refine wpQuiet_nil ?_
        intro w8 hw8
        have HB8 := hid (HB.out.trans (hw8.mono HB.out.size))
        clear x0 x1 x2 x3 x4 x5 x6 x7 x8 hw8
        go_wp2
        go_roundg (gk - 1)
        case measure => omega
        case rel => exact ⟨m + 1, by omega, by go_num, HB8⟩
    · have em : m = n := by omega
      subst em
      have hge : ¬ (m : Int) < m := by omega
      have OC := hid (ops_c a cap l wr (HI6.out.later HB.out) (by rw [← HNN.out]; omega))
      rw [← HNN.out] at OC
      go_wp2_with (go_at_call 20; refine OC.out.mono ?_; rintro _ w9 ⟨v9, rfl, hO9, hb9⟩; obtain ⟨a9, c9, rfl⟩ := own_shapeR hO9; have O9 := hid hO9; have B9 := hid (HB.out.trans (hb9.mono HB.out.size)); clear hO9 hb9)
      clear OC HB hge
      have hm2 : m ≤ 40 := hn
      go_loopg [11] m (fun g v wr => ∃ i : Nat, i + g = m ∧ v = .int .i64 i ∧ Hid (Below w9.heap.size w9 wr))
      case atStart => exact ⟨0, by omega, rfl, hid (Below.refl _ _)⟩
      case round =>
        obtain ⟨i, hi2, rfl, HB⟩ := hrel
        by_cases hlt : i < m
        · have hltI : (i : Int) < m := by omega
          have hgeI : ¬ (m : Int) ≤ i := by omega
          have hil := (HI6.out.later B9.out).later HB.out
          obtain ⟨b, off, rfl, _⟩ := hil.2.2 (by rw [← HNN.out]; omega)
          have hx := hil.at (i := i) (by rw [← HNN.out]; exact hlt)
          have HXW := hid (fun W => op_equal W (hil.wf (i := i) (by rw [← HNN.out]; exact hlt)))
          have hO := O9.out
          rw [HNN.out] at hO
          obtain ⟨g, rfl, hy⟩ := own_opAt (own_latR hO HB.out) (k := i) (by rw [← HNN.out]; exact hlt)
          clear hil hO
          generalize l.getD i Rec.no = x at *
          have hq := HXW.out
          unfold Rec.opV at hq
          have x0 : ∀ w', Below wr.heap.size wr w' → w'.cell? ⟨b, off + i * 9, none⟩ = some (.int .u8 x.k) := fun w' h => (hx.later h) 0 _ rfl
          have x1 : ∀ w', Below wr.heap.size wr w' → w'.cell? ⟨b, off + i * 9 + 1, none⟩ = some (.int .u32 x.fid) := fun w' h => (hx.later h) 1 _ rfl
          have x2 : ∀ w', Below wr.heap.size wr w' → w'.cell? ⟨b, off + i * 9 + 2, none⟩ = some (.int .u32 x.dir) := fun w' h => (hx.later h) 2 _ rfl
          have x3 : ∀ w', Below wr.heap.size wr w' → w'.cell? ⟨b, off + i * 9 + 3, none⟩ = some (.string x.nm) := fun w' h => (hx.later h) 3 _ rfl
          have x4 : ∀ w', Below wr.heap.size wr w' → w'.cell? ⟨b, off + i * 9 + 4, none⟩ = some (.int .u32 x.to) := fun w' h => (hx.later h) 4 _ rfl
          have x5 : ∀ w', Below wr.heap.size wr w' → w'.cell? ⟨b, off + i * 9 + 5, none⟩ = some (.string x.nm2) := fun w' h => (hx.later h) 5 _ rfl
          have x6 : ∀ w', Below wr.heap.size wr w' → w'.cell? ⟨b, off + i * 9 + 6, none⟩ = some (.int .u16 x.md) := fun w' h => (hx.later h) 6 _ rfl
          have x7 : ∀ w', Below wr.heap.size wr w' → w'.cell? ⟨b, off + i * 9 + 7, none⟩ = some (.string x.dt) := fun w' h => (hx.later h) 7 _ rfl
          have y0 : ∀ w', Below wr.heap.size wr w' → w'.cell? ⟨g, i * 8, none⟩ = some (.int .u8 x.k) := fun w' h => cell_later h (hy 0 _ rfl)
          have y1 : ∀ w', Below wr.heap.size wr w' → w'.cell? ⟨g, i * 8 + 1, none⟩ = some (.int .u32 x.fid) := fun w' h => cell_later h (hy 1 _ rfl)
          have y2 : ∀ w', Below wr.heap.size wr w' → w'.cell? ⟨g, i * 8 + 2, none⟩ = some (.int .u32 x.dir) := fun w' h => cell_later h (hy 2 _ rfl)
          have y3 : ∀ w', Below wr.heap.size wr w' → w'.cell? ⟨g, i * 8 + 3, none⟩ = some (.string x.nm) := fun w' h => cell_later h (hy 3 _ rfl)
          have y4 : ∀ w', Below wr.heap.size wr w' → w'.cell? ⟨g, i * 8 + 4, none⟩ = some (.int .u32 x.to) := fun w' h => cell_later h (hy 4 _ rfl)
          have y5 : ∀ w', Below wr.heap.size wr w' → w'.cell? ⟨g, i * 8 + 5, none⟩ = some (.string x.nm2) := fun w' h => cell_later h (hy 5 _ rfl)
          have y6 : ∀ w', Below wr.heap.size wr w' → w'.cell? ⟨g, i * 8 + 6, none⟩ = some (.int .u16 x.md) := fun w' h => cell_later h (hy 6 _ rfl)
          have y7 : ∀ w', Below wr.heap.size wr w' → w'.cell? ⟨g, i * 8 + 7, none⟩ = some (.string x.dt) := fun w' h => cell_later h (hy 7 _ rfl)
          have hg := op_guard
          clear hx HXW
          go_wp2
          refine wp_region_class (by kernel_rfl) (by kernel_rfl) ?_
          repeat (first
            | go_big_quiet_skip
            | (go_big_quiet_want
               apply quiet_by
               · intro w7 hw7
                 have x0 := x0 w7 hw7
                 have x1 := x1 w7 hw7
                 have x2 := x2 w7 hw7
                 have x3 := x3 w7 hw7
                 have x4 := x4 w7 hw7
                 have x5 := x5 w7 hw7
                 have x6 := x6 w7 hw7
                 have x7 := x7 w7 hw7
                 have y0 := y0 w7 hw7
                 have y1 := y1 w7 hw7
                 have y2 := y2 w7 hw7
                 have y3 := y3 w7 hw7
                 have y4 := y4 w7 hw7
                 have y5 := y5 w7 hw7
                 have y6 := y6 w7 hw7
                 have y7 := y7 w7 hw7
                 first
                   | exact qgeqR _ _ _ i m rfl rfl rfl hlt hw7
                   | (go_simp; rfl)
               · go_simp; rfl
               go_big_quiet_on))
          refine wpQuiet_nil ?_
          intro w8 hw8
          have HB8 := hid (HB.out.trans (hw8.mono HB.out.size))
          clear x0 x1 x2 x3 x4 x5 x6 x7 y0 y1 y2 y3 y4 y5 y6 y7 hw8 hy
          go_wp2
          go_roundg (gk - 1)
          case measure => omega
          case rel => exact ⟨i + 1, by omega, by go_num, HB8⟩
        · have em : i = m := by omega
          subst em
          have hge : ¬ (i : Int) < i := by omega
          have LC := hid (clive_c wr)
          have Bw := hid (B6.out.trans ((B9.out.trans (HB.out.mono B9.out.size)).mono B6.out.size))
          have IAr := hid (IA6.out.later (B9.out.trans (HB.out.mono B9.out.size)))
          have IDr := hid (ID6.out.later (B9.out.trans (HB.out.mono B9.out.size)))
          clear HB
          go_wp2_with (first
            | (go_at_call 8; refine SC.out.mono ?_; rintro _ w14 ⟨rfl, hb14⟩; have B14 := hid (B13.out.trans (hb14.mono B13.out.size)); clear hb14)
            | (at_builtin; refine wpList_appendL _ (by rfl) _ _ rfl w10.heap.size _ _ A rfl O12.out a2 _ c2 D rfl rfl ID12.out N2.out (by omega) (Nat.le_trans (Nat.le_refl _) B12.out.size) ?_; intro v13 w13 hO13 hg13
               have b13 := below_grownR B12.out O12.out (Nat.le_refl _) B12.out.size hg13
               rw [HCD.out, ← List.length_append, HCD.out] at hO13
               obtain ⟨a13, c13, rfl, hI13, _, _⟩ := isL_own hO13 HI.out.2.1
               have B13 := hid (B10.out.trans (b13.mono B10.out.size))
               have SC := hid (same_c a13 a c13 cap l l w13 hI13 (HI.out.later B13.out) (by rw [← HNN.out]; omega) (by rw [← HNN.out]; omega))
               rw [← HNN.out, eqL_t (rfl : l = l)] at SC
               rw [← HNN.out]
               clear hO13 hg13 hI13 b13 O12 B12 ID12)
            | (at_builtin; refine wpList_appendL _ (by rfl) _ _ rfl w10.heap.size _ _ [] rfl O11.out a1 _ c1 A rfl rfl IA11.out N1.out (by omega) B11.out.size ?_; intro v12 w12 hO12 hg12
               have B12 := hid (below_grownR B11.out O11.out (Nat.le_refl _) B11.out.size hg12)
               have ID12 := hid (ID10.out.later B12.out)
               obtain ⟨a12, c12, rfl⟩ := own_shapeR hO12
               rw [List.nil_append, Nat.zero_add] at hO12
               rw [Nat.zero_add]
               have O12 := hid hO12
               clear hO12 hg12 O11 B11 IA11)
            | (go_at_call 7; refine LC.out.mono ?_; rintro _ w10 ⟨rfl, hb10⟩; have B10 := hid (Bw.out.trans (hb10.mono Bw.out.size))
               have B11 := hid (below_one w10 (.cells #[] 37))
               have O11 := hid (own_emptyR w10 w10.heap.size (Nat.le_refl _))
               have ID10 := hid (IDr.out.later hb10)
               have IA11 := hid ((IAr.out.later hb10).later B11.out)
               clear hb10 LC Bw))
          go_ret
          exact ⟨by first | rfl | simp, B14.out⟩
/-! ### The row of CmlCuts -/
theorem cmlCuts_own : ownKnob Try.prog.godebug = none := by kernel_rfl
theorem cmlCuts_laidOut : laidOutB Try.prog = true := by kernel_rfl
set_option maxRecDepth 100000 in
theorem cmlCuts_lifted (os : Os) (started : os.Started) (H : Type) (enc : TypeId × Value → H) :
    ReturnsInHanded {} Try.checked os 4 .any (Rows.cmlCutsSpec.pre6 enc Try.prog Try.f4 Rows.cmlCutsRow.domain false) (Rows.cmlCutsSpec.post enc Try.prog Try.f4 false true false false) := by
  refine returnsInHanded_of_change (C := Try.checked) cmlCuts_own started (by kernel_rfl) Try.func4
    (ChangeSpec.witness6 (enc := enc) (C := Try.checked) false ⟨#[], #[.slice none 0 0, .int .i64 0, .int .u32 0], []⟩ 8 (by kernel_rfl) (by kernel_rfl) (by kernel_rfl) (by kernel_rfl)) ?_
  intro W base args ds gs before hval0 hW hcnd _
  have hval : ∀ (j : Nat) t v, Try.f4.params[j]? = some t → args[j]? = some v → Value.okWide Try.prog W .any base t v := hval0
  have hW' := hW
  obtain ⟨p, q, hA0, hV, rfl, hfz, hnd⟩ := hW
  have hA : DataW.TrodAll enc Try.prog W 0 (fun _ => true) true Try.f4.params.toList args.toList ds p := hA0
  rw [Try.params4] at hA hval
  obtain ⟨v0, vs0, d0, ds0, p0, q0, hargs, rfl, rfl, h0, r0⟩ := trodAll_cons hA
  obtain ⟨v1, vs1, d1, ds1, p1, q1, rfl, rfl, rfl, h1, r1⟩ := trodAll_cons r0
  obtain ⟨v2, vs2, d2, ds2, p2, q2, rfl, rfl, rfl, h2, r2⟩ := trodAll_cons r1
  obtain ⟨rfl, rfl, rfl⟩ := trodAll_nil r2
  obtain rfl : args = #[v0, v1, v2] := by cases args; simp_all
  obtain ⟨rfl, rfl⟩ := trodVars_none hV
  have k0 := h0
  have lt0 : ∀ x ∈ p0, x.block < W.heap.size := by obtain ⟨m, hm⟩ := k0; exact DataW.trod_lt m _ _ _ hm
  obtain ⟨a0, len0, cap0, rfl⟩ := okWide_slice Try.underlying22 (hval 0 22 v0 rfl rfl)
  obtain ⟨z0, lz0, w0, lc0⟩ := isL_of Try.underlying22 h0
  obtain ⟨a1, rfl, rfl, rfl, w1⟩ := open_int Try.underlying3 (hval 1 3 v1 rfl rfl) h1
  obtain ⟨a2, rfl, rfl, rfl, w2⟩ := open_int Try.underlying28 (hval 2 28 v2 rfl rfl) h2
  clear hA0 hval0
  refine (cmlCuts_walk a0 len0 cap0 z0 lz0 lc0 a1 w1 a2 w2 W w0).mono fun e W' ⟨he, bel⟩ => ?_
  subst he
  exact ⟨_, rfl, _, _, _, [], _, [], hW', trodAll_mk1 (shut_bool Try.underlying4 _), (trodAll_cons_mk (Below.trod cmlCuts_laidOut (by kernel_rfl) (of_decide_eq_true (by kernel_rfl)) k0 bel lt0) (trodAll_cons_mk (shut_int Try.underlying3 w1) (trodAll_cons_mk (shut_int Try.underlying28 w2) trodAll_mk0))), rfl, bel.frame _, fun h => by cases h⟩
theorem cmlCuts_over : Rows.cmlCutsRow.holds Try.pinned (OpenSpec.ofChange Rows.cmlCutsSpec) :=
  OpenClaim.holds_of_wide 4 Try.f4 rfl rfl rfl rfl rfl rfl rfl ⟨rfl, rfl, rfl, rfl, rfl⟩ rfl rfl rfl rfl rfl (by kernel_rfl) Try.func4 (by kernel_rfl)
    (of_decide_eq_true (by kernel_rfl)) (by unfold Func.isWrapper; first | (rw [if_pos (by decide +kernel)]; kernel_rfl) | (rw [if_neg (by decide +kernel)]; exact ⟨rfl, rfl⟩))
    (fun os started H enc _ => cmlCuts_lifted os started H enc)
/-- The statement. -/
theorem cmlCuts_holds : Rows.CmlCutsSaid := cmlCuts_over
#print axioms cmlCuts_holds

end Go.Proofs.Ytegkmkbbmdplkaa
