/-
  For every sectors (the first thirty are written) and a deed: Open of that disk is what it says, as the document's one tells, ahead of the deed and behind it.
-/
import Derived.Test.YtfmkgflhgapeoabGM
import Derived.Test.YtfmkgflhgapeoabGF
namespace Go.Proofs.Ytfmkgflhgapeoab
open Go.ChangeShapes Go.WideShapes Go.ChangeAt Go.RowKit Go.Maps
open Go.ChangeMaps (open_string shut_string)
set_option linter.unusedVariables false
set_option linter.unusedSimpArgs false
theorem sizeA32 : (Try.prog.info? 30).map (·.size) = some 32 := by kernel_rfl
theorem pad_sec {zs : List Int} (hb : Jo.Bytes zs) (h : zs.length ≤ 32) : IsSec (Jo.pad zs) := sct_sec (Jo.pad_sct h hb)
set_option maxRecDepth 100000 in
set_option maxHeartbeats 4000000 in
theorem jraw_walk (a : Option Addr) (len cap : Nat) (g : Jo.Gr) (x : De) (w : World) (h : IsG0 w a len g) (hx : x.Ok w) :
    Calls Try.prog 3 #[.slice a len cap, x.val] w fun e w' => e = .returned (.bool true) ∧ Below w.heap.size w w' := by
  obtain ⟨xk, xga, xgl, xgc, xg, xr, xst, xa, xlen, xcap, xzs⟩ := x
  show Calls Try.prog 3 #[.slice a len cap, .agg #[.int .i64 xk, .slice xga xgl xgc, .bool xr, .int .i64 xst, .slice xa xlen xcap]] w _
  have hb0 : Below w.heap.size w (w.alloc (.cells #[.int .i64 xk, .slice xga xgl xgc, .bool xr, .int .i64 xst, .slice xa xlen xcap] 25)) := (Below.refl _ _).alloc (Nat.le_refl _) _
  have HX : Hid (BoxJ (w.alloc (.cells #[.int .i64 xk, .slice xga xgl xgc, .bool xr, .int .i64 xst, .slice xa xlen xcap] 25)) w.heap.size xk xga xgl xgc xr xst xa xlen xcap) := heap_alloc_new w _
  have hXl : w.heap.size < (w.alloc (.cells #[.int .i64 xk, .slice xga xgl xgc, .bool xr, .int .i64 xst, .slice xa xlen xcap] 25)).heap.size := by simp
  have HB0 := hid hb0
  have HXO := hid hx
  have HG := hid h
  have hgl := h.1
  have hgm := h.2.1
  have hby := h.isG.bytes
  have HBY := hid hby
  unfold maxLen at hgm
  have zz := zlit
  have zn : ¬ zsec = [] := by decide
  clear h hx hb0 hby
  go_enter Try.func3, Try.ntmps3
  go_wp2_with fail
  generalize (w.alloc (.cells #[.int .i64 xk, .slice xga xgl xgc, .bool xr, .int .i64 xst, .slice xa xlen xcap] 25)) = W0 at *
  refine (new_c 30 W0 (by omega) (by omega)).mono ?_
  rintro _ w1 ⟨rfl, hD1, hb1, hs1⟩
  have HD1 := hid hD1
  have HX1 := hid (HX.out.later hb1)
  have HB1 := hid (HB0.out.trans (hb1.mono HB0.out.size))
  have HS1 := hid hs1
  clear hD1 hb1 hs1
  go_wp2_with fail
  refine (rnew_c 30 w1 (by omega) (by omega)).mono ?_
  rintro _ w2 ⟨r, rfl, hrl, hR2, hb2⟩
  have HP2 : Hid (Pair w2 (W0.heap.size + 2) W0.heap.size (W0.heap.size + 1) r 30 (fun _ => zsec) (fun _ => none)) := ⟨HD1.out.later hb2, _, [], hR2, fun k hk => by rw [List.getD_eq_getElem?_getD, List.getElem?_replicate, if_pos hk]; rfl, fun i => rfl⟩
  have HX2 := hid (HX1.out.later hb2)
  have HB2 := hid (HB1.out.trans (hb2.mono HB1.out.size))
  have hrw : W0.heap.size < r := by have := HS1.out; omega
  clear hR2 hb2 hrl HD1 HX1 HB1 HS1
  generalize hq1 : W0.heap.size = B1 at *
  generalize hd1 : B1 + 2 = d at *
  generalize hb2e : B1 + 1 = B2 at *
  have hlo : w.heap.size < B1 ∧ w.heap.size < B2 ∧ w.heap.size < r := by omega
  clear hq1 HX HB0
  go_wp2
  go_loopw [7] (fun i wr => ∃ (m : Nat) (on : Int → Sec) (c : Int → Option Sec), m ≤ len ∧ m ≤ 30 ∧ i = .int .i64 m ∧ Hid (Pair wr d B1 B2 r 30 on c) ∧ Hid (BoxJ wr w.heap.size xk xga xgl xgc xr xst xa xlen xcap) ∧ Hid (Below w.heap.size w wr)) (fun i _ => (30 - intOf i).toNat)
  case atStart => exact ⟨0, _, _, by omega, by omega, rfl, HP2, HX2, HB2⟩
  case round =>
    obtain ⟨m, on, c, hm, hm30, rfl, HP, HBX, HB⟩ := hrel
    generalize wr = wo at *
    by_cases hgo : m < len ∧ m < 30
    · obtain ⟨hml, hm3⟩ := hgo
      have hmI : (m : Int) < (len : Int) := by omega
      obtain ⟨b, off, rfl, hc⟩ := HG.out.2.2 (by omega)
      obtain ⟨pa, pc, c1, c2, c3, c4⟩ := hc m hml
      have HC1 : Hid (∀ W, Below w.heap.size w W → W.cell? ⟨b, off + m, none⟩ = some (.slice pa (g.getD m []).length pc)) := fun W hW => cell_later hW c1
      have HC2 := hid c2
      have hzb : Jo.Bytes (g.getD m []) := HBY.out _ (by rw [List.getD, List.getElem?_eq_getElem (by omega)]; exact List.getElem_mem _)
      generalize g.getD m [] = zs at *
      have hYb : Below wo.heap.size wo (wo.alloc (.cells (zsec.map by8).toArray 30)) := (Below.refl _ _).alloc (Nat.le_refl _) _
      have HY0 : Hid (Bx (wo.alloc (.cells (zsec.map by8).toArray 30)) wo.heap.size 30 (fillS (zs.take 32) 0)) := heap_alloc_new wo _
      have HYB := hid hYb
      have htl : (zs.take 32).length ≤ 32 := by rw [List.length_take]; omega
      have hte : ∀ p, p < (zs.take 32).length → (zs.take 32).getD p 0 = zs.getD p 0 := fun p hp => by
        rw [List.length_take] at hp
        simp [List.getD, List.getElem?_take, show p < 32 by omega]
      have HTE := hid hte
      have htn : (zs.take 32).length = min 32 zs.length := by rw [List.length_take]
      have hSec := pad_sec (Jo.bytes_take hzb 32) htl
      have hpm := HP.out.1.2.2.2.2.1
      clear hc c1 c2 hYb hte
      generalize zs.take 32 = ts at *
      have cW := HC1.out _ (HB.out.trans (HYB.out.mono HB.out.size))
      go_wp2
      go_loopw [9] (fun i W => ∃ p : Nat, p ≤ ts.length ∧ i = .int .i64 p ∧ Hid (Bx W wo.heap.size 30 (fillS ts p)) ∧ Hid (Below wo.heap.size wo W)) (fun i _ => (ts.length - intOf i).toNat)
      case atStart => exact ⟨0, by omega, rfl, HY0, HYB⟩
      case round =>
        obtain ⟨p, hp, rfl, HY, HW⟩ := hrel
        have HBW := hid (HB.out.trans (HW.out.mono HB.out.size))
        have cl := HC1.out _ HBW.out
        by_cases hlt : p < ts.length
        · obtain ⟨pb, po, rfl, hcc⟩ := HC2.out.2.2.1 (by omega)
          have ck := cell_later HBW.out (hcc p (by omega))
          rw [← HTE.out p hlt] at ck
          have cx := bx_cell HY.out p (by rw [fill_len (by omega) (by omega)]; omega)
          have cf := bx_frozen HY.out p
          have k32 : (p : Int) < 32 := by omega
          have kzl : (p : Int) < (zs.length : Int) := by omega
          have HS := hid (bx_set HY.out p (ts.getD p 0) (by rw [fill_len (by omega) (by omega)]; omega))
          rw [fill_set (by omega) (by omega)] at HS
          clear hcc
          generalize ts.getD p 0 = v at *
          go_wp2
          go_roundw
          case rel => exact ⟨p + 1, by omega, by go_num, HS, HW.out.setCell (by simp) _⟩
          case measure => simp [intOf]; omega
        · have epl : p = ts.length := by omega
          subst epl
          have HYE := HY.out
          rw [fill_end (by omega)] at HYE
          have hcond : ¬ ((ts.length : Int) < (zs.length : Int) ∧ (ts.length : Int) < 32) := by omega
          obtain ⟨hDw, Lw, Bw, hRw, honw, hcw⟩ := HP.out
          have hs32 := hSec.1
          have WC := hid (write_c (hDw.later HW.out) m (Jo.pad ts) hSec (by omega) (by omega))
          have HRW := hid (hRw.later HW.out)
          have HDW := hid (hDw.later HW.out)
          have HON := hid honw
          have HCW := hid hcw
          have HPW := hid hRw.pair
          have hcells := hDw.cells
          have hYb2 : wo.heap.size ≠ B2 ∧ wo.heap.size ≠ r := by have := HPW.out.2.2.2; omega
          have HX5 := hid (HBX.out.later HW.out)
          have HYE5 := hid HYE
          have HP2 := hid HPW.out.1
          clear hDw hRw honw hcw HYE hcells
          generalize wr = w5 at *
          go_wp2_with (first
            | (refine wpList_loadS _ rfl _ _ rfl sizeA32 Try.underlying30 _ rfl (Jo.pad ts) hs32 _ _ HYE6.out ?_)
            | (refine wpList_loadS _ rfl _ _ rfl sizeA32 Try.underlying30 _ rfl (Jo.pad ts) hs32 _ _ HYE5.out ?_)
            | (go_at_call 6; refine WC.out.mono ?_; rintro _ w6 ⟨rfl, hD6, ho6⟩; (have HYE6 : Hid (Bx w6 wo.heap.size 30 (Jo.pad ts)) := (ho6.block _ (lt_blk HYE5.out) hYb2.1).trans HYE5.out); (have HD6 := hid hD6); (have HR6 := hid (HRW.out.disk HDW.out (ho6.mono (fun _ e => Or.inr e)))); (have HX6 := hid (HX5.out.kc (kc_disk HDW.out (ho6.mono (fun _ e => Or.inr e))))); (have HB6 := hid (HBW.out.trans (ho6.below HBW.out.size (fun k e => by omega)))); (have RC := hid (rwrite_c HR6.out m (Jo.pad ts) hSec (by omega) (by omega))); clear hD6 ho6)
            | (go_at_call 7; refine RC.out.mono ?_; rintro _ w7 ⟨rfl, hR7, ho7⟩; (have HP7 := hid (pair_write (w := w) (HD6.out.ref HR6.out ho7) HP2.out hR7 HON.out HCW.out)); (have HX7 : Hid (BoxJ w7 w.heap.size xk xga xgl xgc xr xst xa xlen xcap) := by (have q := HX6.out; unfold BoxJ at q ⊢; show _ = _; rw [ho7.block _ (lt_blk q) (by omega)]; exact q)); (have HB7 := hid (HB6.out.trans (ho7.below HB6.out.size (fun k e => by omega)))); clear hR7 ho7))
          all_goals
            go_roundw
            case rel => exact ⟨m + 1, _, _, by omega, by omega, by go_num, HP7, HX7, HB7⟩
            case measure => simp [intOf]; omega
    · have hcond : ¬ ((m : Int) < (len : Int) ∧ (m : Int) < 30) := by omega
      obtain ⟨hDw, Lw, Bw, hRw, honw, hcw⟩ := HP.out
      have OC := hid (open_c hDw (by omega))
      have HRW := hid hRw
      have HON := hid honw
      have HCW := hid hcw
      clear hDw hRw honw hcw hgo
      by_cases hml : (m : Int) < (len : Int)
      · have hm3 : ¬ (m : Int) < 30 := by omega
        go_wp2_with (first
          | (go_at_call 8; refine OC.out.mono ?_; rintro _ w5 ⟨o, d5, p5, q5, rfl, hJ5, hl5, hb5⟩; (have HJ5 := hid hJ5); (have HX5 := hid (HBX.out.later hb5)); (have HB5 := hid (HB.out.trans (hb5.mono HB.out.size))); (have hll5 : w.heap.size ≤ p5 ∧ w.heap.size ≤ q5 := by have := HB.out.size; omega); (have RO := hid (ropen_c (HRW.out.later hb5) (by omega))); clear hJ5 hl5 hb5)
          | (go_at_call 9; refine RO.out.mono ?_; rintro _ w6 ⟨rj, r6, rfl, hJ6, hl6, hb6⟩; (have HP6 : Hid (PairJ w6 o d5 p5 q5 rj r6 30 on c) := ⟨HJ5.out.later hb6, _, _, hJ6, HON.out, HCW.out⟩); (have HX6 := hid (HX5.out.later hb6)); (have HB6 := hid (HB5.out.trans (hb6.mono HB5.out.size))); (have hr6 : w.heap.size ≤ r6 := by have := HB5.out.size; omega); clear hJ6 hl6 hb6))
        refine (jlive_c _).mono ?_
        rintro _ w7 ⟨rfl, hb7⟩
        have HP7 := hid (HP6.out.later hb7)
        have HX7 := hid (HX6.out.later hb7)
        have HB7 := hid (HB6.out.trans (hb7.mono HB6.out.size))
        have S7 := hid (jsame_c HP7.out)
        clear hb7
        go_wp2_with fail
        refine S7.out.mono ?_
        rintro _ w8 ⟨rfl, hb8⟩
        have HP8 := hid (HP7.out.later hb8)
        have HX8 := hid (HX7.out.later hb8)
        have HB8 := hid (HB7.out.trans (hb8.mono HB7.out.size))
        obtain ⟨x0, x1, x2, x3, x4⟩ := HX8.out.cells
        have DC := hid (jdo_c HP8.out ⟨xk, xga, xgl, xgc, xg, xr, xst, xa, xlen, xcap, xzs⟩ (HXO.out.2.2.1.1.later HB8.out) HXO.out.2.2.1.2.1 (fun W hW => HXO.out.2.2.2.lat (HB8.out.trans (hW.below HB8.out.size (fun k e => by rcases e with e | e | e <;> omega)))))
        unfold De.val at DC
        clear hb8 S7
        go_wp2_with fail
        refine DC.out.mono ?_
        rintro _ w9 ⟨rfl, ⟨on9, c9, hP9, _⟩, ho9⟩
        have HB9 := hid (HB8.out.trans (ho9.below HB8.out.size (fun k e => by rcases e with e | e | e <;> omega)))
        have S9 := hid (jsame_c hP9)
        clear hP9 ho9 DC
        go_wp2_with fail
        refine S9.out.mono ?_
        rintro _ w10 ⟨rfl, hb10⟩
        go_wp2
        go_ret
        exact ⟨rfl, HB9.out.trans (hb10.mono HB9.out.size)⟩
      · go_wp2_with (first
          | (go_at_call 8; refine OC.out.mono ?_; rintro _ w5 ⟨o, d5, p5, q5, rfl, hJ5, hl5, hb5⟩; (have HJ5 := hid hJ5); (have HX5 := hid (HBX.out.later hb5)); (have HB5 := hid (HB.out.trans (hb5.mono HB.out.size))); (have hll5 : w.heap.size ≤ p5 ∧ w.heap.size ≤ q5 := by have := HB.out.size; omega); (have RO := hid (ropen_c (HRW.out.later hb5) (by omega))); clear hJ5 hl5 hb5)
          | (go_at_call 9; refine RO.out.mono ?_; rintro _ w6 ⟨rj, r6, rfl, hJ6, hl6, hb6⟩; (have HP6 : Hid (PairJ w6 o d5 p5 q5 rj r6 30 on c) := ⟨HJ5.out.later hb6, _, _, hJ6, HON.out, HCW.out⟩); (have HX6 := hid (HX5.out.later hb6)); (have HB6 := hid (HB5.out.trans (hb6.mono HB5.out.size))); (have hr6 : w.heap.size ≤ r6 := by have := HB5.out.size; omega); clear hJ6 hl6 hb6))
        refine (jlive_c _).mono ?_
        rintro _ w7 ⟨rfl, hb7⟩
        have HP7 := hid (HP6.out.later hb7)
        have HX7 := hid (HX6.out.later hb7)
        have HB7 := hid (HB6.out.trans (hb7.mono HB6.out.size))
        have S7 := hid (jsame_c HP7.out)
        clear hb7
        go_wp2_with fail
        refine S7.out.mono ?_
        rintro _ w8 ⟨rfl, hb8⟩
        have HP8 := hid (HP7.out.later hb8)
        have HX8 := hid (HX7.out.later hb8)
        have HB8 := hid (HB7.out.trans (hb8.mono HB7.out.size))
        obtain ⟨x0, x1, x2, x3, x4⟩ := HX8.out.cells
        have DC := hid (jdo_c HP8.out ⟨xk, xga, xgl, xgc, xg, xr, xst, xa, xlen, xcap, xzs⟩ (HXO.out.2.2.1.1.later HB8.out) HXO.out.2.2.1.2.1 (fun W hW => HXO.out.2.2.2.lat (HB8.out.trans (hW.below HB8.out.size (fun k e => by rcases e with e | e | e <;> omega)))))
        unfold De.val at DC
        clear hb8 S7
        go_wp2_with fail
        refine DC.out.mono ?_
        rintro _ w9 ⟨rfl, ⟨on9, c9, hP9, _⟩, ho9⟩
        have HB9 := hid (HB8.out.trans (ho9.below HB8.out.size (fun k e => by rcases e with e | e | e <;> omega)))
        have S9 := hid (jsame_c hP9)
        clear hP9 ho9 DC
        go_wp2_with fail
        refine S9.out.mono ?_
        rintro _ w10 ⟨rfl, hb10⟩
        go_wp2
        go_ret
        exact ⟨rfl, HB9.out.trans (hb10.mono HB9.out.size)⟩
theorem journalRaw_walk (a : Option Addr) (len cap : Nat) (g : Jo.Gr) (lc : len ≤ cap) (nc : a = none → cap = 0) (x : De) (w : World) (h : IsG0 w a len g) (hx : x.Ok w) :
    Calls Try.prog 3 #[.slice a len cap, x.val] w fun e w' => e = .returned (.bool true) ∧ Below w.heap.size w w' :=
  jraw_walk a len cap g x w h hx
/-! ### The row of JournalRaw -/
theorem journalRaw_own : ownKnob Try.prog.godebug = none := by kernel_rfl
theorem journalRaw_laidOut : laidOutB Try.prog = true := by kernel_rfl
set_option maxRecDepth 100000 in
theorem journalRaw_lifted (os : Os) (started : os.Started) (H : Type) (enc : TypeId × Value → H) :
    ReturnsInHanded {} Try.checked os 3 .any (Rows.journalRawSpec.pre6 enc Try.prog Try.f3 Rows.journalRawRow.domain false) (Rows.journalRawSpec.post enc Try.prog Try.f3 false true false false) := by
  refine returnsInHanded_of_change (C := Try.checked) journalRaw_own started (by kernel_rfl) Try.func3
    (ChangeSpec.witness6 (enc := enc) (C := Try.checked) false ⟨#[], #[.slice none 0 0, .agg #[.int .i64 0, .slice none 0 0, .bool false, .int .i64 0, .slice none 0 0]], []⟩ 8 (by kernel_rfl) (by kernel_rfl) (by kernel_rfl) (by kernel_rfl)) ?_
  intro W base args ds gs before hval0 hW hcnd _
  have hval : ∀ (j : Nat) t v, Try.f3.params[j]? = some t → args[j]? = some v → Value.okWide Try.prog W .any base t v := hval0
  have hW' := hW
  obtain ⟨p, q, hA0, hV, rfl, hfz, hnd⟩ := hW
  have hA : DataW.TrodAll enc Try.prog W 0 (fun _ => true) true Try.f3.params.toList args.toList ds p := hA0
  rw [Try.params3] at hA hval
  obtain ⟨v0, vs0, d0, ds0, p0, q0, hargs, rfl, rfl, h0, r0⟩ := trodAll_cons hA
  obtain ⟨v1, vs1, d1, ds1, p1, q1, rfl, rfl, rfl, h1, r1⟩ := trodAll_cons r0
  obtain ⟨rfl, rfl, rfl⟩ := trodAll_nil r1
  obtain rfl : args = #[v0, v1] := by cases args; simp_all
  obtain ⟨rfl, rfl⟩ := trodVars_none hV
  have k0 := h0
  have lt0 : ∀ x ∈ p0, x.block < W.heap.size := by obtain ⟨m, hm⟩ := k0; exact DataW.trod_lt m _ _ _ hm
  obtain ⟨a0, len0, cap0, rfl⟩ := okWide_slice Try.underlying22 (hval 0 22 v0 rfl rfl)
  obtain ⟨z0, w0, lc0, nc0⟩ := isG_of h0
  have k1 := h1
  have lt1 : ∀ x ∈ p1, x.block < W.heap.size := by obtain ⟨m, hm⟩ := k1; exact DataW.trod_lt m _ _ _ hm
  obtain ⟨q1, rfl, wq1⟩ := open_deed5 (hval 1 25 v1 rfl rfl) h1
  clear hA0 hval0
  refine (journalRaw_walk a0 len0 cap0 z0 lc0 nc0 q1 W w0 wq1).mono fun e W' ⟨he, bel⟩ => ?_
  subst he
  exact ⟨_, rfl, _, _, _, [], _, [], hW', trodAll_mk1 (shut_bool Try.underlying4 _), (trodAll_cons_mk (Below.trod journalRaw_laidOut (by kernel_rfl) (of_decide_eq_true (by kernel_rfl)) k0 bel lt0) (trodAll_cons_mk (Below.trod journalRaw_laidOut (by kernel_rfl) (of_decide_eq_true (by kernel_rfl)) k1 bel lt1) trodAll_mk0)), rfl, bel.frame _, fun h => by cases h⟩
theorem journalRaw_over : Rows.journalRawRow.holds Try.pinned (OpenSpec.ofChange Rows.journalRawSpec) :=
  OpenClaim.holds_of_wide 3 Try.f3 rfl rfl rfl rfl rfl rfl rfl ⟨rfl, rfl, rfl, rfl, rfl⟩ rfl rfl rfl rfl rfl (by kernel_rfl) Try.func3 (by kernel_rfl)
    (of_decide_eq_true (by kernel_rfl)) (by unfold Func.isWrapper; first | (rw [if_pos (by decide +kernel)]; kernel_rfl) | (rw [if_neg (by decide +kernel)]; exact ⟨rfl, rfl⟩))
    (fun os started H enc _ => journalRaw_lifted os started H enc)
/-- The statement. -/
theorem journalRaw_holds : Rows.JournalRawSaid := journalRaw_over
#print axioms journalRaw_holds
end Go.Proofs.Ytfmkgflhgapeoab
