/-
  For every number, every deeds (the first twenty are done) and a group: a Torn whose last sector is kept is done; one that is torn ahead of its first Flush and keeps nothing leaves all as it was.
-/
import Derived.Test.YtfmkgflhgapeoaaGO
namespace Go.Proofs.Ytfmkgflhgapeoaa
open Go.ChangeShapes Go.WideShapes Go.ChangeAt Go.RowKit Go.Maps
open Go.ChangeMaps (open_string shut_string)
set_option linter.unusedVariables false
set_option linter.unusedSimpArgs false
set_option maxRecDepth 100000 in
set_option maxHeartbeats 4000000 in
theorem jkeeps_walk (n : Nat) (hn : n < 256) (a : Option Addr) (len cap : Nat) (f : Nat → De) (x : De) (w : World) (h : IsD5s w a len f) (hx : x.Ok w) :
    Calls Try.prog 7 #[.int .u8 n, .slice a len cap, x.val] w fun e w' => e = .returned (.bool true) ∧ Below w.heap.size w w' := by
  obtain ⟨xk, xga, xgl, xgc, xg, xr, xst, xa, xlen, xcap, xzs⟩ := x
  show Calls Try.prog 7 #[.int .u8 n, .slice a len cap, .agg #[.int .i64 xk, .slice xga xgl xgc, .bool xr, .int .i64 xst, .slice xa xlen xcap]] w _
  have hb0 : Below w.heap.size w (w.alloc (.cells #[.int .i64 xk, .slice xga xgl xgc, .bool xr, .int .i64 xst, .slice xa xlen xcap] 42)) := (Below.refl _ _).alloc (Nat.le_refl _) _
  have HX : Hid (BoxJ (w.alloc (.cells #[.int .i64 xk, .slice xga xgl xgc, .bool xr, .int .i64 xst, .slice xa xlen xcap] 42)).drew w.heap.size xk xga xgl xgc xr xst xa xlen xcap) := heap_alloc_new w _
  have PC := hid (jplay_c n hn a len cap f (h.later hb0.drew))
  have HB0 := hid hb0.drew
  have HXG := hid hx.2.2.1
  clear h hx hb0
  go_enter Try.func7, Try.ntmps7
  go_wp2
  revert HX PC HB0
  generalize (w.alloc (.cells #[.int .i64 xk, .slice xga xgl xgc, .bool xr, .int .i64 xst, .slice xa xlen xcap] 42)) = W00
  intro HX PC HB0
  obtain ⟨x0, x1, x2, x3, x4⟩ := HX.out.cells
  have CK1 : W00.drew.cell? ⟨w.heap.size, 1, none⟩ = some (.slice xga xgl xgc) ∧ W00.drew.cell? ⟨w.heap.size, 2, none⟩ = some (.bool xr) := ⟨x1, x2⟩
  go_region_held3 (fun w' => w'.cell? ⟨w.heap.size, 1, none⟩ = some (.slice xga xgl xgc) ∧ w'.cell? ⟨w.heap.size, 2, none⟩ = some (.bool xr)) (first | (with_reducible exact CK1) | go_keep) (fail)
  clear CK1 x0 x1 x2 x3 x4 HX
  revert PC HB0
  generalize W00.drew = W0
  intro PC HB0
  go_wp2_with fail
  refine PC.out.mono ?_
  rintro _ w1 ⟨j, d, b1, b2, rj, r, on, c, rfl, hP, hgd, hl, hb1⟩
  obtain ⟨rfl, k, t, L, hH⟩ := hgd
  have HJ := hid hP.1
  have HH := hid hH
  have HB1 := hid (HB0.out.trans (hb1.mono HB0.out.size))
  have hN8 := hP.1.2.2
  have hN63 : n % 56 + 8 ≤ 63 := by omega
  have hlo : w.heap.size ≤ b1 ∧ w.heap.size ≤ b2 := by have := HB0.out.size; omega
  generalize n % 56 + 8 = N at *
  clear hP hb1 PC hH
  go_wp2_with fail
  refine (jlive_c _).mono ?_
  rintro _ w2 ⟨rfl, hb2⟩
  have HJ2 := hid (HJ.out.later hb2)
  have HB2 := hid (HB1.out.trans (hb2.mono HB1.out.size))
  have FC := hid (few_c xga xgl xgc xg w2 (HXG.out.1.later HB2.out) HXG.out.2.1)
  clear hb2
  go_wp2_with fail
  refine FC.out.mono ?_
  rintro _ w3 ⟨fa, fc, rfl, hG3, hfc, hfn, hb3⟩
  have HJ3 := hid (HJ2.out.later hb3)
  have HB3 := hid (HB2.out.trans (hb3.mono HB2.out.size))
  have HG3 := hid hG3
  have hbl := HJ3.out.2.1.cells
  have hb1l : b1 < w3.heap.size ∧ b2 < w3.heap.size := ⟨hbl.2.2.2.2.1, hbl.2.2.2.2.2.1⟩
  generalize fewG xg = g' at *
  have hLl := HH.out.len
  have FK1 := hid (jfork_c HJ3.out)
  clear hb3 hG3 FC hbl
  go_wp2_with fail
  refine FK1.out.mono ?_
  rintro _ w4 ⟨jf, df, pf, qf, rfl, hJf4, hlf, hb4⟩
  have HJ4 := hid (HJ3.out.later hb4)
  have HF4 := hid hJf4
  have HG4 := hid (HG3.out.later hb4)
  have HB4 := hid (HB3.out.trans (hb4.mono HB3.out.size))
  have hcl4 := hJf4.2.1.cells
  have hfl : pf < w4.heap.size ∧ qf < w4.heap.size := ⟨hcl4.2.2.2.2.1, hcl4.2.2.2.2.2.1⟩
  have hs34 := hb4.size
  have FK2 := hid (jfork_c HJ4.out)
  clear hb4 hJf4 hcl4 FK1
  go_wp2_with fail
  refine FK2.out.mono ?_
  rintro _ w5 ⟨jh, dh, ph, qh, rfl, hJh5, hlh, hb5⟩
  have HJ5 := hid (HJ4.out.later hb5)
  have HF5 := hid (HF4.out.later hb5)
  have HH5 := hid hJh5
  have HG5 := hid (HG4.out.later hb5)
  have HB5 := hid (HB4.out.trans (hb5.mono HB4.out.size))
  obtain ⟨i0, hi, hz0, hz1, hz2⟩ := infoI
  clear hb5 hJh5 FK2
  go_wp2
  go_loopw [14, 15] (fun v i wr => ∃ p : Nat, p ≤ 64 ∧ i = .int .i64 p ∧ Hid (wr.ownsRow w5.heap.size 3 1 v p (((List.range p).map (fun q : Nat => (q : Int))).map zI)) ∧ Hid (Below w5.heap.size w5 wr)) (fun _ i _ => (64 - intOf i).toNat)
  case atStart => exact ⟨0, by omega, rfl, World.ownsRow_nil _ _ 3 1, Below.refl _ _⟩
  case round =>
    obtain ⟨p, hp, rfl, HO, HB⟩ := hrel
    obtain ⟨va, vc, rfl⟩ := own_shape6 HO.out
    by_cases hlt : p < 64
    · have hltI : (p : Int) < 64 := by omega
      go_wp2_with (at_builtin; refine wpList_append_own _ rfl _ _ 40 rfl w5.heap.size 3 i0 (.int .i64 0) 1 8 Try.underlying40 hi hz0 hz1 hz2 rfl (by decide) _ _ _ rfl (HO.out.alloc _) ⟨wr.heap.size, 0, none⟩ 1 1 [.int .i64 p] rfl rfl (cell_one_new _ _ _) (fun y hy => by simp at hy; subst hy; rfl) (by unfold maxLen; omega) (by omega) (by have := HB.out.size; simp; omega) ?_; intro v9 w9 hown9 hgrow9 hnil9)
      have HB9 := hid (below_grown (HB.out.alloc HB.out.size _) (HO.out.alloc _) (Nat.le_refl _) (by have := HB.out.size; simp; omega) hgrow9)
      have HO9 : Hid (w9.ownsRow w5.heap.size 3 1 v9 (p + 1) (((List.range (p + 1)).map (fun q : Nat => (q : Int))).map zI)) := by
        show World.ownsRow _ _ _ _ _ _ _
        rw [List.range_succ]; simpa [zI] using hown9
      obtain ⟨a9, c9, rfl⟩ := own_shape6 hown9
      clear hown9 hgrow9 hnil9
      go_roundw
      case rel => exact ⟨p + 1, by omega, by go_num, HO9, HB9⟩
      case measure => simp [intOf]; omega
    · have ep : p = 64 := by omega
      have hge : ¬ (p : Int) < 64 := by omega
      have HIZ : Hid (IsZ wr va 64 ((List.range 64).map (fun q : Nat => (q : Int)))) := by
        have ho := HO.out
        rw [ep] at ho
        obtain ⟨a', c', he, hz⟩ := own_isZ (zs := (List.range 64).map (fun q : Nat => (q : Int))) (by simpa using ho) (fun x hx => by obtain ⟨q, hq, rfl⟩ := List.mem_map.1 hx; have := List.mem_range.1 hq; omega)
        have := (Value.slice.inj he).1
        subst this
        show IsZ _ _ _ _
        simpa using hz
      subst ep
      have hzall : ∀ k : Nat, k < N → (k : Int) ∈ (List.range 64).map (fun q : Nat => (q : Int)) := fun k hk => List.mem_map.2 ⟨k, List.mem_range.2 (by omega), rfl⟩
      have HJ6 := hid (HJ5.out.later HB.out)
      have HF6 := hid (HF5.out.later HB.out)
      have HH6 := hid (HH5.out.later HB.out)
      have HG6 := hid (HG5.out.later HB.out)
      have HB6 := hid (HB5.out.trans (HB.out.mono HB5.out.size))
      have T1 := hid (keep_torn HF6.out HH.out fa _ fc g' HG6.out xr va 64 vc _ HIZ.out hzall)
      have hs45 := HB5.out.size
      clear HO hzall HIZ hi hz0 hz1 hz2
      generalize wr = w6 at *
      go_wp2_with fail
      refine T1.out.mono ?_
      rintro _ w7 ⟨rfl, ⟨onf, Lf, kf, tf, hJf7, hHf7, hLf⟩, ho7⟩
      have HKC7 := hid (kc_disk HF6.out.2.1 ho7)
      have HJ7 := hid (HJ6.out.far HF6.out.2.1 ho7 (by omega) (by omega))
      have HH7 := hid (HH6.out.far HF6.out.2.1 ho7 (by omega) (by omega))
      have HF7 := hid hJf7
      have HHf := hid hHf7
      have HLf := hid hLf
      have HG7 := hid (HG6.out.kc HKC7.out)
      have HB7 := hid (HB6.out.trans (ho7.below HB6.out.size (fun q e => by have := HB3.out.size; rcases e with e | e <;> omega)))
      have T0 := hid (keep_none HH7.out fa _ fc g' HG7.out xr)
      clear hJf7 hHf7 hLf ho7 T1
      go_wp2_with fail
      refine T0.out.mono ?_
      rintro _ w8 ⟨rfl, hJh8, ho8⟩
      have HKC8 := hid (kc_disk HH7.out.2.1 ho8)
      have HJ8 := hid (HJ7.out.far HH7.out.2.1 ho8 (by omega) (by omega))
      have HF8 := hid (HF7.out.far HH7.out.2.1 ho8 (by omega) (by omega))
      have HH8 := hid hJh8
      have HG8 := hid (HG7.out.kc HKC8.out)
      have HB8 := hid (HB7.out.trans (ho8.below HB7.out.size (fun q e => by have := HB4.out.size; rcases e with e | e <;> omega)))
      have G8 := hid (keep_groups HJ8.out HH.out)
      clear hJh8 ho8 T0
      go_wp2_with fail
      refine G8.out.mono ?_
      rintro _ w9 ⟨⟨a9, c9, rfl, hI9⟩, hb9⟩
      have HI9 := hid hI9
      have HJ9 := hid (HJ8.out.later hb9)
      have HF9 := hid (HF8.out.later hb9)
      have HH9 := hid (HH8.out.later hb9)
      have HG9 := hid (HG8.out.later hb9)
      have HB9 := hid (HB8.out.trans (hb9.mono HB8.out.size))
      have A9 := hid (keep_add HJ9.out HH.out fa _ fc g' HG9.out)
      clear hI9 hb9 G8
      go_wp2_with fail
      refine A9.out.mono ?_
      rintro _ w10 ⟨rfl, ⟨onj, Lj, kj, tj, hJj, hHj, hLj⟩, ho10⟩
      have HKC10 := hid (kc_disk HJ9.out.2.1 ho10)
      have HF10 := hid (HF9.out.far HJ9.out.2.1 ho10 (by omega) (by omega))
      have HH10 := hid (HH9.out.far HJ9.out.2.1 ho10 (by omega) (by omega))
      have HI10 := hid (HI9.out.kc HKC10.out)
      have HG10 := hid (HG9.out.kc HKC10.out)
      have HB10 := hid (HB9.out.trans (ho10.below HB9.out.size (fun q e => by rcases e with e | e <;> omega)))
      have HJj := hid hJj
      have HHj := hid hHj
      have HLj := hid hLj
      clear hJj hHj hLj ho10 A9
      cases xr with
      | false =>
        obtain ⟨nn, hnn⟩ : ∃ nn, nn = outK false on N g' := ⟨_, rfl⟩
        rw [← hnn] at HLf HLj ⊢
        clear hnn
        have e9 : (nn == nn) = true := by simp
        have GH := hid (keep_groups HH10.out HH.out)
        by_cases h0 : nn = 0
        · subst h0
          have hE : Lf = Lj := by rw [HLf.out rfl, HLj.out rfl]
          subst hE
          go_wp2_with fail
          refine GH.out.mono ?_
          rintro _ v1 ⟨⟨ah, ch, rfl, hIh⟩, hb1⟩
          have S1 := hid (rsame_eq ah a9 _ ch c9 L v1 hIh (HI10.out.later hb1))
          have HBa := hid hb1
          clear hIh hb1 GH
          go_wp2_with fail
          refine S1.out.mono ?_
          rintro _ v2 ⟨rfl, hb2⟩
          have HBb := hid (HBa.out.trans (hb2.mono HBa.out.size))
          have GF := hid (keep_groups (HF10.out.later HBb.out) HHf.out)
          clear hb2 S1
          go_wp2_with fail
          refine GF.out.mono ?_
          rintro _ v3 ⟨⟨af, cf, rfl, hIf⟩, hb3⟩
          have HBc := hid (HBb.out.trans (hb3.mono HBb.out.size))
          have HIf := hid hIf
          have GJ := hid (keep_groups (HJj.out.later HBc.out) HHj.out)
          clear hIf hb3 GF
          go_wp2_with fail
          refine GJ.out.mono ?_
          rintro _ v4 ⟨⟨aj, cj, rfl, hIj⟩, hb4⟩
          have S2 := hid (rsame_eq af aj _ cf cj Lf v4 (HIf.out.later hb4) hIj)
          have HBd := hid (HBc.out.trans (hb4.mono HBc.out.size))
          clear hIj hb4 GJ
          go_wp2_with fail
          refine S2.out.mono ?_
          rintro _ v5 ⟨rfl, hb5⟩
          go_wp2
          go_ret
          exact ⟨rfl, HB10.out.trans ((HBd.out.trans (hb5.mono HBd.out.size)).mono HB10.out.size)⟩
        · have e1 : (nn != 0) = true := by simpa using h0
          have e2 : (nn == 0) = false := by simpa using h0
          go_wp2_with fail
          refine GH.out.mono ?_
          rintro _ v1 ⟨⟨ah, ch, rfl, hIh⟩, hb1⟩
          have S1 := hid (rsame_eq ah a9 _ ch c9 L v1 hIh (HI10.out.later hb1))
          have HBa := hid hb1
          clear hIh hb1 GH
          go_wp2_with fail
          refine S1.out.mono ?_
          rintro _ v2 ⟨rfl, hb2⟩
          go_wp2
          go_ret
          exact ⟨rfl, HB10.out.trans ((HBa.out.trans (hb2.mono HBa.out.size)).mono HB10.out.size)⟩
      | true =>
        have FK3 := hid (jfork_c HH10.out)
        go_wp2_with fail
        refine FK3.out.mono ?_
        rintro _ w11 ⟨j2, d2, p2, q2, rfl, hJ11, hl11, hb11⟩
        have hpf10 : pf < w10.heap.size ∧ qf < w10.heap.size ∧ ph < w10.heap.size ∧ qh < w10.heap.size := by have q1 := HF10.out.2.1.cells; have q2 := HH10.out.2.1.cells; exact ⟨q1.2.2.2.2.1, q1.2.2.2.2.2.1, q2.2.2.2.2.1, q2.2.2.2.2.2.1⟩
        have HJ11 := hid hJ11
        have HF11 := hid (HF10.out.later hb11)
        have HH11 := hid (HH10.out.later hb11)
        have HI11 := hid (HI10.out.later hb11)
        have HG11 := hid (HG10.out.later hb11)
        have HB11 := hid (HB10.out.trans (hb11.mono HB10.out.size))
        have R11 := hid (keep_set HJ11.out HH.out fa _ fc g' HG11.out)
        clear hJ11 hb11 FK3
        go_wp2_with fail
        refine R11.out.mono ?_
        rintro _ w12 ⟨rfl, ⟨onr, Lr, kr, tr, hJr, hHr, hLr⟩, ho12⟩
        have HKC12 := hid (kc_disk HJ11.out.2.1 ho12)
        have HF12 := hid (HF11.out.far HJ11.out.2.1 ho12 (by omega) (by omega))
        have HH12 := hid (HH11.out.far HJ11.out.2.1 ho12 (by omega) (by omega))
        have HI12 := hid (HI11.out.kc HKC12.out)
        have HB12 := hid (HB11.out.trans (ho12.below HB11.out.size (fun q e => by have := HB10.out.size; rcases e with e | e <;> omega)))
        have HJr := hid hJr
        have HHr := hid hHr
        have HLr := hid hLr
        clear hJr hHr hLr ho12 R11
        obtain ⟨nn, hnn⟩ : ∃ nn, nn = outK true on N g' := ⟨_, rfl⟩
        rw [← hnn] at HLf HLr ⊢
        clear hnn
        have e9 : (nn == nn) = true := by simp
        have GH := hid (keep_groups HH12.out HH.out)
        by_cases h0 : nn = 0
        · subst h0
          have hE : Lf = Lr := by rw [HLf.out rfl, HLr.out rfl]
          subst hE
          go_wp2_with fail
          refine GH.out.mono ?_
          rintro _ v1 ⟨⟨ah, ch, rfl, hIh⟩, hb1⟩
          have S1 := hid (rsame_eq ah a9 _ ch c9 L v1 hIh (HI12.out.later hb1))
          have HBa := hid hb1
          clear hIh hb1 GH
          go_wp2_with fail
          refine S1.out.mono ?_
          rintro _ v2 ⟨rfl, hb2⟩
          have HBb := hid (HBa.out.trans (hb2.mono HBa.out.size))
          have GF := hid (keep_groups (HF12.out.later HBb.out) HHf.out)
          clear hb2 S1
          go_wp2_with fail
          refine GF.out.mono ?_
          rintro _ v3 ⟨⟨af, cf, rfl, hIf⟩, hb3⟩
          have HBc := hid (HBb.out.trans (hb3.mono HBb.out.size))
          have HIf := hid hIf
          have GJ := hid (keep_groups (HJr.out.later HBc.out) HHr.out)
          clear hIf hb3 GF
          go_wp2_with fail
          refine GJ.out.mono ?_
          rintro _ v4 ⟨⟨aj, cj, rfl, hIj⟩, hb4⟩
          have S2 := hid (rsame_eq af aj _ cf cj Lf v4 (HIf.out.later hb4) hIj)
          have HBd := hid (HBc.out.trans (hb4.mono HBc.out.size))
          clear hIj hb4 GJ
          go_wp2_with fail
          refine S2.out.mono ?_
          rintro _ v5 ⟨rfl, hb5⟩
          go_wp2
          go_ret
          exact ⟨rfl, HB12.out.trans ((HBd.out.trans (hb5.mono HBd.out.size)).mono HB12.out.size)⟩
        · have e1 : (nn != 0) = true := by simpa using h0
          have e2 : (nn == 0) = false := by simpa using h0
          go_wp2_with fail
          refine GH.out.mono ?_
          rintro _ v1 ⟨⟨ah, ch, rfl, hIh⟩, hb1⟩
          have S1 := hid (rsame_eq ah a9 _ ch c9 L v1 hIh (HI12.out.later hb1))
          have HBa := hid hb1
          clear hIh hb1 GH
          go_wp2_with fail
          refine S1.out.mono ?_
          rintro _ v2 ⟨rfl, hb2⟩
          go_wp2
          go_ret
          exact ⟨rfl, HB12.out.trans ((HBa.out.trans (hb2.mono HBa.out.size)).mono HB12.out.size)⟩
theorem journalKeeps_walk (n : Int) (wn : (Lit.int .u8 n).wf = true) (a : Option Addr) (len cap : Nat) (f : Nat → De) (x : De) (w : World) (h : IsD5s w a len f) (hx : x.Ok w) :
    Calls Try.prog 7 #[.int .u8 n, .slice a len cap, x.val] w fun e w' => e = .returned (.bool true) ∧ Below w.heap.size w w' := by
  have hb := bd_u8 wn
  obtain ⟨m, rfl⟩ : ∃ m : Nat, n = (m : Int) := ⟨n.toNat, by omega⟩
  exact jkeeps_walk m (by omega) a len cap f x w h hx
/-! ### The row of JournalKeeps -/
theorem journalKeeps_own : ownKnob Try.prog.godebug = none := by kernel_rfl
theorem journalKeeps_laidOut : laidOutB Try.prog = true := by kernel_rfl
set_option maxRecDepth 100000 in
theorem journalKeeps_lifted (os : Os) (started : os.Started) (H : Type) (enc : TypeId × Value → H) :
    ReturnsInHanded {} Try.checked os 7 .any (Rows.journalKeepsSpec.pre6 enc Try.prog Try.f7 Rows.journalKeepsRow.domain false) (Rows.journalKeepsSpec.post enc Try.prog Try.f7 false true false false) := by
  refine returnsInHanded_of_change (C := Try.checked) journalKeeps_own started (by kernel_rfl) Try.func7
    (ChangeSpec.witness6 (enc := enc) (C := Try.checked) false ⟨#[], #[.int .u8 0, .slice none 0 0, .agg #[.int .i64 0, .slice none 0 0, .bool false, .int .i64 0, .slice none 0 0]], []⟩ 8 (by kernel_rfl) (by kernel_rfl) (by kernel_rfl) (by kernel_rfl)) ?_
  intro W base args ds gs before hval0 hW hcnd _
  have hval : ∀ (j : Nat) t v, Try.f7.params[j]? = some t → args[j]? = some v → Value.okWide Try.prog W .any base t v := hval0
  have hW' := hW
  obtain ⟨p, q, hA0, hV, rfl, hfz, hnd⟩ := hW
  have hA : DataW.TrodAll enc Try.prog W 0 (fun _ => true) true Try.f7.params.toList args.toList ds p := hA0
  rw [Try.params7] at hA hval
  obtain ⟨v0, vs0, d0, ds0, p0, q0, hargs, rfl, rfl, h0, r0⟩ := trodAll_cons hA
  obtain ⟨v1, vs1, d1, ds1, p1, q1, rfl, rfl, rfl, h1, r1⟩ := trodAll_cons r0
  obtain ⟨v2, vs2, d2, ds2, p2, q2, rfl, rfl, rfl, h2, r2⟩ := trodAll_cons r1
  obtain ⟨rfl, rfl, rfl⟩ := trodAll_nil r2
  obtain rfl : args = #[v0, v1, v2] := by cases args; simp_all
  obtain ⟨rfl, rfl⟩ := trodVars_none hV
  obtain ⟨a0, rfl, rfl, rfl, w0⟩ := open_int Try.underlying5 (hval 0 5 v0 rfl rfl) h0
  have k1 := h1
  have lt1 : ∀ x ∈ p1, x.block < W.heap.size := by obtain ⟨m, hm⟩ := k1; exact DataW.trod_lt m _ _ _ hm
  obtain ⟨a1, len1, cap1, rfl⟩ := okWide_slice Try.underlying22 (hval 1 22 v1 rfl rfl)
  obtain ⟨z1, w1⟩ := isD5s_of Try.underlying22 h1
  have k2 := h2
  have lt2 : ∀ x ∈ p2, x.block < W.heap.size := by obtain ⟨m, hm⟩ := k2; exact DataW.trod_lt m _ _ _ hm
  obtain ⟨q2, rfl, wq2⟩ := open_deed5 (hval 2 42 v2 rfl rfl) h2
  clear hA0 hval0
  refine (journalKeeps_walk a0 w0 a1 len1 cap1 z1 q2 W w1 wq2).mono fun e W' ⟨he, bel⟩ => ?_
  subst he
  exact ⟨_, rfl, _, _, _, [], _, [], hW', trodAll_mk1 (shut_bool Try.underlying4 _), (trodAll_cons_mk (shut_int Try.underlying5 w0) (trodAll_cons_mk (Below.trod journalKeeps_laidOut (by kernel_rfl) (of_decide_eq_true (by kernel_rfl)) k1 bel lt1) (trodAll_cons_mk (Below.trod journalKeeps_laidOut (by kernel_rfl) (of_decide_eq_true (by kernel_rfl)) k2 bel lt2) trodAll_mk0))), rfl, bel.frame _, fun h => by cases h⟩
theorem journalKeeps_over : Rows.journalKeepsRow.holds Try.pinned (OpenSpec.ofChange Rows.journalKeepsSpec) :=
  OpenClaim.holds_of_wide 7 Try.f7 rfl rfl rfl rfl rfl rfl rfl ⟨rfl, rfl, rfl, rfl, rfl⟩ rfl rfl rfl rfl rfl (by kernel_rfl) Try.func7 (by kernel_rfl)
    (of_decide_eq_true (by kernel_rfl)) (by unfold Func.isWrapper; first | (rw [if_pos (by decide +kernel)]; kernel_rfl) | (rw [if_neg (by decide +kernel)]; exact ⟨rfl, rfl⟩))
    (fun os started H enc _ => journalKeeps_lifted os started H enc)
/-- The statement. -/
theorem journalKeeps_holds : Rows.JournalKeepsSaid := journalKeeps_over
#print axioms journalKeeps_holds

end Go.Proofs.Ytfmkgflhgapeoaa
