/-
  For every operations, and a Rename: what is renamed and renamed back is as it was, if nothing stood there.
-/
import Derived.Test.YtloojakcknnilaaGreatSmBr
import Derived.Test.YtloojakcknnilaaGreatSmBp
namespace Go.Proofs.YtloojakcknnilaaGreat
open Go.RowKit Go.ChangeShapes Go.WideShapes Go.ChangeAt Go.Maps Go.Shelf
open Go.ChangeMaps (open_string shut_string)
set_option linter.unusedVariables false
set_option linter.unusedSimpArgs false
set_option maxRecDepth 20000
set_option maxHeartbeats 4000000 in
theorem treeRenames_walk (a0 : Option Addr) (len0 cap0 : Nat) (ops : List Rec) (lz0 : ops.length = len0) (lc0 : len0 ≤ cap0) (o : Rec) (w : World) (h0 : IsOs w a0 ops) (wq : o.Wf) :
   Calls Tryz.prog 7 #[.slice a0 len0 cap0, o.opV] w fun e w' => e = .returned (.bool true) ∧ Below w.heap.size w w' := by
 obtain ⟨k, fid, dir, nm, tof, nm2, md, dt, sn⟩ := o
 simp only [Rec.opV]
 have b0 := below_1 w (.cells #[.int .u8 k, .int .u32 fid, .int .u32 dir, .string nm, .int .u32 tof, .string nm2, .int .u16 md, .string dt] 28)
 have h1 := heap_alloc_new w (.cells #[.int .u8 k, .int .u32 fid, .int .u32 dir, .string nm, .int .u32 tof, .string nm2, .int .u16 md, .string dt] 28)
 have MC := hid (made_c a0 len0 cap0 ops _ lz0 lc0 (h0.later b0))
 have RT := hid (pm_rt h0.2.1 40)
 have WF := hid (rn_wf wq)
 have WB := hid (rb_wf (rn_wf wq))
 have RB := hid (ren_back (pm_rt h0.2.1 40) (pm_er h0.2.1 40) (rn_wf wq) rfl)
 have BX : Hid (∀ W, Below (w.alloc (.cells #[.int .u8 k, .int .u32 fid, .int .u32 dir, .string nm, .int .u32 tof, .string nm2, .int .u16 md, .string dt] 28)).heap.size (w.alloc (.cells #[.int .u8 k, .int .u32 fid, .int .u32 dir, .string nm, .int .u32 tof, .string nm2, .int .u16 md, .string dt] 28)) W → W.heap[w.heap.size]? = some (.cells #[.int .u8 k, .int .u32 fid, .int .u32 dir, .string nm, .int .u32 tof, .string nm2, .int .u16 md, .string dt] 28)) := hid (fun W hW => (hW.block _ (lt_blkR h1)).trans h1)
 have LT : Hid (w.heap.size < (w.alloc (.cells #[.int .u8 k, .int .u32 fid, .int .u32 dir, .string nm, .int .u32 tof, .string nm2, .int .u16 md, .string dt] 28)).heap.size) := hid (lt_blkR h1)
 have B0 := hid b0
 have LC := hid (fun W => tlive_c W)
 clear b0 h1 h0 wq
 generalize PmL ops 40 = t at *
 have XR : Hid ((ApplyL t (rnO (⟨k, fid, dir, nm, tof, nm2, md, dt, sn⟩ : Rec))).1 = 0 → Rt (ApplyL t (rnO (⟨k, fid, dir, nm, tof, nm2, md, dt, sn⟩ : Rec))).2) := hid (ApplyL_rt WF.out)
 have NO := hid (ApplyL_no (l := t) (o := rnO (⟨k, fid, dir, nm, tof, nm2, md, dt, sn⟩ : Rec)))
 obtain ⟨⟨ce, X⟩, Hr⟩ : ∃ r, Hid (ApplyL t (rnO (⟨k, fid, dir, nm, tof, nm2, md, dt, sn⟩ : Rec)) = r) := ⟨_, hid rfl⟩
 rw [Hr.out] at RB XR NO
 simp only at RB XR NO
 have AC : Hid (∀ (a : Option Addr) (c : Nat) (L : List Nd) (W : World), TrE W a L t → Calls Tryz.prog 10 #[.slice a L.length c, .agg #[.int .u8 7, .int .u32 0, .int .u32 dir, .string nm, .int .u32 tof, .string nm2, .int .u16 0, .string ⟨#[]⟩]] W (OpP W (ce, X))) := hid (fun a c L W h => by
   have := apply_c c (rnO (⟨k, fid, dir, nm, tof, nm2, md, dt, sn⟩ : Rec)) W h (by have := RT.out.few; omega) WF.out
   rw [Hr.out] at this
   exact this)
 obtain ⟨le, Hle⟩ : ∃ le, Hid (plkE (getF t tof) nm2 = le) := ⟨_, hid rfl⟩
 obtain ⟨li, Hli⟩ : ∃ li, Hid (plkI (getF t tof) nm2 = li) := ⟨_, hid rfl⟩
 have KC : Hid (∀ (a : Option Addr) (c : Nat) (L : List Nd) (W : World), TrE W a L t → Calls Tryz.prog 27 #[.slice a L.length c, .int .u32 tof, .string nm2] W fun e w' => e = .returned (.tuple #[.int .u32 li, .int .i64 le]) ∧ Below W.heap.size W w') := hid (fun a c L W h => by
   have hh := tLook_c a c L tof nm2 W h.1.1 (by rw [h.len]; have := RT.out.few; omega) (fun x hx => by have := (h.1.2 x hx).2.2; omega)
   have e1 := getF_er L tof
   rw [h.2] at e1
   rw [← (plk_er (getF L tof) nm2).1, ← (plk_er (getF L tof) nm2).2, ← e1, Hle.out, Hli.out] at hh
   exact hh)
 go_enter Tryz.func7, Tryz.ntmps7
 go_upto_region 1 with fail
 generalize w.alloc (.cells #[.int .u8 k, .int .u32 fid, .int .u32 dir, .string nm, .int .u32 tof, .string nm2, .int .u16 md, .string dt] 28) = V at *
 go_upto_region 2 with (go_at_call 26; refine MC.out.mono ?_; rintro _ w1 ⟨a1, c1, L1, rfl, t1, hb1⟩; have T1 := hid t1; have B1 := hid (B0.out.trans (hb1.mono B0.out.size)); have V1 := hid hb1; have oh := BX.out w1 hb1; clear t1 hb1)
 have hl1 : Hid (w.heap.size < w1.heap.size) := hid (Nat.lt_of_lt_of_le LT.out V1.out.size)
 have OB : Hid (∀ W, Below ((((w1.setCell ⟨w.heap.size, 0, none⟩ (.int .u8 7)).setCell ⟨w.heap.size, 1, none⟩ (.int .u32 0)).setCell ⟨w.heap.size, 6, none⟩ (.int .u16 0)).setCell ⟨w.heap.size, 7, none⟩ (.string ⟨#[]⟩)).heap.size ((((w1.setCell ⟨w.heap.size, 0, none⟩ (.int .u8 7)).setCell ⟨w.heap.size, 1, none⟩ (.int .u32 0)).setCell ⟨w.heap.size, 6, none⟩ (.int .u16 0)).setCell ⟨w.heap.size, 7, none⟩ (.string ⟨#[]⟩)) W → W.heap[w.heap.size]? = some (.cells #[.int .u8 7, .int .u32 0, .int .u32 dir, .string nm, .int .u32 tof, .string nm2, .int .u16 0, .string ⟨#[]⟩] 28)) := hid (fun W hW => by
   rw [hW.block _ (by have := hl1.out; simpa [World.setCell] using this)]
   simp only [World.setCell]
   rw [Array.getElem?_modify, if_pos rfl, Array.getElem?_modify, if_pos rfl, Array.getElem?_modify, if_pos rfl, Array.getElem?_modify, if_pos rfl, oh]
   rfl)
 have T4 : Hid (TrE ((((w1.setCell ⟨w.heap.size, 0, none⟩ (.int .u8 7)).setCell ⟨w.heap.size, 1, none⟩ (.int .u32 0)).setCell ⟨w.heap.size, 6, none⟩ (.int .u16 0)).setCell ⟨w.heap.size, 7, none⟩ (.string ⟨#[]⟩)) a1 L1 t) := hid (((((T1.out.setLow LT.out).setLow LT.out).setLow LT.out).setLow LT.out).tre (by have := RT.out.few; omega))
 have B4 : Hid (Below w.heap.size w ((((w1.setCell ⟨w.heap.size, 0, none⟩ (.int .u8 7)).setCell ⟨w.heap.size, 1, none⟩ (.int .u32 0)).setCell ⟨w.heap.size, 6, none⟩ (.int .u16 0)).setCell ⟨w.heap.size, 7, none⟩ (.string ⟨#[]⟩))) := hid ((((B1.out.setCell (p := ⟨w.heap.size, 0, none⟩) (Nat.le_refl _) _).setCell (p := ⟨w.heap.size, 1, none⟩) (Nat.le_refl _) _).setCell (p := ⟨w.heap.size, 6, none⟩) (Nat.le_refl _) _).setCell (p := ⟨w.heap.size, 7, none⟩) (Nat.le_refl _) _)
 have fz : ∀ i, w1.frozen? ⟨w.heap.size, i, none⟩ = false := fun i => by simp [World.frozen?, oh]
 have x0 : w1.cell? ⟨w.heap.size, 0, none⟩ = some (.int .u8 k) := cell_of_row2 oh 0 rfl
 have x1 : w1.cell? ⟨w.heap.size, 1, none⟩ = some (.int .u32 fid) := cell_of_row2 oh 1 rfl
 have x6 : w1.cell? ⟨w.heap.size, 6, none⟩ = some (.int .u16 md) := cell_of_row2 oh 6 rfl
 have x7 : w1.cell? ⟨w.heap.size, 7, none⟩ = some (.string dt) := cell_of_row2 oh 7 rfl
 go_upto_region 4 with fail
 change Code.wp _ _ _ _ ((((w1.setCell ⟨w.heap.size, 0, none⟩ (.int .u8 7)).setCell ⟨w.heap.size, 1, none⟩ (.int .u32 0)).setCell ⟨w.heap.size, 6, none⟩ (.int .u16 0)).setCell ⟨w.heap.size, 7, none⟩ (.string ⟨#[]⟩))
 generalize (((w1.setCell ⟨w.heap.size, 0, none⟩ (.int .u8 7)).setCell ⟨w.heap.size, 1, none⟩ (.int .u32 0)).setCell ⟨w.heap.size, 6, none⟩ (.int .u16 0)).setCell ⟨w.heap.size, 7, none⟩ (.string ⟨#[]⟩) = W4 at *
 clear x0 x1 x6 x7 fz oh T1 B1 V1 LT BX MC hl1
 have oh4 := OB.out W4 (Below.refl _ _)
 have u4 : W4.cell? ⟨w.heap.size, 4, none⟩ = some (.int .u32 tof) := cell_of_row2 oh4 4 rfl
 have u5 : W4.cell? ⟨w.heap.size, 5, none⟩ = some (.string nm2) := cell_of_row2 oh4 5 rfl
 clear oh4
 have K1 := hid (KC.out a1 c1 L1 W4 T4.out)
 by_cases hle : le = 0
 · subst hle
   clear RB XR NO
   go_wp2_with (first
     | (go_at_call 12; refine (LC.out _).mono ?_; rintro _ w7 ⟨rfl, hb7⟩; have K7 := hid (K2.out.trans (hb7.mono K2.out.size)); clear hb7)
     | (go_at_call 27; refine K1.out.mono ?_; rintro _ w2 ⟨rfl, hb2⟩; have K2 := hid (B4.out.trans (hb2.mono B4.out.size)); clear hb2))
   go_ret
   exact ⟨by first | rfl | simp, K7.out⟩
 · have hleb : (le == 0) = false := by simp [hle]
   have RB2 : Hid (ce = 0 → ApplyL X (rbO (rnO (⟨k, fid, dir, nm, tof, nm2, md, dt, sn⟩ : Rec))) = (0, t)) := hid (fun e => RB.out e (by show plkE (getF t tof) nm2 ≠ 0; rw [Hle.out]; exact hle))
   clear RB
   by_cases he : ce = 0
   · subst he
     have RX := hid (XR.out rfl)
     have A2 : Hid (∀ (a : Option Addr) (c : Nat) (L : List Nd) (W : World), TrE W a L X → Calls Tryz.prog 10 #[.slice a L.length c, .agg #[.int .u8 7, .int .u32 0, .int .u32 tof, .string nm2, .int .u32 dir, .string nm, .int .u16 0, .string ⟨#[]⟩]] W (OpP W (0, t))) := hid (fun a c L W h => by
       have := apply_c c (rbO (rnO (⟨k, fid, dir, nm, tof, nm2, md, dt, sn⟩ : Rec))) W h (by have := RX.out.few; omega) WB.out
       rw [RB2.out rfl] at this
       exact this)
     clear RB2 XR NO
     go_wp2_with (first
       | (go_at_call 25; refine S1.out.mono ?_; intro _ w8 h8; obtain ⟨rfl, hb8⟩ := h8.is_t (by first | rfl | trivial); have K8 := hid (K7.out.trans (hb8.mono K7.out.size)); clear h8 hb8)
       | (go_at_call 12; refine (LC.out _).mono ?_; rintro _ w7 ⟨rfl, hb7⟩; have K7 := hid (K6.out.trans (hb7.mono K6.out.size)); have S1 := hid (tre_same (ca := c4) (cb := c1) (T6.out.later hb7) (O6.out.later hb7) (by have := RT.out.few; omega) (by have := RT.out.few; omega)); clear hb7)
       | (have _q := T3.out; clear _q; go_at_call 10; refine (A2.out a3 c3 L3 w3 T3.out).mono ?_; rintro _ w6 ⟨a4, c4, L4, rfl, t6, hb6⟩; have T6 := hid t6; have K6 := hid (K3.out.trans (hb6.mono K3.out.size)); have O6 := hid (O3.out.later hb6); clear t6 hb6)
       | (go_at_call 10; refine (AC.out a1 c1 L1 w2 O2.out).mono ?_; rintro _ w3 ⟨a3, c3, L3, rfl, t3, hb3⟩; have T3 := hid t3; have K3 := hid (K2.out.trans (hb3.mono K2.out.size)); have O3 := hid (O2.out.later hb3); have oh3 := OB.out w3 (Z2.out.trans (hb3.mono Z2.out.size)); (have y0 : w3.cell? ⟨w.heap.size, 0, none⟩ = some (.int .u8 7) := cell_of_row2 oh3 0 rfl); (have y1 : w3.cell? ⟨w.heap.size, 1, none⟩ = some (.int .u32 0) := cell_of_row2 oh3 1 rfl); (have y2 : w3.cell? ⟨w.heap.size, 2, none⟩ = some (.int .u32 dir) := cell_of_row2 oh3 2 rfl); (have y3 : w3.cell? ⟨w.heap.size, 3, none⟩ = some (.string nm) := cell_of_row2 oh3 3 rfl); (have y4 : w3.cell? ⟨w.heap.size, 4, none⟩ = some (.int .u32 tof) := cell_of_row2 oh3 4 rfl); (have y5 : w3.cell? ⟨w.heap.size, 5, none⟩ = some (.string nm2) := cell_of_row2 oh3 5 rfl); (have y6 : w3.cell? ⟨w.heap.size, 6, none⟩ = some (.int .u16 0) := cell_of_row2 oh3 6 rfl); (have y7 : w3.cell? ⟨w.heap.size, 7, none⟩ = some (.string ⟨#[]⟩) := cell_of_row2 oh3 7 rfl); clear t3 hb3 oh3 v0 v1 v2 v3 v4 v5 v6 v7)
       | (go_at_call 27; refine K1.out.mono ?_; rintro _ w2 ⟨rfl, hb2⟩; have K2 := hid (B4.out.trans (hb2.mono B4.out.size)); have O2 := hid (T4.out.later hb2); have Z2 := hid hb2; have oh2 := OB.out w2 hb2; (have v0 : w2.cell? ⟨w.heap.size, 0, none⟩ = some (.int .u8 7) := cell_of_row2 oh2 0 rfl); (have v1 : w2.cell? ⟨w.heap.size, 1, none⟩ = some (.int .u32 0) := cell_of_row2 oh2 1 rfl); (have v2 : w2.cell? ⟨w.heap.size, 2, none⟩ = some (.int .u32 dir) := cell_of_row2 oh2 2 rfl); (have v3 : w2.cell? ⟨w.heap.size, 3, none⟩ = some (.string nm) := cell_of_row2 oh2 3 rfl); (have v4 : w2.cell? ⟨w.heap.size, 4, none⟩ = some (.int .u32 tof) := cell_of_row2 oh2 4 rfl); (have v5 : w2.cell? ⟨w.heap.size, 5, none⟩ = some (.string nm2) := cell_of_row2 oh2 5 rfl); (have v6 : w2.cell? ⟨w.heap.size, 6, none⟩ = some (.int .u16 0) := cell_of_row2 oh2 6 rfl); (have v7 : w2.cell? ⟨w.heap.size, 7, none⟩ = some (.string ⟨#[]⟩) := cell_of_row2 oh2 7 rfl); clear hb2 oh2 u4 u5))
     go_ret
     exact ⟨by first | rfl | simp, K8.out⟩
   · have heb : (ce != 0) = true := by simp [he]
     have LN := hid (NO.out he)
     clear RB2 XR NO
     go_wp2_with (first
       | (go_at_call 12; refine (LC.out _).mono ?_; rintro _ w7 ⟨rfl, hb7⟩; have K7 := hid (K3.out.trans (hb7.mono K3.out.size)); clear hb7)
       | (go_at_call 10; refine (AC.out a1 c1 L1 w2 O2.out).mono ?_; rintro _ w3 ⟨a3, c3, L3, rfl, t3, hb3⟩; have hl0 : L3.length = 0 := (by rw [t3.len]; simp only; rw [LN.out]; rfl); have K3 := hid (K2.out.trans (hb3.mono K2.out.size)); clear t3 hb3)
       | (go_at_call 27; refine K1.out.mono ?_; rintro _ w2 ⟨rfl, hb2⟩; have K2 := hid (B4.out.trans (hb2.mono B4.out.size)); have O2 := hid (T4.out.later hb2); have oh2 := OB.out w2 hb2; (have v0 : w2.cell? ⟨w.heap.size, 0, none⟩ = some (.int .u8 7) := cell_of_row2 oh2 0 rfl); (have v1 : w2.cell? ⟨w.heap.size, 1, none⟩ = some (.int .u32 0) := cell_of_row2 oh2 1 rfl); (have v2 : w2.cell? ⟨w.heap.size, 2, none⟩ = some (.int .u32 dir) := cell_of_row2 oh2 2 rfl); (have v3 : w2.cell? ⟨w.heap.size, 3, none⟩ = some (.string nm) := cell_of_row2 oh2 3 rfl); (have v4 : w2.cell? ⟨w.heap.size, 4, none⟩ = some (.int .u32 tof) := cell_of_row2 oh2 4 rfl); (have v5 : w2.cell? ⟨w.heap.size, 5, none⟩ = some (.string nm2) := cell_of_row2 oh2 5 rfl); (have v6 : w2.cell? ⟨w.heap.size, 6, none⟩ = some (.int .u16 0) := cell_of_row2 oh2 6 rfl); (have v7 : w2.cell? ⟨w.heap.size, 7, none⟩ = some (.string ⟨#[]⟩) := cell_of_row2 oh2 7 rfl); clear hb2 oh2 u4 u5))
     go_ret
     exact ⟨by first | rfl | simp, K7.out⟩
/-! ### The row of TreeRenames -/
theorem treeRenames_own : ownKnob Tryz.prog.godebug = none := by kernel_rfl
theorem treeRenames_laidOut : laidOutB Tryz.prog = true := by kernel_rfl
set_option maxRecDepth 100000 in
theorem treeRenames_lifted (os : Os) (started : os.Started) (H : Type) (enc : TypeId × Value → H) :
   ReturnsInHanded {} Tryz.checked os 7 .any (Rows.treeRenamesSpec.pre6 enc Tryz.prog Tryz.f7 Rows.treeRenamesRow.domain false) (Rows.treeRenamesSpec.post enc Tryz.prog Tryz.f7 false true false false) := by
 refine returnsInHanded_of_change (C := Tryz.checked) treeRenames_own started (by kernel_rfl) Tryz.func7
   (ChangeSpec.witness6 (enc := enc) (C := Tryz.checked) false ⟨#[], #[.slice none 0 0, .agg #[.int .u8 0, .int .u32 0, .int .u32 0, .string ByteArray.empty, .int .u32 0, .string ByteArray.empty, .int .u16 0, .string ByteArray.empty]], []⟩ 8 (by kernel_rfl) (by kernel_rfl) (by kernel_rfl) (by kernel_rfl)) ?_
 intro W base args ds gs before hval0 hW hcnd _
 have hval : ∀ (j : Nat) t v, Tryz.f7.params[j]? = some t → args[j]? = some v → Value.okWide Tryz.prog W .any base t v := hval0
 have hW' := hW
 obtain ⟨p, q, hA0, hV, rfl, hfz, hnd⟩ := hW
 have hA : DataW.TrodAll enc Tryz.prog W 0 (fun _ => true) true Tryz.f7.params.toList args.toList ds p := hA0
 rw [Tryz.params7] at hA hval
 obtain ⟨v0, vs0, d0, ds0, p0, q0, hargs, rfl, rfl, h0, r0⟩ := trodAll_cons hA
 obtain ⟨v1, vs1, d1, ds1, p1, q1, rfl, rfl, rfl, h1, r1⟩ := trodAll_cons r0
 obtain ⟨rfl, rfl, rfl⟩ := trodAll_nil r1
 obtain rfl : args = #[v0, v1] := by cases args; simp_all
 obtain ⟨rfl, rfl⟩ := trodVars_none hV
 have k0 := h0
 have lt0 : ∀ x ∈ p0, x.block < W.heap.size := by obtain ⟨m, hm⟩ := k0; exact DataW.trod_lt m _ _ _ hm
 obtain ⟨a0, len0, cap0, rfl⟩ := okWide_slice Tryz.underlying41 (hval 0 41 v0 rfl rfl)
 obtain ⟨z0, lz0, w0, lc0⟩ := isOs_of Tryz.underlying41 h0
 have k1 := h1
 have lt1 : ∀ x ∈ p1, x.block < W.heap.size := by obtain ⟨m, hm⟩ := k1; exact DataW.trod_lt m _ _ _ hm
 obtain ⟨q1, rfl, wq1⟩ := open_op (hval 1 28 v1 rfl rfl) h1
 clear hA0 hval0
 refine (treeRenames_walk a0 len0 cap0 z0 lz0 lc0 q1 W w0 wq1).mono fun e W' ⟨he, bel⟩ => ?_
 subst he
 exact ⟨_, rfl, _, _, _, [], _, [], hW', trodAll_mk1 (shut_bool Tryz.underlying4 _), (trodAll_cons_mk (Below.trod treeRenames_laidOut (by kernel_rfl) (of_decide_eq_true (by kernel_rfl)) k0 bel lt0) (trodAll_cons_mk (Below.trod treeRenames_laidOut (by kernel_rfl) (of_decide_eq_true (by kernel_rfl)) k1 bel lt1) trodAll_mk0)), rfl, bel.frame _, fun h => by cases h⟩
theorem treeRenames_over : Rows.treeRenamesRow.holds Tryz.pinned (OpenSpec.ofChange Rows.treeRenamesSpec) :=
 OpenClaim.holds_of_wide 7 Tryz.f7 rfl rfl rfl rfl rfl rfl rfl ⟨rfl, rfl, rfl, rfl, rfl⟩ rfl rfl rfl rfl rfl (by kernel_rfl) Tryz.func7 (by kernel_rfl)
   (of_decide_eq_true (by kernel_rfl)) (by unfold Func.isWrapper; first | (rw [if_pos (by decide +kernel)]; kernel_rfl) | (rw [if_neg (by decide +kernel)]; exact ⟨rfl, rfl⟩))
   (fun os started H enc _ => treeRenames_lifted os started H enc)
theorem treeRenames_holds : Rows.TreeRenamesSaid := treeRenames_over
#print axioms treeRenames_holds
end Go.Proofs.YtloojakcknnilaaGreat
