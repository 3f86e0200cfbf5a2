/-
  For every operations, and one that makes something: what is made and removed leaves all as it was.
-/
import Derived.Test.YtloojakcknnilaaGreatSmBo
import Derived.Test.YtloojakcknnilaaGreatSmBp
import Derived.Deep.CutRange
namespace Go.Proofs.YtloojakcknnilaaGreat
open Go.RowKit Go.ChangeShapes Go.WideShapes Go.ChangeAt Go.Maps Go.Shelf
open Go.ChangeMaps (open_string shut_string)
set_option linter.unusedVariables false
set_option linter.unusedSimpArgs false
set_option maxRecDepth 20000
set_option maxHeartbeats 4000000 in
theorem undo_b (a0 : Option Addr) (len0 cap0 : Nat) (ops : List Rec) (lz0 : ops.length = len0) (lc0 : len0 ≤ cap0) (fid dir tof md sn : Int) (nm nm2 dt : ByteArray) (w : World) (h0 : IsOs w a0 ops) (wq : (⟨2, fid, dir, nm, tof, nm2, md, dt, sn⟩ : Rec).Wf) :
   Calls Tryz.prog 6 #[.slice a0 len0 cap0, .agg #[.int .u8 2, .int .u32 fid, .int .u32 dir, .string nm, .int .u32 tof, .string nm2, .int .u16 md, .string dt]] w fun e w' => e = .returned (.bool true) ∧ Below w.heap.size w w' := by
 have b0 := below_1 w (.cells #[.int .u8 2, .int .u32 fid, .int .u32 dir, .string nm, .int .u32 tof, .string nm2, .int .u16 md, .string dt] 28)
 have h1 := heap_alloc_new w (.cells #[.int .u8 2, .int .u32 fid, .int .u32 dir, .string nm, .int .u32 tof, .string nm2, .int .u16 md, .string dt] 28)
 have MC := hid (made_c a0 len0 cap0 ops _ lz0 lc0 (h0.later b0))
 have RT := hid (pm_rt h0.2.1 40)
 have UN : Hid ((ApplyL (PmL ops 40) ⟨2, fid, dir, nm, tof, nm2, md, dt, sn⟩).1 = 0 → ApplyL (ApplyL (PmL ops 40) ⟨2, fid, dir, nm, tof, nm2, md, dt, sn⟩).2 (bkO ⟨2, fid, dir, nm, tof, nm2, md, dt, sn⟩ 6) = (0, PmL ops 40) ∧ (ApplyL (PmL ops 40) ⟨2, fid, dir, nm, tof, nm2, md, dt, sn⟩).2 ≠ PmL ops 40) := hid (undo_all (pm_rt h0.2.1 40) (pm_er h0.2.1 40) (o := ⟨2, fid, dir, nm, tof, nm2, md, dt, sn⟩) wq (by simp))
 have XR : Hid ((ApplyL (PmL ops 40) ⟨2, fid, dir, nm, tof, nm2, md, dt, sn⟩).1 = 0 → Rt (ApplyL (PmL ops 40) ⟨2, fid, dir, nm, tof, nm2, md, dt, sn⟩).2) := hid (ApplyL_rt wq)
 have NO := hid (ApplyL_no (l := PmL ops 40) (o := ⟨2, fid, dir, nm, tof, nm2, md, dt, sn⟩))
 have WF := hid wq
 have BX : Hid (∀ W, Below (w.alloc (.cells #[.int .u8 2, .int .u32 fid, .int .u32 dir, .string nm, .int .u32 tof, .string nm2, .int .u16 md, .string dt] 28)).heap.size (w.alloc (.cells #[.int .u8 2, .int .u32 fid, .int .u32 dir, .string nm, .int .u32 tof, .string nm2, .int .u16 md, .string dt] 28)) W → W.heap[w.heap.size]? = some (.cells #[.int .u8 2, .int .u32 fid, .int .u32 dir, .string nm, .int .u32 tof, .string nm2, .int .u16 md, .string dt] 28)) := hid (fun W hW => (hW.block _ (lt_blkR h1)).trans h1)
 have LT : Hid (w.heap.size < (w.alloc (.cells #[.int .u8 2, .int .u32 fid, .int .u32 dir, .string nm, .int .u32 tof, .string nm2, .int .u16 md, .string dt] 28)).heap.size) := hid (lt_blkR h1)
 have B0 := hid b0
 have LC := hid (fun W => tlive_c W)
 have BK : Hid ((bkO ⟨2, fid, dir, nm, tof, nm2, md, dt, sn⟩ 6).Wf) := hid (bk_wf wq (by simp))
 generalize PmL ops 40 = t at *
 obtain ⟨⟨ce, X⟩, Hr⟩ : ∃ r, Hid (ApplyL t ⟨2, fid, dir, nm, tof, nm2, md, dt, sn⟩ = r) := ⟨_, hid rfl⟩
 rw [Hr.out] at UN XR NO
 simp only at UN XR NO
 have AC : Hid (∀ (a : Option Addr) (c : Nat) (L : List Nd) (W : World), TrE W a L t → Calls Tryz.prog 10 #[.slice a L.length c, .agg #[.int .u8 2, .int .u32 fid, .int .u32 dir, .string nm, .int .u32 tof, .string nm2, .int .u16 md, .string dt]] W (OpP W (ce, X))) := hid (fun a c L W h => by
   have := apply_c c ⟨2, fid, dir, nm, tof, nm2, md, dt, sn⟩ W h (by have := RT.out.few; omega) WF.out
   rw [Hr.out] at this
   exact this)
 clear b0 h1 h0 wq Hr
 have hce : (ce != 0) = !(decide (ce = 0)) := by
   by_cases q : ce = 0 <;> simp [q]
 go_enter Tryz.func6, Tryz.ntmps6
 go_upto_region 1 with fail
 generalize w.alloc (.cells #[.int .u8 2, .int .u32 fid, .int .u32 dir, .string nm, .int .u32 tof, .string nm2, .int .u16 md, .string dt] 28) = V at *
 go_upto_region 4 with (go_at_call 26; refine MC.out.mono ?_; rintro _ w1 ⟨a1, c1, L1, rfl, t1, hb1⟩; have T1 := hid t1; have B1 := hid (B0.out.trans (hb1.mono B0.out.size)); have V1 := hid hb1; have oh := BX.out w1 hb1; (have u0 : w1.cell? ⟨w.heap.size, 0, none⟩ = some (.int .u8 2) := cell_of_row2 oh 0 rfl); (have fz : w1.frozen? ⟨w.heap.size, 0, none⟩ = false := by simp [World.frozen?, oh]); clear t1 hb1 oh)
 have OB : Hid (∀ W, Below w1.heap.size w1 W → W.heap[w.heap.size]? = some (.cells #[.int .u8 2, .int .u32 fid, .int .u32 dir, .string nm, .int .u32 tof, .string nm2, .int .u16 md, .string dt] 28)) := hid (fun W hW => BX.out W (V1.out.trans (hW.mono V1.out.size)))
 have T4 : Hid (TrE w1 a1 L1 t) := hid (T1.out.tre (by have := RT.out.few; omega))
 have B4 := hid B1.out
 clear u0 fz T1 B1
 generalize w1 = W4 at *
 have u0 : W4.cell? ⟨w.heap.size, 0, none⟩ = some (.int .u8 2) := cell_of_row2 (OB.out W4 (Below.refl _ _)) 0 rfl
 have u1 : W4.cell? ⟨w.heap.size, 1, none⟩ = some (.int .u32 fid) := cell_of_row2 (OB.out W4 (Below.refl _ _)) 1 rfl
 have u2 : W4.cell? ⟨w.heap.size, 2, none⟩ = some (.int .u32 dir) := cell_of_row2 (OB.out W4 (Below.refl _ _)) 2 rfl
 have u3 : W4.cell? ⟨w.heap.size, 3, none⟩ = some (.string nm) := cell_of_row2 (OB.out W4 (Below.refl _ _)) 3 rfl
 have u4 : W4.cell? ⟨w.heap.size, 4, none⟩ = some (.int .u32 tof) := cell_of_row2 (OB.out W4 (Below.refl _ _)) 4 rfl
 have u5 : W4.cell? ⟨w.heap.size, 5, none⟩ = some (.string nm2) := cell_of_row2 (OB.out W4 (Below.refl _ _)) 5 rfl
 have u6 : W4.cell? ⟨w.heap.size, 6, none⟩ = some (.int .u16 md) := cell_of_row2 (OB.out W4 (Below.refl _ _)) 6 rfl
 have u7 : W4.cell? ⟨w.heap.size, 7, none⟩ = some (.string dt) := cell_of_row2 (OB.out W4 (Below.refl _ _)) 7 rfl
 have A1 := hid (AC.out a1 c1 L1 W4 T4.out)
 clear MC BX LT V1 AC
 by_cases he : ce = 0
 · subst he
   obtain ⟨hu1, hu2⟩ := UN.out rfl
   have U2 := hid hu2
   have RX := hid (XR.out rfl)
   have A2 : Hid (∀ (a : Option Addr) (c : Nat) (L : List Nd) (W : World), TrE W a L X → Calls Tryz.prog 10 #[.slice a L.length c, .agg #[.int .u8 6, .int .u32 0, .int .u32 dir, .string nm, .int .u32 0, .string ⟨#[]⟩, .int .u16 0, .string ⟨#[]⟩]] W (OpP W (0, t))) := hid (fun a c L W h => by
     have := apply_c c (bkO ⟨2, fid, dir, nm, tof, nm2, md, dt, sn⟩ 6) W h (by have := RX.out.few; omega) BK.out
     rw [hu1] at this
     exact this)
   clear UN XR NO hu1 hu2 hce
   go_wp2_with (first
     | (have _q := S2.out; clear _q; go_at_call 25; refine S2.out.mono ?_; intro _ w9 h9; obtain ⟨rfl, hb9⟩ := h9.is_f U2.out; have K9 := hid (K8.out.trans (hb9.mono K8.out.size)); clear h9 hb9)
     | (have _q := S1.out; clear _q; go_at_call 25; refine S1.out.mono ?_; intro _ w8 h8; obtain ⟨rfl, hb8⟩ := h8.is_t (by first | rfl | trivial); have K8 := hid (K7.out.trans (hb8.mono K7.out.size)); have S2 := hid (tre_same (ca := c2) (cb := c1) (X7.out.later hb8) (O7.out.later hb8) (by have := RX.out.few; omega) (by have := RT.out.few; omega)); clear h8 hb8)
     | (go_at_call 12; refine (LC.out _).mono ?_; rintro _ w7 ⟨rfl, hb7⟩; have K7 := hid (K6.out.trans (hb7.mono K6.out.size)); have X7 := hid (X6.out.later hb7); have O7 := hid (O6.out.later hb7); have S1 := hid (tre_same (ca := c3) (cb := c1) (T3.out.later hb7) (O6.out.later hb7) (by have := RT.out.few; omega) (by have := RT.out.few; omega)); clear hb7)
     | (have _q := T2.out; clear _q; go_at_call 10; refine (A2.out a2 c2 L2 _ (T2.out.later (below_1 _ _))).mono ?_; rintro _ w6 ⟨a3, c3, L3, rfl, t3, hb6⟩; have b2 := (below_1 w2 (.cells #[.int .u8 6, .int .u32 0, .int .u32 dir, .string nm, .int .u32 0, .string ⟨#[]⟩, .int .u16 0, .string ⟨#[]⟩] 28)); have b3 := b2.trans (hb6.mono b2.size); have T3 := hid t3; have K6 := hid (K2.out.trans (b3.mono K2.out.size)); have X6 := hid (T2.out.later b3); have O6 := hid (O2.out.later b3); clear t3 hb6 b2 b3)
     | (go_at_call 10; refine A1.out.mono ?_; rintro _ w2 ⟨a2, c2, L2, rfl, t2, hb2⟩; have T2 := hid t2; have K2 := hid (B4.out.trans (hb2.mono B4.out.size)); have O2 := hid (T4.out.later hb2); have oh2 := OB.out w2 hb2; (have v0 : w2.cell? ⟨w.heap.size, 0, none⟩ = some (.int .u8 2) := cell_of_row2 oh2 0 rfl); (have v2 : w2.cell? ⟨w.heap.size, 2, none⟩ = some (.int .u32 dir) := cell_of_row2 oh2 2 rfl); (have v3 : w2.cell? ⟨w.heap.size, 3, none⟩ = some (.string nm) := cell_of_row2 oh2 3 rfl); have hlt2 : w.heap.size < w2.heap.size := (lt_blkR oh2); have v0' := cell_later (below_1 w2 (.cells #[.int .u8 5, .int .u32 0, .int .u32 dir, .string nm, .int .u32 0, .string ⟨#[]⟩, .int .u16 0, .string ⟨#[]⟩] 28)) v0; clear t2 hb2 oh2 u0 u1 u2 u3 u4 u5 u6 u7))
   go_ret
   exact ⟨by first | rfl | simp, K9.out⟩
 · have heb : (ce != 0) = true := by simp [he]
   have LN := hid (NO.out he)
   clear UN XR NO hce
   go_wp2_with (first
     | (go_at_call 12; refine (LC.out _).mono ?_; rintro _ w7 ⟨rfl, hb7⟩; have K7 := hid (K2.out.trans (hb7.mono K2.out.size)); clear hb7)
     | (go_at_call 10; refine A1.out.mono ?_; rintro _ w2 ⟨a2, c2, L2, rfl, t2, hb2⟩; have hl0 : L2.length = 0 := (by rw [t2.len]; simp only; rw [LN.out]; rfl); have K2 := hid (B4.out.trans (hb2.mono B4.out.size)); clear t2 hb2))
   go_ret
   exact ⟨by first | rfl | simp, K7.out⟩
set_option maxHeartbeats 4000000 in
theorem undo_n (k kn : Int) (hk2 : ¬ k = 2) (hkn : (k = kn ∧ (k = 1 ∨ k = 3 ∨ k = 4)) ∨ (kn = 1 ∧ ¬ k = 1 ∧ ¬ k = 3 ∧ ¬ k = 4)) (a0 : Option Addr) (len0 cap0 : Nat) (ops : List Rec) (lz0 : ops.length = len0) (lc0 : len0 ≤ cap0) (fid dir tof md sn : Int) (nm nm2 dt : ByteArray) (w : World) (h0 : IsOs w a0 ops) (wq : (⟨kn, fid, dir, nm, tof, nm2, md, dt, sn⟩ : Rec).Wf) :
   Calls Tryz.prog 6 #[.slice a0 len0 cap0, .agg #[.int .u8 k, .int .u32 fid, .int .u32 dir, .string nm, .int .u32 tof, .string nm2, .int .u16 md, .string dt]] w fun e w' => e = .returned (.bool true) ∧ Below w.heap.size w w' := by
 have b0 := below_1 w (.cells #[.int .u8 k, .int .u32 fid, .int .u32 dir, .string nm, .int .u32 tof, .string nm2, .int .u16 md, .string dt] 28)
 have h1 := heap_alloc_new w (.cells #[.int .u8 k, .int .u32 fid, .int .u32 dir, .string nm, .int .u32 tof, .string nm2, .int .u16 md, .string dt] 28)
 have MC := hid (made_c a0 len0 cap0 ops _ lz0 lc0 (h0.later b0))
 have RT := hid (pm_rt h0.2.1 40)
 have UN : Hid ((ApplyL (PmL ops 40) ⟨kn, fid, dir, nm, tof, nm2, md, dt, sn⟩).1 = 0 → ApplyL (ApplyL (PmL ops 40) ⟨kn, fid, dir, nm, tof, nm2, md, dt, sn⟩).2 (bkO ⟨kn, fid, dir, nm, tof, nm2, md, dt, sn⟩ 5) = (0, PmL ops 40) ∧ (ApplyL (PmL ops 40) ⟨kn, fid, dir, nm, tof, nm2, md, dt, sn⟩).2 ≠ PmL ops 40) := hid (fun h => by have := undo_all (pm_rt h0.2.1 40) (pm_er h0.2.1 40) (o := ⟨kn, fid, dir, nm, tof, nm2, md, dt, sn⟩) wq (by show kn = 1 ∨ kn = 2 ∨ kn = 3 ∨ kn = 4; omega) h; have h9 : (if (⟨kn, fid, dir, nm, tof, nm2, md, dt, sn⟩ : Rec).k = 2 then (6 : Int) else 5) = 5 := if_neg (by show ¬ kn = 2; omega); rw [h9] at this; exact this)
 have XR : Hid ((ApplyL (PmL ops 40) ⟨kn, fid, dir, nm, tof, nm2, md, dt, sn⟩).1 = 0 → Rt (ApplyL (PmL ops 40) ⟨kn, fid, dir, nm, tof, nm2, md, dt, sn⟩).2) := hid (ApplyL_rt wq)
 have NO := hid (ApplyL_no (l := PmL ops 40) (o := ⟨kn, fid, dir, nm, tof, nm2, md, dt, sn⟩))
 have WF := hid wq
 have BX : Hid (∀ W, Below (w.alloc (.cells #[.int .u8 k, .int .u32 fid, .int .u32 dir, .string nm, .int .u32 tof, .string nm2, .int .u16 md, .string dt] 28)).heap.size (w.alloc (.cells #[.int .u8 k, .int .u32 fid, .int .u32 dir, .string nm, .int .u32 tof, .string nm2, .int .u16 md, .string dt] 28)) W → W.heap[w.heap.size]? = some (.cells #[.int .u8 k, .int .u32 fid, .int .u32 dir, .string nm, .int .u32 tof, .string nm2, .int .u16 md, .string dt] 28)) := hid (fun W hW => (hW.block _ (lt_blkR h1)).trans h1)
 have LT : Hid (w.heap.size < (w.alloc (.cells #[.int .u8 k, .int .u32 fid, .int .u32 dir, .string nm, .int .u32 tof, .string nm2, .int .u16 md, .string dt] 28)).heap.size) := hid (lt_blkR h1)
 have B0 := hid b0
 have LC := hid (fun W => tlive_c W)
 have BK : Hid ((bkO ⟨kn, fid, dir, nm, tof, nm2, md, dt, sn⟩ 5).Wf) := hid (bk_wf wq (by simp))
 have HK := hid hkn
 have hb2 : (k != 2) = true := by simp [hk2]
 have hkb : (kn == 2) = false := beq_eq_false_iff_ne.2 (by omega)
 have HU : (kn : Int) ≠ 2 := by omega
 generalize PmL ops 40 = t at *
 obtain ⟨⟨ce, X⟩, Hr⟩ : ∃ r, Hid (ApplyL t ⟨kn, fid, dir, nm, tof, nm2, md, dt, sn⟩ = r) := ⟨_, hid rfl⟩
 rw [Hr.out] at UN XR NO
 simp only at UN XR NO
 have AC : Hid (∀ (a : Option Addr) (c : Nat) (L : List Nd) (W : World), TrE W a L t → Calls Tryz.prog 10 #[.slice a L.length c, .agg #[.int .u8 kn, .int .u32 fid, .int .u32 dir, .string nm, .int .u32 tof, .string nm2, .int .u16 md, .string dt]] W (OpP W (ce, X))) := hid (fun a c L W h => by
   have := apply_c c ⟨kn, fid, dir, nm, tof, nm2, md, dt, sn⟩ W h (by have := RT.out.few; omega) WF.out
   rw [Hr.out] at this
   exact this)
 clear b0 h1 h0 wq Hr
 have hce : (ce != 0) = !(decide (ce = 0)) := by
   by_cases q : ce = 0 <;> simp [q]
 go_enter Tryz.func6, Tryz.ntmps6
 go_upto_region 1 with fail
 generalize w.alloc (.cells #[.int .u8 k, .int .u32 fid, .int .u32 dir, .string nm, .int .u32 tof, .string nm2, .int .u16 md, .string dt] 28) = V at *
 obtain ⟨C, HC⟩ : ∃ C : Bool, Hid (C = decide (¬ k = 1 ∧ ¬ k = 3 ∧ ¬ k = 4)) := ⟨_, hid rfl⟩
 go_upto_region 2 with (go_at_call 26; refine MC.out.mono ?_; rintro _ w1 ⟨a1, c1, L1, rfl, t1, hb1⟩; have T1 := hid t1; have B1 := hid (B0.out.trans (hb1.mono B0.out.size)); have V1 := hid hb1; have oh := BX.out w1 hb1; (have u0 : w1.cell? ⟨w.heap.size, 0, none⟩ = some (.int .u8 k) := cell_of_row2 oh 0 rfl); (have fz : w1.frozen? ⟨w.heap.size, 0, none⟩ = false := by simp [World.frozen?, oh]); clear t1 hb1 oh)
 go_cut [30] from 13 (fun s wx => s = .bool C ∧ wx = w1)
 case first =>
   by_cases q1 : k = 1
   · subst q1
     have EC : Hid (C = false) := hid (by rw [HC.out]; exact decide_eq_false (fun h => h.1 rfl))
     go_wp2
     go_meet
     exact ⟨by rw [EC.out], rfl⟩
   · have e1 : (k != 1) = true := by simp [q1]
     by_cases q3 : k = 3
     · subst q3
       have EC : Hid (C = false) := hid (by rw [HC.out]; exact decide_eq_false (fun h => h.2.1 rfl))
       go_wp2
       go_meet
       exact ⟨by rw [EC.out], rfl⟩
     · have e3 : (k != 3) = true := by simp [q3]
       by_cases q4 : k = 4
       · subst q4
         have EC : Hid (C = false) := hid (by rw [HC.out]; exact decide_eq_false (fun h => h.2.2 rfl))
         go_wp2
         go_meet
         exact ⟨by rw [EC.out], rfl⟩
       · have e4 : (k != 4) = true := by simp [q4]
         have EC : Hid (C = true) := hid (by rw [HC.out]; exact decide_eq_true ⟨q1, q3, q4⟩)
         go_wp2
         go_meet
         exact ⟨by rw [EC.out], rfl⟩
 case rest =>
  obtain ⟨rfl, hwc⟩ := hcut
  subst hwc
  go_upto_if 30 with fail
  go_cut [] from 31 (fun wx => ∃ wy, wy = wx ∧ Hid (∀ W, Below wy.heap.size wy W → W.heap[w.heap.size]? = some (.cells #[.int .u8 kn, .int .u32 fid, .int .u32 dir, .string nm, .int .u32 tof, .string nm2, .int .u16 md, .string dt] 28)) ∧ Hid (TrE wy a1 L1 t) ∧ Hid (Below w.heap.size w wy))
  case first =>
   cases C with
   | false =>
     have ek : k = kn := by have := of_decide_eq_false HC.out.symm; have := HK.out; omega
     have OB := BX.out
     rw [ek] at OB
     have V1' := V1
     have B1' := B1
     have T1' := hid (T1.out.tre (by have := RT.out.few; omega))
     go_wp2
     go_meet
     exact ⟨_, rfl, hid (fun W hW => OB W (V1'.out.trans (hW.mono V1'.out.size))), T1', B1'⟩
   | true =>
     have ek : kn = 1 := by have := of_decide_eq_true HC.out.symm; have := HK.out; omega
     have OB : Hid (∀ W, Below (wc.setCell ⟨w.heap.size, 0, none⟩ (.int .u8 1)).heap.size (wc.setCell ⟨w.heap.size, 0, none⟩ (.int .u8 1)) W → W.heap[w.heap.size]? = some (.cells #[.int .u8 kn, .int .u32 fid, .int .u32 dir, .string nm, .int .u32 tof, .string nm2, .int .u16 md, .string dt] 28)) := hid (fun W hW => by
       have hl : w.heap.size < wc.heap.size := Nat.lt_of_lt_of_le LT.out V1.out.size
       rw [hW.block _ (by simpa [World.setCell] using hl)]
       have h9 := BX.out wc V1.out
       simp only [World.setCell]
       rw [Array.getElem?_modify, if_pos rfl, h9, ek]
       rfl)
     have T4 : Hid (TrE (wc.setCell ⟨w.heap.size, 0, none⟩ (.int .u8 1)) a1 L1 t) := hid ((T1.out.setLow LT.out).tre (by have := RT.out.few; omega))
     have B4 := hid (B1.out.setCell (p := ⟨w.heap.size, 0, none⟩) (Nat.le_refl _) (.int .u8 1))
     go_wp2
     go_meet
     exact ⟨_, rfl, OB, T4, B4⟩
  case rest =>
   obtain ⟨W4, hW4, OB, T4, B4⟩ := hcut
   subst hW4
   clear u0 fz T1 B1 HC HK
   have u0 : W4.cell? ⟨w.heap.size, 0, none⟩ = some (.int .u8 kn) := cell_of_row2 (OB.out W4 (Below.refl _ _)) 0 rfl
   have u1 : W4.cell? ⟨w.heap.size, 1, none⟩ = some (.int .u32 fid) := cell_of_row2 (OB.out W4 (Below.refl _ _)) 1 rfl
   have u2 : W4.cell? ⟨w.heap.size, 2, none⟩ = some (.int .u32 dir) := cell_of_row2 (OB.out W4 (Below.refl _ _)) 2 rfl
   have u3 : W4.cell? ⟨w.heap.size, 3, none⟩ = some (.string nm) := cell_of_row2 (OB.out W4 (Below.refl _ _)) 3 rfl
   have u4 : W4.cell? ⟨w.heap.size, 4, none⟩ = some (.int .u32 tof) := cell_of_row2 (OB.out W4 (Below.refl _ _)) 4 rfl
   have u5 : W4.cell? ⟨w.heap.size, 5, none⟩ = some (.string nm2) := cell_of_row2 (OB.out W4 (Below.refl _ _)) 5 rfl
   have u6 : W4.cell? ⟨w.heap.size, 6, none⟩ = some (.int .u16 md) := cell_of_row2 (OB.out W4 (Below.refl _ _)) 6 rfl
   have u7 : W4.cell? ⟨w.heap.size, 7, none⟩ = some (.string dt) := cell_of_row2 (OB.out W4 (Below.refl _ _)) 7 rfl
   have A1 := hid (AC.out a1 c1 L1 W4 T4.out)
   clear MC BX LT V1 AC
   by_cases he : ce = 0
   · subst he
     obtain ⟨hu1, hu2⟩ := UN.out rfl
     have U2 := hid hu2
     have RX := hid (XR.out rfl)
     have A2 : Hid (∀ (a : Option Addr) (c : Nat) (L : List Nd) (W : World), TrE W a L X → Calls Tryz.prog 10 #[.slice a L.length c, .agg #[.int .u8 5, .int .u32 0, .int .u32 dir, .string nm, .int .u32 0, .string ⟨#[]⟩, .int .u16 0, .string ⟨#[]⟩]] W (OpP W (0, t))) := hid (fun a c L W h => by
       have := apply_c c (bkO ⟨kn, fid, dir, nm, tof, nm2, md, dt, sn⟩ 5) W h (by have := RX.out.few; omega) BK.out
       rw [hu1] at this
       exact this)
     clear UN XR NO hu1 hu2 hce
     go_wp2_with (first
       | (have _q := S2.out; clear _q; go_at_call 25; refine S2.out.mono ?_; intro _ w9 h9; obtain ⟨rfl, hb9⟩ := h9.is_f U2.out; have K9 := hid (K8.out.trans (hb9.mono K8.out.size)); clear h9 hb9)
       | (have _q := S1.out; clear _q; go_at_call 25; refine S1.out.mono ?_; intro _ w8 h8; obtain ⟨rfl, hb8⟩ := h8.is_t (by first | rfl | trivial); have K8 := hid (K7.out.trans (hb8.mono K7.out.size)); have S2 := hid (tre_same (ca := c2) (cb := c1) (X7.out.later hb8) (O7.out.later hb8) (by have := RX.out.few; omega) (by have := RT.out.few; omega)); clear h8 hb8)
       | (go_at_call 12; refine (LC.out _).mono ?_; rintro _ w7 ⟨rfl, hb7⟩; have K7 := hid (K6.out.trans (hb7.mono K6.out.size)); have X7 := hid (X6.out.later hb7); have O7 := hid (O6.out.later hb7); have S1 := hid (tre_same (ca := c3) (cb := c1) (T3.out.later hb7) (O6.out.later hb7) (by have := RT.out.few; omega) (by have := RT.out.few; omega)); clear hb7)
       | (have _q := T2.out; clear _q; go_at_call 10; refine (A2.out a2 c2 L2 _ (T2.out.later (below_1 _ _))).mono ?_; rintro _ w6 ⟨a3, c3, L3, rfl, t3, hb6⟩; have b2 := (below_1 w2 (.cells #[.int .u8 5, .int .u32 0, .int .u32 dir, .string nm, .int .u32 0, .string ⟨#[]⟩, .int .u16 0, .string ⟨#[]⟩] 28)); have b3 := b2.trans (hb6.mono b2.size); have T3 := hid t3; have K6 := hid (K2.out.trans (b3.mono K2.out.size)); have X6 := hid (T2.out.later b3); have O6 := hid (O2.out.later b3); clear t3 hb6 b2 b3)
       | (go_at_call 10; refine A1.out.mono ?_; rintro _ w2 ⟨a2, c2, L2, rfl, t2, hb2⟩; have T2 := hid t2; have K2 := hid (B4.out.trans (hb2.mono B4.out.size)); have O2 := hid (T4.out.later hb2); have oh2 := OB.out w2 hb2; (have v0 : w2.cell? ⟨w.heap.size, 0, none⟩ = some (.int .u8 kn) := cell_of_row2 oh2 0 rfl); (have v2 : w2.cell? ⟨w.heap.size, 2, none⟩ = some (.int .u32 dir) := cell_of_row2 oh2 2 rfl); (have v3 : w2.cell? ⟨w.heap.size, 3, none⟩ = some (.string nm) := cell_of_row2 oh2 3 rfl); have hlt2 : w.heap.size < w2.heap.size := (lt_blkR oh2); have v0' := cell_later (below_1 w2 (.cells #[.int .u8 5, .int .u32 0, .int .u32 dir, .string nm, .int .u32 0, .string ⟨#[]⟩, .int .u16 0, .string ⟨#[]⟩] 28)) v0; clear t2 hb2 oh2 u0 u1 u2 u3 u4 u5 u6 u7))
     go_ret
     exact ⟨by first | rfl | simp, K9.out⟩
   · have heb : (ce != 0) = true := by simp [he]
     have LN := hid (NO.out he)
     clear UN XR NO hce
     go_wp2_with (first
       | (go_at_call 12; refine (LC.out _).mono ?_; rintro _ w7 ⟨rfl, hb7⟩; have K7 := hid (K2.out.trans (hb7.mono K2.out.size)); clear hb7)
       | (go_at_call 10; refine A1.out.mono ?_; rintro _ w2 ⟨a2, c2, L2, rfl, t2, hb2⟩; have hl0 : L2.length = 0 := (by rw [t2.len]; simp only; rw [LN.out]; rfl); have K2 := hid (B4.out.trans (hb2.mono B4.out.size)); clear t2 hb2))
     go_ret
     exact ⟨by first | rfl | simp, K7.out⟩
theorem treeUndoes_walk (a0 : Option Addr) (len0 cap0 : Nat) (ops : List Rec) (lz0 : ops.length = len0) (lc0 : len0 ≤ cap0) (o : Rec) (w : World) (h0 : IsOs w a0 ops) (wq : o.Wf) :
   Calls Tryz.prog 6 #[.slice a0 len0 cap0, o.opV] w fun e w' => e = .returned (.bool true) ∧ Below w.heap.size w w' := by
 obtain ⟨k, fid, dir, nm, tof, nm2, md, dt, sn⟩ := o
 by_cases h2 : k = 2
 · subst h2; exact undo_b a0 len0 cap0 ops lz0 lc0 fid dir tof md sn nm nm2 dt w h0 wq
 by_cases h1 : k = 1 ∨ k = 3 ∨ k = 4
 · exact undo_n k k h2 (.inl ⟨rfl, h1⟩) a0 len0 cap0 ops lz0 lc0 fid dir tof md sn nm nm2 dt w h0 wq
 have wq2 : (⟨1, fid, dir, nm, tof, nm2, md, dt, sn⟩ : Rec).Wf := ⟨⟨by show (0 : Int) ≤ 1; omega, by show (1 : Int) < 256; omega⟩, wq.2⟩
 exact undo_n k 1 h2 (.inr ⟨rfl, by omega⟩) a0 len0 cap0 ops lz0 lc0 fid dir tof md sn nm nm2 dt w h0 wq2
/-! ### The row of TreeUndoes -/
theorem treeUndoes_own : ownKnob Tryz.prog.godebug = none := by kernel_rfl
theorem treeUndoes_laidOut : laidOutB Tryz.prog = true := by kernel_rfl
set_option maxRecDepth 100000 in
theorem treeUndoes_lifted (os : Os) (started : os.Started) (H : Type) (enc : TypeId × Value → H) :
   ReturnsInHanded {} Tryz.checked os 6 .any (Rows.treeUndoesSpec.pre6 enc Tryz.prog Tryz.f6 Rows.treeUndoesRow.domain false) (Rows.treeUndoesSpec.post enc Tryz.prog Tryz.f6 false true false false) := by
 refine returnsInHanded_of_change (C := Tryz.checked) treeUndoes_own started (by kernel_rfl) Tryz.func6
   (ChangeSpec.witness6 (enc := enc) (C := Tryz.checked) false ⟨#[], #[.slice none 0 0, .agg #[.int .u8 0, .int .u32 0, .int .u32 0, .string ByteArray.empty, .int .u32 0, .string ByteArray.empty, .int .u16 0, .string ByteArray.empty]], []⟩ 8 (by kernel_rfl) (by kernel_rfl) (by kernel_rfl) (by kernel_rfl)) ?_
 intro W base args ds gs before hval0 hW hcnd _
 have hval : ∀ (j : Nat) t v, Tryz.f6.params[j]? = some t → args[j]? = some v → Value.okWide Tryz.prog W .any base t v := hval0
 have hW' := hW
 obtain ⟨p, q, hA0, hV, rfl, hfz, hnd⟩ := hW
 have hA : DataW.TrodAll enc Tryz.prog W 0 (fun _ => true) true Tryz.f6.params.toList args.toList ds p := hA0
 rw [Tryz.params6] at hA hval
 obtain ⟨v0, vs0, d0, ds0, p0, q0, hargs, rfl, rfl, h0, r0⟩ := trodAll_cons hA
 obtain ⟨v1, vs1, d1, ds1, p1, q1, rfl, rfl, rfl, h1, r1⟩ := trodAll_cons r0
 obtain ⟨rfl, rfl, rfl⟩ := trodAll_nil r1
 obtain rfl : args = #[v0, v1] := by cases args; simp_all
 obtain ⟨rfl, rfl⟩ := trodVars_none hV
 have k0 := h0
 have lt0 : ∀ x ∈ p0, x.block < W.heap.size := by obtain ⟨m, hm⟩ := k0; exact DataW.trod_lt m _ _ _ hm
 obtain ⟨a0, len0, cap0, rfl⟩ := okWide_slice Tryz.underlying41 (hval 0 41 v0 rfl rfl)
 obtain ⟨z0, lz0, w0, lc0⟩ := isOs_of Tryz.underlying41 h0
 have k1 := h1
 have lt1 : ∀ x ∈ p1, x.block < W.heap.size := by obtain ⟨m, hm⟩ := k1; exact DataW.trod_lt m _ _ _ hm
 obtain ⟨q1, rfl, wq1⟩ := open_op (hval 1 28 v1 rfl rfl) h1
 clear hA0 hval0
 refine (treeUndoes_walk a0 len0 cap0 z0 lz0 lc0 q1 W w0 wq1).mono fun e W' ⟨he, bel⟩ => ?_
 subst he
 exact ⟨_, rfl, _, _, _, [], _, [], hW', trodAll_mk1 (shut_bool Tryz.underlying4 _), (trodAll_cons_mk (Below.trod treeUndoes_laidOut (by kernel_rfl) (of_decide_eq_true (by kernel_rfl)) k0 bel lt0) (trodAll_cons_mk (Below.trod treeUndoes_laidOut (by kernel_rfl) (of_decide_eq_true (by kernel_rfl)) k1 bel lt1) trodAll_mk0)), rfl, bel.frame _, fun h => by cases h⟩
theorem treeUndoes_over : Rows.treeUndoesRow.holds Tryz.pinned (OpenSpec.ofChange Rows.treeUndoesSpec) :=
 OpenClaim.holds_of_wide 6 Tryz.f6 rfl rfl rfl rfl rfl rfl rfl ⟨rfl, rfl, rfl, rfl, rfl⟩ rfl rfl rfl rfl rfl (by kernel_rfl) Tryz.func6 (by kernel_rfl)
   (of_decide_eq_true (by kernel_rfl)) (by unfold Func.isWrapper; first | (rw [if_pos (by decide +kernel)]; kernel_rfl) | (rw [if_neg (by decide +kernel)]; exact ⟨rfl, rfl⟩))
   (fun os started H enc _ => treeUndoes_lifted os started H enc)
theorem treeUndoes_holds : Rows.TreeUndoesSaid := treeUndoes_over
#print axioms treeUndoes_holds
end Go.Proofs.YtloojakcknnilaaGreat
