/-
  For every operation, every records (the first forty are looked at) and every bytes (the first 20000): what is read of what was written is it, and what is written of what was read are the bytes.
-/
import Derived.Test.YtpfknjhheclmlaaRRe
namespace Go.Proofs.Ytpfknjhheclmlaa
open Go.RowKit Go.ChangeShapes Go.WideShapes Go.ChangeAt Go.Maps Go.Shelf
open Go.ChangeMaps (open_string shut_string)
set_option linter.unusedVariables false
set_option linter.unusedSimpArgs false
theorem few7_le (n : Nat) : few7 n ≤ n := by unfold few7; split <;> omega
set_option maxRecDepth 20000 in
set_option maxHeartbeats 4000000 in
theorem recordBack_f_no_none (x : Rec) (a : Option Addr) (cap : Nat) (l0 : List Rec) (hc : l0.length ≤ cap) (a2 : Option Addr) (len2 cap2 : Nat) (z2 : List Int) (lc2 : len2 ≤ cap2) (w : World) (hx : x.Wf) (h : IsL w a l0) (h2 : IsB w a2 len2 z2) (rx : rightF x = false) (q : l0.length ≤ 40) (ok : recsOk l0 = false) (hr : recsAll (z2.take (few7 len2)) = none) :
    Calls Try.prog 6 #[x.opV, .slice a l0.length cap, .slice a2 len2 cap2] w fun e w' => e = .returned (.bool true) ∧ Below w.heap.size w w' := by
  have hm := h.1
  unfold maxLen at hm
  have I3 := h2.front (few7 len2) (few7_le _)
  have hcf : few7 len2 ≤ cap2 := Nat.le_trans (few7_le _) lc2
  have FW := hid (fun W (hW : Below w.heap.size w W) => few7_c a2 len2 cap2 z2 W (h2.later hW) lc2)
  have RA := hid (fun W (hW : Below w.heap.size w W) => readAny_c a2 (few7 len2) cap2 _ W (I3.later hW) hcf)
  rw [hr] at RA
  unfold ReadsL at RA
  have LC := hid rlive_c
  have tF := hid True.intro
  generalize few7 len2 = n3 at *
  clear hr I3 h2 lc2 hcf
  have hX0 := heap_alloc_new w (.cells x.ops.toArray 27)
  have HX0 := hid hX0
  have B0 := hid (below_1 w (.cells x.ops.toArray 27))
  obtain ⟨p0, p1, p2, p3, p4, p5, p6, p7⟩ := op_all hX0
  simp only [Rec.ops] at p0 p1 p2 p3 p4 p5 p6 p7
  have OX := hid (op_c x (w.alloc (.cells x.ops.toArray 27)) hx)
  rw [rx] at OX
  simp only [Bool.false_eq_true, if_false] at OX
  clear hX0
  have qI : ¬ (40 : Int) < l0.length := by omega
  have HR0 := hid (fun W (hW : Below w.heap.size w W) => records_c a cap l0 W (h.later hW) (by omega))
  rw [ok] at HR0
  simp only [Bool.false_eq_true, if_false] at HR0
  clear h ok
  clear hx rx
  unfold Rec.opV at OX ⊢
  go_enter Try.func6, Try.ntmps6
  go_wp2_with (first
    | (go_at_call 15; refine (LC.out _).mono ?_; rintro _ wL ⟨rfl, hbL⟩)
    | (go_at_call 19; refine RR2.out.mono ?_; rintro _ w8 ⟨hb8, rfl⟩; have B8 := hid (B7.out.trans (hb8.mono B7.out.size)); clear hb8 RR2)
    | (have _q := tF.out; clear _q; go_at_call 16; refine (FW.out w7 B7.out).mono ?_; rintro _ wf ⟨rfl, hwf⟩; have hwf2 := hwf.symm; clear hwf; subst hwf2; have RR2 := hid (RA.out w7 B7.out); clear tF)
    | (go_at_call 11; refine RC1.out.mono ?_; rintro _ w7 ⟨rfl, hb7⟩; have B7 := hid (B4.out.trans (hb7.mono B4.out.size)); clear hb7 RC1)
    | (go_at_call 9; refine OX.out.mono ?_; rintro _ w2 ⟨rfl, hb2⟩; have B4 := hid (B0.out.trans (hb2.mono B0.out.size)); have RC1 := hid (HR0.out w2 B4.out); clear hb2))
  go_ret
  exact ⟨by first | rfl | simp, B8.out.trans (hbL.mono B8.out.size)⟩
set_option maxRecDepth 20000 in
set_option maxHeartbeats 4000000 in
theorem recordBack_f_no_some (x : Rec) (a : Option Addr) (cap : Nat) (l0 : List Rec) (hc : l0.length ≤ cap) (a2 : Option Addr) (len2 cap2 : Nat) (z2 : List Int) (lc2 : len2 ≤ cap2) (w : World) (hx : x.Wf) (h : IsL w a l0) (h2 : IsB w a2 len2 z2) (rx : rightF x = false) (q : l0.length ≤ 40) (ok : recsOk l0 = false) (m : List Rec) (hr : recsAll (z2.take (few7 len2)) = some m) :
    Calls Try.prog 6 #[x.opV, .slice a l0.length cap, .slice a2 len2 cap2] w fun e w' => e = .returned (.bool true) ∧ Below w.heap.size w w' := by
  have hm := h.1
  unfold maxLen at hm
  have I3 := h2.front (few7 len2) (few7_le _)
  have hcf : few7 len2 ≤ cap2 := Nat.le_trans (few7_le _) lc2
  have FW := hid (fun W (hW : Below w.heap.size w W) => few7_c a2 len2 cap2 z2 W (h2.later hW) lc2)
  have RA := hid (fun W (hW : Below w.heap.size w W) => readAny_c a2 (few7 len2) cap2 _ W (I3.later hW) hcf)
  rw [hr] at RA
  unfold ReadsL at RA
  have LC := hid rlive_c
  have tF := hid True.intro
  obtain ⟨mk, me, mw⟩ := recsAll_back I3.2.2.2 hr
  have ml := (recsOk_right mk).1
  have HI3 := hid (fun W (hW : Below w.heap.size w W) => I3.later hW)
  generalize z2.take (few7 len2) = ts at *
  have HTL : Hid (ts.length = few7 len2) := hid I3.1
  have HTB := hid (byt_of I3.2.2.2)
  have HMK := hid mk
  have HME := hid me
  have HMW := hid mw
  clear mk me mw
  generalize few7 len2 = n3 at *
  clear hr I3 h2 lc2 hcf
  have hX0 := heap_alloc_new w (.cells x.ops.toArray 27)
  have HX0 := hid hX0
  have B0 := hid (below_1 w (.cells x.ops.toArray 27))
  obtain ⟨p0, p1, p2, p3, p4, p5, p6, p7⟩ := op_all hX0
  simp only [Rec.ops] at p0 p1 p2 p3 p4 p5 p6 p7
  have OX := hid (op_c x (w.alloc (.cells x.ops.toArray 27)) hx)
  rw [rx] at OX
  simp only [Bool.false_eq_true, if_false] at OX
  clear hX0
  have qI : ¬ (40 : Int) < l0.length := by omega
  have HR0 := hid (fun W (hW : Below w.heap.size w W) => records_c a cap l0 W (h.later hW) (by omega))
  rw [ok] at HR0
  simp only [Bool.false_eq_true, if_false] at HR0
  clear h ok
  clear hx rx
  unfold Rec.opV at OX ⊢
  go_enter Try.func6, Try.ntmps6
  go_wp2_with (first
    | (go_at_call 11; refine RC2.out.mono ?_; rintro _ w9 ⟨⟨v9, rfl, hO9⟩, hb9⟩; have B9 := hid (B8.out.trans (hb9.mono B8.out.size)); obtain ⟨a9, c9, rfl, hI9, _, _⟩ := isB_ownR hO9 HTB.out; have I9 := hid hI9; clear hb9 hO9 hI9 RC2)
    | (go_at_call 19; refine RR2.out.mono ?_; rintro _ w8 ⟨hb8, v8, rfl, hO8⟩; have B8 := hid (B7.out.trans (hb8.mono B7.out.size)); obtain ⟨a8, c8, rfl, hI8, _, _⟩ := isL_own hO8 HMW.out; have RC2 := hid (records_c a8 c8 m w8 hI8 (by omega)); rw [HMK.out, HME.out] at RC2; simp only [if_true] at RC2; clear hb8 hO8 hI8 RR2)
    | (have _q := tF.out; clear _q; go_at_call 16; refine (FW.out w7 B7.out).mono ?_; rintro _ wf ⟨rfl, hwf⟩; have hwf2 := hwf.symm; clear hwf; subst hwf2; have RR2 := hid (RA.out w7 B7.out); clear tF)
    | (go_at_call 11; refine RC1.out.mono ?_; rintro _ w7 ⟨rfl, hb7⟩; have B7 := hid (B4.out.trans (hb7.mono B4.out.size)); clear hb7 RC1)
    | (go_at_call 9; refine OX.out.mono ?_; rintro _ w2 ⟨rfl, hb2⟩; have B4 := hid (B0.out.trans (hb2.mono B0.out.size)); have RC1 := hid (HR0.out w2 B4.out); clear hb2))
  have FX : Hid (∀ W, Below w9.heap.size w9 W → (convert 30 9 (.slice a9 ts.length c9)).run Try.prog W = .ok (.string (Fr.tx ts)) W ∧ (convert 30 9 (.slice a2 n3 cap2)).run Try.prog W = .ok (.string (Fr.tx ts)) W ∧ Calls Try.prog 16 #[.slice a2 len2 cap2] W fun e w' => e = .returned (.slice a2 n3 cap2) ∧ Below W.heap.size W w') := hid (fun W hW => by
    have hW0 := B9.out.trans (hW.mono B9.out.size)
    refine ⟨conv_R (I9.out.later hW), ?_, (FW.out W hW0).mono fun e w' ⟨h1, h2⟩ => ⟨h1, by rw [h2]; exact Below.refl _ _⟩⟩
    have := HI3.out W hW0
    rw [← HTL.out] at this ⊢
    exact conv_R this)
  refine wp_region_class (by kernel_rfl) (by kernel_rfl) ?_
  repeat (first
    | go_big_quiet_skip
    | (go_big_quiet_want
       apply quiet_by
       · intro wq hwq
         obtain ⟨f1, f2, f3⟩ := FX.out wq hwq
         go_simp
         first
           | rfl
           | (go_at_call 15; exact class_of hwq (LC.out _))
           | (go_at_call 16; exact class_of hwq f3)
       · go_simp; rfl
       go_big_quiet_on))
  refine wpQuiet_nil ?_
  intro w10 hw10
  go_wp2
  go_ret
  exact ⟨by simp, B9.out.trans (hw10.mono B9.out.size)⟩
set_option maxRecDepth 20000 in
set_option maxHeartbeats 4000000 in
theorem recordBack_f_big_none (x : Rec) (a : Option Addr) (cap : Nat) (l0 : List Rec) (hc : l0.length ≤ cap) (a2 : Option Addr) (len2 cap2 : Nat) (z2 : List Int) (lc2 : len2 ≤ cap2) (w : World) (hx : x.Wf) (h : IsL w a l0) (h2 : IsB w a2 len2 z2) (rx : rightF x = false) (q : 40 < l0.length) (hr : recsAll (z2.take (few7 len2)) = none) :
    Calls Try.prog 6 #[x.opV, .slice a l0.length cap, .slice a2 len2 cap2] w fun e w' => e = .returned (.bool true) ∧ Below w.heap.size w w' := by
  have hm := h.1
  unfold maxLen at hm
  have I3 := h2.front (few7 len2) (few7_le _)
  have hcf : few7 len2 ≤ cap2 := Nat.le_trans (few7_le _) lc2
  have FW := hid (fun W (hW : Below w.heap.size w W) => few7_c a2 len2 cap2 z2 W (h2.later hW) lc2)
  have RA := hid (fun W (hW : Below w.heap.size w W) => readAny_c a2 (few7 len2) cap2 _ W (I3.later hW) hcf)
  rw [hr] at RA
  unfold ReadsL at RA
  have LC := hid rlive_c
  have tF := hid True.intro
  generalize few7 len2 = n3 at *
  clear hr I3 h2 lc2 hcf
  have hX0 := heap_alloc_new w (.cells x.ops.toArray 27)
  have HX0 := hid hX0
  have B0 := hid (below_1 w (.cells x.ops.toArray 27))
  obtain ⟨p0, p1, p2, p3, p4, p5, p6, p7⟩ := op_all hX0
  simp only [Rec.ops] at p0 p1 p2 p3 p4 p5 p6 p7
  have OX := hid (op_c x (w.alloc (.cells x.ops.toArray 27)) hx)
  rw [rx] at OX
  simp only [Bool.false_eq_true, if_false] at OX
  clear hX0
  obtain ⟨b, off, rfl, _⟩ := h.2.2 (by omega)
  have qI : (40 : Int) < l0.length := by omega
  have cI : (40 : Int) ≤ cap := by omega
  have cN : 40 ≤ cap := by omega
  have hl2 : (l0.take 40).length = 40 := by rw [List.length_take]; omega
  have ok : recsOk (l0.take 40) = false := by unfold recsOk; rw [hl2]; rfl
  have HR0 := hid (fun W (hW : Below w.heap.size w W) => records_c (some ⟨b, off, none⟩) cap (l0.take 40) W ((h.front 40).later hW) (by omega))
  rw [hl2] at HR0
  rw [ok] at HR0
  simp only [Bool.false_eq_true, if_false] at HR0
  clear h hl2 ok
  clear hx rx
  unfold Rec.opV at OX ⊢
  go_enter Try.func6, Try.ntmps6
  go_wp2_with (first
    | (go_at_call 15; refine (LC.out _).mono ?_; rintro _ wL ⟨rfl, hbL⟩)
    | (go_at_call 19; refine RR2.out.mono ?_; rintro _ w8 ⟨hb8, rfl⟩; have B8 := hid (B7.out.trans (hb8.mono B7.out.size)); clear hb8 RR2)
    | (have _q := tF.out; clear _q; go_at_call 16; refine (FW.out w7 B7.out).mono ?_; rintro _ wf ⟨rfl, hwf⟩; have hwf2 := hwf.symm; clear hwf; subst hwf2; have RR2 := hid (RA.out w7 B7.out); clear tF)
    | (go_at_call 11; refine RC1.out.mono ?_; rintro _ w7 ⟨rfl, hb7⟩; have B7 := hid (B4.out.trans (hb7.mono B4.out.size)); clear hb7 RC1)
    | (go_at_call 9; refine OX.out.mono ?_; rintro _ w2 ⟨rfl, hb2⟩; have B4 := hid (B0.out.trans (hb2.mono B0.out.size)); have RC1 := hid (HR0.out w2 B4.out); clear hb2))
  go_ret
  exact ⟨by first | rfl | simp, B8.out.trans (hbL.mono B8.out.size)⟩
set_option maxRecDepth 20000 in
set_option maxHeartbeats 4000000 in
theorem recordBack_f_big_some (x : Rec) (a : Option Addr) (cap : Nat) (l0 : List Rec) (hc : l0.length ≤ cap) (a2 : Option Addr) (len2 cap2 : Nat) (z2 : List Int) (lc2 : len2 ≤ cap2) (w : World) (hx : x.Wf) (h : IsL w a l0) (h2 : IsB w a2 len2 z2) (rx : rightF x = false) (q : 40 < l0.length) (m : List Rec) (hr : recsAll (z2.take (few7 len2)) = some m) :
    Calls Try.prog 6 #[x.opV, .slice a l0.length cap, .slice a2 len2 cap2] w fun e w' => e = .returned (.bool true) ∧ Below w.heap.size w w' := by
  have hm := h.1
  unfold maxLen at hm
  have I3 := h2.front (few7 len2) (few7_le _)
  have hcf : few7 len2 ≤ cap2 := Nat.le_trans (few7_le _) lc2
  have FW := hid (fun W (hW : Below w.heap.size w W) => few7_c a2 len2 cap2 z2 W (h2.later hW) lc2)
  have RA := hid (fun W (hW : Below w.heap.size w W) => readAny_c a2 (few7 len2) cap2 _ W (I3.later hW) hcf)
  rw [hr] at RA
  unfold ReadsL at RA
  have LC := hid rlive_c
  have tF := hid True.intro
  obtain ⟨mk, me, mw⟩ := recsAll_back I3.2.2.2 hr
  have ml := (recsOk_right mk).1
  have HI3 := hid (fun W (hW : Below w.heap.size w W) => I3.later hW)
  generalize z2.take (few7 len2) = ts at *
  have HTL : Hid (ts.length = few7 len2) := hid I3.1
  have HTB := hid (byt_of I3.2.2.2)
  have HMK := hid mk
  have HME := hid me
  have HMW := hid mw
  clear mk me mw
  generalize few7 len2 = n3 at *
  clear hr I3 h2 lc2 hcf
  have hX0 := heap_alloc_new w (.cells x.ops.toArray 27)
  have HX0 := hid hX0
  have B0 := hid (below_1 w (.cells x.ops.toArray 27))
  obtain ⟨p0, p1, p2, p3, p4, p5, p6, p7⟩ := op_all hX0
  simp only [Rec.ops] at p0 p1 p2 p3 p4 p5 p6 p7
  have OX := hid (op_c x (w.alloc (.cells x.ops.toArray 27)) hx)
  rw [rx] at OX
  simp only [Bool.false_eq_true, if_false] at OX
  clear hX0
  obtain ⟨b, off, rfl, _⟩ := h.2.2 (by omega)
  have qI : (40 : Int) < l0.length := by omega
  have cI : (40 : Int) ≤ cap := by omega
  have cN : 40 ≤ cap := by omega
  have hl2 : (l0.take 40).length = 40 := by rw [List.length_take]; omega
  have ok : recsOk (l0.take 40) = false := by unfold recsOk; rw [hl2]; rfl
  have HR0 := hid (fun W (hW : Below w.heap.size w W) => records_c (some ⟨b, off, none⟩) cap (l0.take 40) W ((h.front 40).later hW) (by omega))
  rw [hl2] at HR0
  rw [ok] at HR0
  simp only [Bool.false_eq_true, if_false] at HR0
  clear h hl2 ok
  clear hx rx
  unfold Rec.opV at OX ⊢
  go_enter Try.func6, Try.ntmps6
  go_wp2_with (first
    | (go_at_call 11; refine RC2.out.mono ?_; rintro _ w9 ⟨⟨v9, rfl, hO9⟩, hb9⟩; have B9 := hid (B8.out.trans (hb9.mono B8.out.size)); obtain ⟨a9, c9, rfl, hI9, _, _⟩ := isB_ownR hO9 HTB.out; have I9 := hid hI9; clear hb9 hO9 hI9 RC2)
    | (go_at_call 19; refine RR2.out.mono ?_; rintro _ w8 ⟨hb8, v8, rfl, hO8⟩; have B8 := hid (B7.out.trans (hb8.mono B7.out.size)); obtain ⟨a8, c8, rfl, hI8, _, _⟩ := isL_own hO8 HMW.out; have RC2 := hid (records_c a8 c8 m w8 hI8 (by omega)); rw [HMK.out, HME.out] at RC2; simp only [if_true] at RC2; clear hb8 hO8 hI8 RR2)
    | (have _q := tF.out; clear _q; go_at_call 16; refine (FW.out w7 B7.out).mono ?_; rintro _ wf ⟨rfl, hwf⟩; have hwf2 := hwf.symm; clear hwf; subst hwf2; have RR2 := hid (RA.out w7 B7.out); clear tF)
    | (go_at_call 11; refine RC1.out.mono ?_; rintro _ w7 ⟨rfl, hb7⟩; have B7 := hid (B4.out.trans (hb7.mono B4.out.size)); clear hb7 RC1)
    | (go_at_call 9; refine OX.out.mono ?_; rintro _ w2 ⟨rfl, hb2⟩; have B4 := hid (B0.out.trans (hb2.mono B0.out.size)); have RC1 := hid (HR0.out w2 B4.out); clear hb2))
  have FX : Hid (∀ W, Below w9.heap.size w9 W → (convert 30 9 (.slice a9 ts.length c9)).run Try.prog W = .ok (.string (Fr.tx ts)) W ∧ (convert 30 9 (.slice a2 n3 cap2)).run Try.prog W = .ok (.string (Fr.tx ts)) W ∧ Calls Try.prog 16 #[.slice a2 len2 cap2] W fun e w' => e = .returned (.slice a2 n3 cap2) ∧ Below W.heap.size W w') := hid (fun W hW => by
    have hW0 := B9.out.trans (hW.mono B9.out.size)
    refine ⟨conv_R (I9.out.later hW), ?_, (FW.out W hW0).mono fun e w' ⟨h1, h2⟩ => ⟨h1, by rw [h2]; exact Below.refl _ _⟩⟩
    have := HI3.out W hW0
    rw [← HTL.out] at this ⊢
    exact conv_R this)
  refine wp_region_class (by kernel_rfl) (by kernel_rfl) ?_
  repeat (first
    | go_big_quiet_skip
    | (go_big_quiet_want
       apply quiet_by
       · intro wq hwq
         obtain ⟨f1, f2, f3⟩ := FX.out wq hwq
         go_simp
         first
           | rfl
           | (go_at_call 15; exact class_of hwq (LC.out _))
           | (go_at_call 16; exact class_of hwq f3)
       · go_simp; rfl
       go_big_quiet_on))
  refine wpQuiet_nil ?_
  intro w10 hw10
  go_wp2
  go_ret
  exact ⟨by simp, B9.out.trans (hw10.mono B9.out.size)⟩
set_option maxRecDepth 20000 in
set_option maxHeartbeats 4000000 in
theorem recordBack_f_ok_none (x : Rec) (a : Option Addr) (cap : Nat) (l0 : List Rec) (hc : l0.length ≤ cap) (a2 : Option Addr) (len2 cap2 : Nat) (z2 : List Int) (lc2 : len2 ≤ cap2) (w : World) (hx : x.Wf) (h : IsL w a l0) (h2 : IsB w a2 len2 z2) (rx : rightF x = false) (q : l0.length ≤ 40) (ok : recsOk l0 = true) (hr : recsAll (z2.take (few7 len2)) = none) :
    Calls Try.prog 6 #[x.opV, .slice a l0.length cap, .slice a2 len2 cap2] w fun e w' => e = .returned (.bool true) ∧ Below w.heap.size w w' := by
  have hm := h.1
  unfold maxLen at hm
  have I3 := h2.front (few7 len2) (few7_le _)
  have hcf : few7 len2 ≤ cap2 := Nat.le_trans (few7_le _) lc2
  have FW := hid (fun W (hW : Below w.heap.size w W) => few7_c a2 len2 cap2 z2 W (h2.later hW) lc2)
  have RA := hid (fun W (hW : Below w.heap.size w W) => readAny_c a2 (few7 len2) cap2 _ W (I3.later hW) hcf)
  rw [hr] at RA
  unfold ReadsL at RA
  have LC := hid rlive_c
  have tF := hid True.intro
  generalize few7 len2 = n3 at *
  clear hr I3 h2 lc2 hcf
  have hX0 := heap_alloc_new w (.cells x.ops.toArray 27)
  have HX0 := hid hX0
  have B0 := hid (below_1 w (.cells x.ops.toArray 27))
  obtain ⟨p0, p1, p2, p3, p4, p5, p6, p7⟩ := op_all hX0
  simp only [Rec.ops] at p0 p1 p2 p3 p4 p5 p6 p7
  have OX := hid (op_c x (w.alloc (.cells x.ops.toArray 27)) hx)
  rw [rx] at OX
  simp only [Bool.false_eq_true, if_false] at OX
  clear hX0
  have qI : ¬ (40 : Int) < l0.length := by omega
  have HR0 := hid (fun W (hW : Below w.heap.size w W) => records_c a cap l0 W (h.later hW) (by omega))
  rw [ok] at HR0
  simp only [if_true] at HR0
  have HI := hid (fun W (hW : Below w.heap.size w W) => h.later hW)
  have HWL := hid h.2.1
  have HRL := hid (recsAll_recsA l0 h.2.1 ok)
  have HZI := hid (recsA_in l0)
  generalize recsA l0 = zs at *
  clear h ok
  clear hx rx
  unfold Rec.opV at OX ⊢
  go_enter Try.func6, Try.ntmps6
  go_wp2_with (first
    | (go_at_call 15; refine (LC.out _).mono ?_; rintro _ wL ⟨rfl, hbL⟩)
    | (go_at_call 19; refine RR2.out.mono ?_; rintro _ w8 ⟨hb8, rfl⟩; have B8 := hid (B7.out.trans (hb8.mono B7.out.size)); clear hb8 RR2)
    | (have _q := tF.out; clear _q; go_at_call 16; refine (FW.out w7 B7.out).mono ?_; rintro _ wf ⟨rfl, hwf⟩; have hwf2 := hwf.symm; clear hwf; subst hwf2; have RR2 := hid (RA.out w7 B7.out); clear tF)
    | (go_at_call 23; refine SM.out.mono ?_; rintro _ w7 ⟨rfl, hb7⟩; have B7 := hid (B6.out.trans (hb7.mono B6.out.size)); clear hb7 SM)
    | (go_at_call 19; refine RR1.out.mono ?_; rintro _ w6 ⟨hb6, v6, rfl, hO6⟩; have B6 := hid (B5.out.trans (hb6.mono B5.out.size)); obtain ⟨a6, c6, rfl, hI6, _, _⟩ := isL_own hO6 HWL.out; have SM := hid (rsame_c a6 a c6 cap l0 l0 w6 hI6 (HI.out w6 B6.out) (by omega) (by omega)); rw [eqL_t (rfl : l0 = l0)] at SM; clear hb6 hO6 hI6 RR1)
    | (go_at_call 11; refine RC1.out.mono ?_; rintro _ w5 ⟨⟨v5, rfl, hO5⟩, hb5⟩; have B5 := hid (B4.out.trans (hb5.mono B4.out.size)); obtain ⟨az, cz, rfl, hI5, hcz, hL5⟩ := isB_ownR hO5 HZI.out; have RR1 := hid (readRecords_c az zs.length cz zs w5 hI5 hcz hL5); rw [HRL.out] at RR1; unfold ReadsL at RR1; clear hb5 hO5 hI5 hL5 RC1)
    | (go_at_call 9; refine OX.out.mono ?_; rintro _ w2 ⟨rfl, hb2⟩; have B4 := hid (B0.out.trans (hb2.mono B0.out.size)); have RC1 := hid (HR0.out w2 B4.out); clear hb2))
  go_ret
  exact ⟨by first | rfl | simp, B8.out.trans (hbL.mono B8.out.size)⟩
set_option maxRecDepth 20000 in
set_option maxHeartbeats 4000000 in
theorem recordBack_f_ok_some (x : Rec) (a : Option Addr) (cap : Nat) (l0 : List Rec) (hc : l0.length ≤ cap) (a2 : Option Addr) (len2 cap2 : Nat) (z2 : List Int) (lc2 : len2 ≤ cap2) (w : World) (hx : x.Wf) (h : IsL w a l0) (h2 : IsB w a2 len2 z2) (rx : rightF x = false) (q : l0.length ≤ 40) (ok : recsOk l0 = true) (m : List Rec) (hr : recsAll (z2.take (few7 len2)) = some m) :
    Calls Try.prog 6 #[x.opV, .slice a l0.length cap, .slice a2 len2 cap2] w fun e w' => e = .returned (.bool true) ∧ Below w.heap.size w w' := by
  have hm := h.1
  unfold maxLen at hm
  have I3 := h2.front (few7 len2) (few7_le _)
  have hcf : few7 len2 ≤ cap2 := Nat.le_trans (few7_le _) lc2
  have FW := hid (fun W (hW : Below w.heap.size w W) => few7_c a2 len2 cap2 z2 W (h2.later hW) lc2)
  have RA := hid (fun W (hW : Below w.heap.size w W) => readAny_c a2 (few7 len2) cap2 _ W (I3.later hW) hcf)
  rw [hr] at RA
  unfold ReadsL at RA
  have LC := hid rlive_c
  have tF := hid True.intro
  obtain ⟨mk, me, mw⟩ := recsAll_back I3.2.2.2 hr
  have ml := (recsOk_right mk).1
  have HI3 := hid (fun W (hW : Below w.heap.size w W) => I3.later hW)
  generalize z2.take (few7 len2) = ts at *
  have HTL : Hid (ts.length = few7 len2) := hid I3.1
  have HTB := hid (byt_of I3.2.2.2)
  have HMK := hid mk
  have HME := hid me
  have HMW := hid mw
  clear mk me mw
  generalize few7 len2 = n3 at *
  clear hr I3 h2 lc2 hcf
  have hX0 := heap_alloc_new w (.cells x.ops.toArray 27)
  have HX0 := hid hX0
  have B0 := hid (below_1 w (.cells x.ops.toArray 27))
  obtain ⟨p0, p1, p2, p3, p4, p5, p6, p7⟩ := op_all hX0
  simp only [Rec.ops] at p0 p1 p2 p3 p4 p5 p6 p7
  have OX := hid (op_c x (w.alloc (.cells x.ops.toArray 27)) hx)
  rw [rx] at OX
  simp only [Bool.false_eq_true, if_false] at OX
  clear hX0
  have qI : ¬ (40 : Int) < l0.length := by omega
  have HR0 := hid (fun W (hW : Below w.heap.size w W) => records_c a cap l0 W (h.later hW) (by omega))
  rw [ok] at HR0
  simp only [if_true] at HR0
  have HI := hid (fun W (hW : Below w.heap.size w W) => h.later hW)
  have HWL := hid h.2.1
  have HRL := hid (recsAll_recsA l0 h.2.1 ok)
  have HZI := hid (recsA_in l0)
  generalize recsA l0 = zs at *
  clear h ok
  clear hx rx
  unfold Rec.opV at OX ⊢
  go_enter Try.func6, Try.ntmps6
  go_wp2_with (first
    | (go_at_call 11; refine RC2.out.mono ?_; rintro _ w9 ⟨⟨v9, rfl, hO9⟩, hb9⟩; have B9 := hid (B8.out.trans (hb9.mono B8.out.size)); obtain ⟨a9, c9, rfl, hI9, _, _⟩ := isB_ownR hO9 HTB.out; have I9 := hid hI9; clear hb9 hO9 hI9 RC2)
    | (go_at_call 19; refine RR2.out.mono ?_; rintro _ w8 ⟨hb8, v8, rfl, hO8⟩; have B8 := hid (B7.out.trans (hb8.mono B7.out.size)); obtain ⟨a8, c8, rfl, hI8, _, _⟩ := isL_own hO8 HMW.out; have RC2 := hid (records_c a8 c8 m w8 hI8 (by omega)); rw [HMK.out, HME.out] at RC2; simp only [if_true] at RC2; clear hb8 hO8 hI8 RR2)
    | (have _q := tF.out; clear _q; go_at_call 16; refine (FW.out w7 B7.out).mono ?_; rintro _ wf ⟨rfl, hwf⟩; have hwf2 := hwf.symm; clear hwf; subst hwf2; have RR2 := hid (RA.out w7 B7.out); clear tF)
    | (go_at_call 23; refine SM.out.mono ?_; rintro _ w7 ⟨rfl, hb7⟩; have B7 := hid (B6.out.trans (hb7.mono B6.out.size)); clear hb7 SM)
    | (go_at_call 19; refine RR1.out.mono ?_; rintro _ w6 ⟨hb6, v6, rfl, hO6⟩; have B6 := hid (B5.out.trans (hb6.mono B5.out.size)); obtain ⟨a6, c6, rfl, hI6, _, _⟩ := isL_own hO6 HWL.out; have SM := hid (rsame_c a6 a c6 cap l0 l0 w6 hI6 (HI.out w6 B6.out) (by omega) (by omega)); rw [eqL_t (rfl : l0 = l0)] at SM; clear hb6 hO6 hI6 RR1)
    | (go_at_call 11; refine RC1.out.mono ?_; rintro _ w5 ⟨⟨v5, rfl, hO5⟩, hb5⟩; have B5 := hid (B4.out.trans (hb5.mono B4.out.size)); obtain ⟨az, cz, rfl, hI5, hcz, hL5⟩ := isB_ownR hO5 HZI.out; have RR1 := hid (readRecords_c az zs.length cz zs w5 hI5 hcz hL5); rw [HRL.out] at RR1; unfold ReadsL at RR1; clear hb5 hO5 hI5 hL5 RC1)
    | (go_at_call 9; refine OX.out.mono ?_; rintro _ w2 ⟨rfl, hb2⟩; have B4 := hid (B0.out.trans (hb2.mono B0.out.size)); have RC1 := hid (HR0.out w2 B4.out); clear hb2))
  have FX : Hid (∀ W, Below w9.heap.size w9 W → (convert 30 9 (.slice a9 ts.length c9)).run Try.prog W = .ok (.string (Fr.tx ts)) W ∧ (convert 30 9 (.slice a2 n3 cap2)).run Try.prog W = .ok (.string (Fr.tx ts)) W ∧ Calls Try.prog 16 #[.slice a2 len2 cap2] W fun e w' => e = .returned (.slice a2 n3 cap2) ∧ Below W.heap.size W w') := hid (fun W hW => by
    have hW0 := B9.out.trans (hW.mono B9.out.size)
    refine ⟨conv_R (I9.out.later hW), ?_, (FW.out W hW0).mono fun e w' ⟨h1, h2⟩ => ⟨h1, by rw [h2]; exact Below.refl _ _⟩⟩
    have := HI3.out W hW0
    rw [← HTL.out] at this ⊢
    exact conv_R this)
  refine wp_region_class (by kernel_rfl) (by kernel_rfl) ?_
  repeat (first
    | go_big_quiet_skip
    | (go_big_quiet_want
       apply quiet_by
       · intro wq hwq
         obtain ⟨f1, f2, f3⟩ := FX.out wq hwq
         go_simp
         first
           | rfl
           | (go_at_call 15; exact class_of hwq (LC.out _))
           | (go_at_call 16; exact class_of hwq f3)
       · go_simp; rfl
       go_big_quiet_on))
  refine wpQuiet_nil ?_
  intro w10 hw10
  go_wp2
  go_ret
  exact ⟨by simp, B9.out.trans (hw10.mono B9.out.size)⟩
set_option maxRecDepth 20000 in
set_option maxHeartbeats 4000000 in
theorem recordBack_t_no_none (x : Rec) (a : Option Addr) (cap : Nat) (l0 : List Rec) (hc : l0.length ≤ cap) (a2 : Option Addr) (len2 cap2 : Nat) (z2 : List Int) (lc2 : len2 ≤ cap2) (w : World) (hx : x.Wf) (h : IsL w a l0) (h2 : IsB w a2 len2 z2) (rx : rightF x = true) (q : l0.length ≤ 40) (ok : recsOk l0 = false) (hr : recsAll (z2.take (few7 len2)) = none) :
    Calls Try.prog 6 #[x.opV, .slice a l0.length cap, .slice a2 len2 cap2] w fun e w' => e = .returned (.bool true) ∧ Below w.heap.size w w' := by
  have hm := h.1
  unfold maxLen at hm
  have I3 := h2.front (few7 len2) (few7_le _)
  have hcf : few7 len2 ≤ cap2 := Nat.le_trans (few7_le _) lc2
  have FW := hid (fun W (hW : Below w.heap.size w W) => few7_c a2 len2 cap2 z2 W (h2.later hW) lc2)
  have RA := hid (fun W (hW : Below w.heap.size w W) => readAny_c a2 (few7 len2) cap2 _ W (I3.later hW) hcf)
  rw [hr] at RA
  unfold ReadsL at RA
  have LC := hid rlive_c
  have tF := hid True.intro
  generalize few7 len2 = n3 at *
  clear hr I3 h2 lc2 hcf
  have hX0 := heap_alloc_new w (.cells x.ops.toArray 27)
  have HX0 := hid hX0
  have B0 := hid (below_1 w (.cells x.ops.toArray 27))
  obtain ⟨p0, p1, p2, p3, p4, p5, p6, p7⟩ := op_all hX0
  simp only [Rec.ops] at p0 p1 p2 p3 p4 p5 p6 p7
  have OX := hid (op_c x (w.alloc (.cells x.ops.toArray 27)) hx)
  rw [rx] at OX
  simp only [if_true] at OX
  clear hX0
  have qI : ¬ (40 : Int) < l0.length := by omega
  have HR0 := hid (fun W (hW : Below w.heap.size w W) => records_c a cap l0 W (h.later hW) (by omega))
  rw [ok] at HR0
  simp only [Bool.false_eq_true, if_false] at HR0
  clear h ok
  have hqq : ∀ W : World, (Op.equalIn 10000 27 x.opV x.opV).run Try.prog W = .ok true W := by
    obtain ⟨r, hr, hrun⟩ := ops_equal hx hx
    have : r = true := hr.2 rfl
    rw [this] at hrun
    exact hrun
  have hgd := ops_guard
  have HAL := hid (opAll_opB x hx rx)
  have HYI := hid (opB_in x)
  generalize opB x = ys at *
  unfold Rec.opV at hqq
  clear hx rx
  unfold Rec.opV at OX ⊢
  go_enter Try.func6, Try.ntmps6
  go_wp2_with (first
    | (go_at_call 15; refine (LC.out _).mono ?_; rintro _ wL ⟨rfl, hbL⟩)
    | (go_at_call 19; refine RR2.out.mono ?_; rintro _ w8 ⟨hb8, rfl⟩; have B8 := hid (B7.out.trans (hb8.mono B7.out.size)); clear hb8 RR2)
    | (have _q := tF.out; clear _q; go_at_call 16; refine (FW.out w7 B7.out).mono ?_; rintro _ wf ⟨rfl, hwf⟩; have hwf2 := hwf.symm; clear hwf; subst hwf2; have RR2 := hid (RA.out w7 B7.out); clear tF)
    | (go_at_call 11; refine RC1.out.mono ?_; rintro _ w7 ⟨rfl, hb7⟩; have B7 := hid (B4.out.trans (hb7.mono B4.out.size)); clear hb7 RC1)
    | (go_at_call 17; refine RO.out.mono ?_; rintro _ w3 ⟨rfl, hb3⟩; have b4 := below_1 w3 (.cells x.ops.toArray 27); have hP4 := heap_alloc_new w3 (.cells x.ops.toArray 27); have hX3 := (hb3.block _ (lt_blkR HX2.out)).trans HX2.out; have hX4 := (b4.block _ (lt_blkR hX3)).trans hX3; have B4 := hid ((B2.out.trans (hb3.mono B2.out.size)).trans (b4.mono (Nat.le_trans B2.out.size hb3.size))); obtain ⟨q0, q1, q2, q3, q4, q5, q6, q7⟩ := op_all hX4; obtain ⟨r0, r1, r2, r3, r4, r5, r6, r7⟩ := op_all hP4; simp only [Rec.ops] at q0 q1 q2 q3 q4 q5 q6 q7 r0 r1 r2 r3 r4 r5 r6 r7; have RC1 := hid (HR0.out _ B4.out); clear hb3 b4 hP4 hX3 hX4 RO)
    | (go_at_call 9; refine OX.out.mono ?_; rintro _ w2 ⟨⟨v2, rfl, hO2⟩, hb2⟩; have B2 := hid (B0.out.trans (hb2.mono B0.out.size)); have HX2 := hid ((hb2.block _ (lt_blkR HX0.out)).trans HX0.out); obtain ⟨ay, cy, rfl, hI2, hcy, hL2⟩ := isB_ownR hO2 HYI.out; have RO := hid (readOp_c ay ys.length cy ys w2 hI2 hcy hL2); rw [HAL.out] at RO; simp only [readV] at RO; unfold Rec.opV at RO; clear hb2 hO2 hI2 hL2))
  go_ret
  exact ⟨by first | rfl | simp, B8.out.trans (hbL.mono B8.out.size)⟩
set_option maxRecDepth 20000 in
set_option maxHeartbeats 4000000 in
theorem recordBack_t_no_some (x : Rec) (a : Option Addr) (cap : Nat) (l0 : List Rec) (hc : l0.length ≤ cap) (a2 : Option Addr) (len2 cap2 : Nat) (z2 : List Int) (lc2 : len2 ≤ cap2) (w : World) (hx : x.Wf) (h : IsL w a l0) (h2 : IsB w a2 len2 z2) (rx : rightF x = true) (q : l0.length ≤ 40) (ok : recsOk l0 = false) (m : List Rec) (hr : recsAll (z2.take (few7 len2)) = some m) :
    Calls Try.prog 6 #[x.opV, .slice a l0.length cap, .slice a2 len2 cap2] w fun e w' => e = .returned (.bool true) ∧ Below w.heap.size w w' := by
  have hm := h.1
  unfold maxLen at hm
  have I3 := h2.front (few7 len2) (few7_le _)
  have hcf : few7 len2 ≤ cap2 := Nat.le_trans (few7_le _) lc2
  have FW := hid (fun W (hW : Below w.heap.size w W) => few7_c a2 len2 cap2 z2 W (h2.later hW) lc2)
  have RA := hid (fun W (hW : Below w.heap.size w W) => readAny_c a2 (few7 len2) cap2 _ W (I3.later hW) hcf)
  rw [hr] at RA
  unfold ReadsL at RA
  have LC := hid rlive_c
  have tF := hid True.intro
  obtain ⟨mk, me, mw⟩ := recsAll_back I3.2.2.2 hr
  have ml := (recsOk_right mk).1
  have HI3 := hid (fun W (hW : Below w.heap.size w W) => I3.later hW)
  generalize z2.take (few7 len2) = ts at *
  have HTL : Hid (ts.length = few7 len2) := hid I3.1
  have HTB := hid (byt_of I3.2.2.2)
  have HMK := hid mk
  have HME := hid me
  have HMW := hid mw
  clear mk me mw
  generalize few7 len2 = n3 at *
  clear hr I3 h2 lc2 hcf
  have hX0 := heap_alloc_new w (.cells x.ops.toArray 27)
  have HX0 := hid hX0
  have B0 := hid (below_1 w (.cells x.ops.toArray 27))
  obtain ⟨p0, p1, p2, p3, p4, p5, p6, p7⟩ := op_all hX0
  simp only [Rec.ops] at p0 p1 p2 p3 p4 p5 p6 p7
  have OX := hid (op_c x (w.alloc (.cells x.ops.toArray 27)) hx)
  rw [rx] at OX
  simp only [if_true] at OX
  clear hX0
  have qI : ¬ (40 : Int) < l0.length := by omega
  have HR0 := hid (fun W (hW : Below w.heap.size w W) => records_c a cap l0 W (h.later hW) (by omega))
  rw [ok] at HR0
  simp only [Bool.false_eq_true, if_false] at HR0
  clear h ok
  have hqq : ∀ W : World, (Op.equalIn 10000 27 x.opV x.opV).run Try.prog W = .ok true W := by
    obtain ⟨r, hr, hrun⟩ := ops_equal hx hx
    have : r = true := hr.2 rfl
    rw [this] at hrun
    exact hrun
  have hgd := ops_guard
  have HAL := hid (opAll_opB x hx rx)
  have HYI := hid (opB_in x)
  generalize opB x = ys at *
  unfold Rec.opV at hqq
  clear hx rx
  unfold Rec.opV at OX ⊢
  go_enter Try.func6, Try.ntmps6
  go_wp2_with (first
    | (go_at_call 11; refine RC2.out.mono ?_; rintro _ w9 ⟨⟨v9, rfl, hO9⟩, hb9⟩; have B9 := hid (B8.out.trans (hb9.mono B8.out.size)); obtain ⟨a9, c9, rfl, hI9, _, _⟩ := isB_ownR hO9 HTB.out; have I9 := hid hI9; clear hb9 hO9 hI9 RC2)
    | (go_at_call 19; refine RR2.out.mono ?_; rintro _ w8 ⟨hb8, v8, rfl, hO8⟩; have B8 := hid (B7.out.trans (hb8.mono B7.out.size)); obtain ⟨a8, c8, rfl, hI8, _, _⟩ := isL_own hO8 HMW.out; have RC2 := hid (records_c a8 c8 m w8 hI8 (by omega)); rw [HMK.out, HME.out] at RC2; simp only [if_true] at RC2; clear hb8 hO8 hI8 RR2)
    | (have _q := tF.out; clear _q; go_at_call 16; refine (FW.out w7 B7.out).mono ?_; rintro _ wf ⟨rfl, hwf⟩; have hwf2 := hwf.symm; clear hwf; subst hwf2; have RR2 := hid (RA.out w7 B7.out); clear tF)
    | (go_at_call 11; refine RC1.out.mono ?_; rintro _ w7 ⟨rfl, hb7⟩; have B7 := hid (B4.out.trans (hb7.mono B4.out.size)); clear hb7 RC1)
    | (go_at_call 17; refine RO.out.mono ?_; rintro _ w3 ⟨rfl, hb3⟩; have b4 := below_1 w3 (.cells x.ops.toArray 27); have hP4 := heap_alloc_new w3 (.cells x.ops.toArray 27); have hX3 := (hb3.block _ (lt_blkR HX2.out)).trans HX2.out; have hX4 := (b4.block _ (lt_blkR hX3)).trans hX3; have B4 := hid ((B2.out.trans (hb3.mono B2.out.size)).trans (b4.mono (Nat.le_trans B2.out.size hb3.size))); obtain ⟨q0, q1, q2, q3, q4, q5, q6, q7⟩ := op_all hX4; obtain ⟨r0, r1, r2, r3, r4, r5, r6, r7⟩ := op_all hP4; simp only [Rec.ops] at q0 q1 q2 q3 q4 q5 q6 q7 r0 r1 r2 r3 r4 r5 r6 r7; have RC1 := hid (HR0.out _ B4.out); clear hb3 b4 hP4 hX3 hX4 RO)
    | (go_at_call 9; refine OX.out.mono ?_; rintro _ w2 ⟨⟨v2, rfl, hO2⟩, hb2⟩; have B2 := hid (B0.out.trans (hb2.mono B0.out.size)); have HX2 := hid ((hb2.block _ (lt_blkR HX0.out)).trans HX0.out); obtain ⟨ay, cy, rfl, hI2, hcy, hL2⟩ := isB_ownR hO2 HYI.out; have RO := hid (readOp_c ay ys.length cy ys w2 hI2 hcy hL2); rw [HAL.out] at RO; simp only [readV] at RO; unfold Rec.opV at RO; clear hb2 hO2 hI2 hL2))
  have FX : Hid (∀ W, Below w9.heap.size w9 W → (convert 30 9 (.slice a9 ts.length c9)).run Try.prog W = .ok (.string (Fr.tx ts)) W ∧ (convert 30 9 (.slice a2 n3 cap2)).run Try.prog W = .ok (.string (Fr.tx ts)) W ∧ Calls Try.prog 16 #[.slice a2 len2 cap2] W fun e w' => e = .returned (.slice a2 n3 cap2) ∧ Below W.heap.size W w') := hid (fun W hW => by
    have hW0 := B9.out.trans (hW.mono B9.out.size)
    refine ⟨conv_R (I9.out.later hW), ?_, (FW.out W hW0).mono fun e w' ⟨h1, h2⟩ => ⟨h1, by rw [h2]; exact Below.refl _ _⟩⟩
    have := HI3.out W hW0
    rw [← HTL.out] at this ⊢
    exact conv_R this)
  refine wp_region_class (by kernel_rfl) (by kernel_rfl) ?_
  repeat (first
    | go_big_quiet_skip
    | (go_big_quiet_want
       apply quiet_by
       · intro wq hwq
         obtain ⟨f1, f2, f3⟩ := FX.out wq hwq
         go_simp
         first
           | rfl
           | (go_at_call 15; exact class_of hwq (LC.out _))
           | (go_at_call 16; exact class_of hwq f3)
       · go_simp; rfl
       go_big_quiet_on))
  refine wpQuiet_nil ?_
  intro w10 hw10
  go_wp2
  go_ret
  exact ⟨by simp, B9.out.trans (hw10.mono B9.out.size)⟩
set_option maxRecDepth 20000 in
set_option maxHeartbeats 4000000 in
theorem recordBack_t_big_none (x : Rec) (a : Option Addr) (cap : Nat) (l0 : List Rec) (hc : l0.length ≤ cap) (a2 : Option Addr) (len2 cap2 : Nat) (z2 : List Int) (lc2 : len2 ≤ cap2) (w : World) (hx : x.Wf) (h : IsL w a l0) (h2 : IsB w a2 len2 z2) (rx : rightF x = true) (q : 40 < l0.length) (hr : recsAll (z2.take (few7 len2)) = none) :
    Calls Try.prog 6 #[x.opV, .slice a l0.length cap, .slice a2 len2 cap2] w fun e w' => e = .returned (.bool true) ∧ Below w.heap.size w w' := by
  have hm := h.1
  unfold maxLen at hm
  have I3 := h2.front (few7 len2) (few7_le _)
  have hcf : few7 len2 ≤ cap2 := Nat.le_trans (few7_le _) lc2
  have FW := hid (fun W (hW : Below w.heap.size w W) => few7_c a2 len2 cap2 z2 W (h2.later hW) lc2)
  have RA := hid (fun W (hW : Below w.heap.size w W) => readAny_c a2 (few7 len2) cap2 _ W (I3.later hW) hcf)
  rw [hr] at RA
  unfold ReadsL at RA
  have LC := hid rlive_c
  have tF := hid True.intro
  generalize few7 len2 = n3 at *
  clear hr I3 h2 lc2 hcf
  have hX0 := heap_alloc_new w (.cells x.ops.toArray 27)
  have HX0 := hid hX0
  have B0 := hid (below_1 w (.cells x.ops.toArray 27))
  obtain ⟨p0, p1, p2, p3, p4, p5, p6, p7⟩ := op_all hX0
  simp only [Rec.ops] at p0 p1 p2 p3 p4 p5 p6 p7
  have OX := hid (op_c x (w.alloc (.cells x.ops.toArray 27)) hx)
  rw [rx] at OX
  simp only [if_true] at OX
  clear hX0
  obtain ⟨b, off, rfl, _⟩ := h.2.2 (by omega)
  have qI : (40 : Int) < l0.length := by omega
  have cI : (40 : Int) ≤ cap := by omega
  have cN : 40 ≤ cap := by omega
  have hl2 : (l0.take 40).length = 40 := by rw [List.length_take]; omega
  have ok : recsOk (l0.take 40) = false := by unfold recsOk; rw [hl2]; rfl
  have HR0 := hid (fun W (hW : Below w.heap.size w W) => records_c (some ⟨b, off, none⟩) cap (l0.take 40) W ((h.front 40).later hW) (by omega))
  rw [hl2] at HR0
  rw [ok] at HR0
  simp only [Bool.false_eq_true, if_false] at HR0
  clear h hl2 ok
  have hqq : ∀ W : World, (Op.equalIn 10000 27 x.opV x.opV).run Try.prog W = .ok true W := by
    obtain ⟨r, hr, hrun⟩ := ops_equal hx hx
    have : r = true := hr.2 rfl
    rw [this] at hrun
    exact hrun
  have hgd := ops_guard
  have HAL := hid (opAll_opB x hx rx)
  have HYI := hid (opB_in x)
  generalize opB x = ys at *
  unfold Rec.opV at hqq
  clear hx rx
  unfold Rec.opV at OX ⊢
  go_enter Try.func6, Try.ntmps6
  go_wp2_with (first
    | (go_at_call 15; refine (LC.out _).mono ?_; rintro _ wL ⟨rfl, hbL⟩)
    | (go_at_call 19; refine RR2.out.mono ?_; rintro _ w8 ⟨hb8, rfl⟩; have B8 := hid (B7.out.trans (hb8.mono B7.out.size)); clear hb8 RR2)
    | (have _q := tF.out; clear _q; go_at_call 16; refine (FW.out w7 B7.out).mono ?_; rintro _ wf ⟨rfl, hwf⟩; have hwf2 := hwf.symm; clear hwf; subst hwf2; have RR2 := hid (RA.out w7 B7.out); clear tF)
    | (go_at_call 11; refine RC1.out.mono ?_; rintro _ w7 ⟨rfl, hb7⟩; have B7 := hid (B4.out.trans (hb7.mono B4.out.size)); clear hb7 RC1)
    | (go_at_call 17; refine RO.out.mono ?_; rintro _ w3 ⟨rfl, hb3⟩; have b4 := below_1 w3 (.cells x.ops.toArray 27); have hP4 := heap_alloc_new w3 (.cells x.ops.toArray 27); have hX3 := (hb3.block _ (lt_blkR HX2.out)).trans HX2.out; have hX4 := (b4.block _ (lt_blkR hX3)).trans hX3; have B4 := hid ((B2.out.trans (hb3.mono B2.out.size)).trans (b4.mono (Nat.le_trans B2.out.size hb3.size))); obtain ⟨q0, q1, q2, q3, q4, q5, q6, q7⟩ := op_all hX4; obtain ⟨r0, r1, r2, r3, r4, r5, r6, r7⟩ := op_all hP4; simp only [Rec.ops] at q0 q1 q2 q3 q4 q5 q6 q7 r0 r1 r2 r3 r4 r5 r6 r7; have RC1 := hid (HR0.out _ B4.out); clear hb3 b4 hP4 hX3 hX4 RO)
    | (go_at_call 9; refine OX.out.mono ?_; rintro _ w2 ⟨⟨v2, rfl, hO2⟩, hb2⟩; have B2 := hid (B0.out.trans (hb2.mono B0.out.size)); have HX2 := hid ((hb2.block _ (lt_blkR HX0.out)).trans HX0.out); obtain ⟨ay, cy, rfl, hI2, hcy, hL2⟩ := isB_ownR hO2 HYI.out; have RO := hid (readOp_c ay ys.length cy ys w2 hI2 hcy hL2); rw [HAL.out] at RO; simp only [readV] at RO; unfold Rec.opV at RO; clear hb2 hO2 hI2 hL2))
  go_ret
  exact ⟨by first | rfl | simp, B8.out.trans (hbL.mono B8.out.size)⟩
set_option maxRecDepth 20000 in
set_option maxHeartbeats 4000000 in
theorem recordBack_t_big_some (x : Rec) (a : Option Addr) (cap : Nat) (l0 : List Rec) (hc : l0.length ≤ cap) (a2 : Option Addr) (len2 cap2 : Nat) (z2 : List Int) (lc2 : len2 ≤ cap2) (w : World) (hx : x.Wf) (h : IsL w a l0) (h2 : IsB w a2 len2 z2) (rx : rightF x = true) (q : 40 < l0.length) (m : List Rec) (hr : recsAll (z2.take (few7 len2)) = some m) :
    Calls Try.prog 6 #[x.opV, .slice a l0.length cap, .slice a2 len2 cap2] w fun e w' => e = .returned (.bool true) ∧ Below w.heap.size w w' := by
  have hm := h.1
  unfold maxLen at hm
  have I3 := h2.front (few7 len2) (few7_le _)
  have hcf : few7 len2 ≤ cap2 := Nat.le_trans (few7_le _) lc2
  have FW := hid (fun W (hW : Below w.heap.size w W) => few7_c a2 len2 cap2 z2 W (h2.later hW) lc2)
  have RA := hid (fun W (hW : Below w.heap.size w W) => readAny_c a2 (few7 len2) cap2 _ W (I3.later hW) hcf)
  rw [hr] at RA
  unfold ReadsL at RA
  have LC := hid rlive_c
  have tF := hid True.intro
  obtain ⟨mk, me, mw⟩ := recsAll_back I3.2.2.2 hr
  have ml := (recsOk_right mk).1
  have HI3 := hid (fun W (hW : Below w.heap.size w W) => I3.later hW)
  generalize z2.take (few7 len2) = ts at *
  have HTL : Hid (ts.length = few7 len2) := hid I3.1
  have HTB := hid (byt_of I3.2.2.2)
  have HMK := hid mk
  have HME := hid me
  have HMW := hid mw
  clear mk me mw
  generalize few7 len2 = n3 at *
  clear hr I3 h2 lc2 hcf
  have hX0 := heap_alloc_new w (.cells x.ops.toArray 27)
  have HX0 := hid hX0
  have B0 := hid (below_1 w (.cells x.ops.toArray 27))
  obtain ⟨p0, p1, p2, p3, p4, p5, p6, p7⟩ := op_all hX0
  simp only [Rec.ops] at p0 p1 p2 p3 p4 p5 p6 p7
  have OX := hid (op_c x (w.alloc (.cells x.ops.toArray 27)) hx)
  rw [rx] at OX
  simp only [if_true] at OX
  clear hX0
  obtain ⟨b, off, rfl, _⟩ := h.2.2 (by omega)
  have qI : (40 : Int) < l0.length := by omega
  have cI : (40 : Int) ≤ cap := by omega
  have cN : 40 ≤ cap := by omega
  have hl2 : (l0.take 40).length = 40 := by rw [List.length_take]; omega
  have ok : recsOk (l0.take 40) = false := by unfold recsOk; rw [hl2]; rfl
  have HR0 := hid (fun W (hW : Below w.heap.size w W) => records_c (some ⟨b, off, none⟩) cap (l0.take 40) W ((h.front 40).later hW) (by omega))
  rw [hl2] at HR0
  rw [ok] at HR0
  simp only [Bool.false_eq_true, if_false] at HR0
  clear h hl2 ok
  have hqq : ∀ W : World, (Op.equalIn 10000 27 x.opV x.opV).run Try.prog W = .ok true W := by
    obtain ⟨r, hr, hrun⟩ := ops_equal hx hx
    have : r = true := hr.2 rfl
    rw [this] at hrun
    exact hrun
  have hgd := ops_guard
  have HAL := hid (opAll_opB x hx rx)
  have HYI := hid (opB_in x)
  generalize opB x = ys at *
  unfold Rec.opV at hqq
  clear hx rx
  unfold Rec.opV at OX ⊢
  go_enter Try.func6, Try.ntmps6
  go_wp2_with (first
    | (go_at_call 11; refine RC2.out.mono ?_; rintro _ w9 ⟨⟨v9, rfl, hO9⟩, hb9⟩; have B9 := hid (B8.out.trans (hb9.mono B8.out.size)); obtain ⟨a9, c9, rfl, hI9, _, _⟩ := isB_ownR hO9 HTB.out; have I9 := hid hI9; clear hb9 hO9 hI9 RC2)
    | (go_at_call 19; refine RR2.out.mono ?_; rintro _ w8 ⟨hb8, v8, rfl, hO8⟩; have B8 := hid (B7.out.trans (hb8.mono B7.out.size)); obtain ⟨a8, c8, rfl, hI8, _, _⟩ := isL_own hO8 HMW.out; have RC2 := hid (records_c a8 c8 m w8 hI8 (by omega)); rw [HMK.out, HME.out] at RC2; simp only [if_true] at RC2; clear hb8 hO8 hI8 RR2)
    | (have _q := tF.out; clear _q; go_at_call 16; refine (FW.out w7 B7.out).mono ?_; rintro _ wf ⟨rfl, hwf⟩; have hwf2 := hwf.symm; clear hwf; subst hwf2; have RR2 := hid (RA.out w7 B7.out); clear tF)
    | (go_at_call 11; refine RC1.out.mono ?_; rintro _ w7 ⟨rfl, hb7⟩; have B7 := hid (B4.out.trans (hb7.mono B4.out.size)); clear hb7 RC1)
    | (go_at_call 17; refine RO.out.mono ?_; rintro _ w3 ⟨rfl, hb3⟩; have b4 := below_1 w3 (.cells x.ops.toArray 27); have hP4 := heap_alloc_new w3 (.cells x.ops.toArray 27); have hX3 := (hb3.block _ (lt_blkR HX2.out)).trans HX2.out; have hX4 := (b4.block _ (lt_blkR hX3)).trans hX3; have B4 := hid ((B2.out.trans (hb3.mono B2.out.size)).trans (b4.mono (Nat.le_trans B2.out.size hb3.size))); obtain ⟨q0, q1, q2, q3, q4, q5, q6, q7⟩ := op_all hX4; obtain ⟨r0, r1, r2, r3, r4, r5, r6, r7⟩ := op_all hP4; simp only [Rec.ops] at q0 q1 q2 q3 q4 q5 q6 q7 r0 r1 r2 r3 r4 r5 r6 r7; have RC1 := hid (HR0.out _ B4.out); clear hb3 b4 hP4 hX3 hX4 RO)
    | (go_at_call 9; refine OX.out.mono ?_; rintro _ w2 ⟨⟨v2, rfl, hO2⟩, hb2⟩; have B2 := hid (B0.out.trans (hb2.mono B0.out.size)); have HX2 := hid ((hb2.block _ (lt_blkR HX0.out)).trans HX0.out); obtain ⟨ay, cy, rfl, hI2, hcy, hL2⟩ := isB_ownR hO2 HYI.out; have RO := hid (readOp_c ay ys.length cy ys w2 hI2 hcy hL2); rw [HAL.out] at RO; simp only [readV] at RO; unfold Rec.opV at RO; clear hb2 hO2 hI2 hL2))
  have FX : Hid (∀ W, Below w9.heap.size w9 W → (convert 30 9 (.slice a9 ts.length c9)).run Try.prog W = .ok (.string (Fr.tx ts)) W ∧ (convert 30 9 (.slice a2 n3 cap2)).run Try.prog W = .ok (.string (Fr.tx ts)) W ∧ Calls Try.prog 16 #[.slice a2 len2 cap2] W fun e w' => e = .returned (.slice a2 n3 cap2) ∧ Below W.heap.size W w') := hid (fun W hW => by
    have hW0 := B9.out.trans (hW.mono B9.out.size)
    refine ⟨conv_R (I9.out.later hW), ?_, (FW.out W hW0).mono fun e w' ⟨h1, h2⟩ => ⟨h1, by rw [h2]; exact Below.refl _ _⟩⟩
    have := HI3.out W hW0
    rw [← HTL.out] at this ⊢
    exact conv_R this)
  refine wp_region_class (by kernel_rfl) (by kernel_rfl) ?_
  repeat (first
    | go_big_quiet_skip
    | (go_big_quiet_want
       apply quiet_by
       · intro wq hwq
         obtain ⟨f1, f2, f3⟩ := FX.out wq hwq
         go_simp
         first
           | rfl
           | (go_at_call 15; exact class_of hwq (LC.out _))
           | (go_at_call 16; exact class_of hwq f3)
       · go_simp; rfl
       go_big_quiet_on))
  refine wpQuiet_nil ?_
  intro w10 hw10
  go_wp2
  go_ret
  exact ⟨by simp, B9.out.trans (hw10.mono B9.out.size)⟩
set_option maxRecDepth 20000 in
set_option maxHeartbeats 4000000 in
theorem recordBack_t_ok_none (x : Rec) (a : Option Addr) (cap : Nat) (l0 : List Rec) (hc : l0.length ≤ cap) (a2 : Option Addr) (len2 cap2 : Nat) (z2 : List Int) (lc2 : len2 ≤ cap2) (w : World) (hx : x.Wf) (h : IsL w a l0) (h2 : IsB w a2 len2 z2) (rx : rightF x = true) (q : l0.length ≤ 40) (ok : recsOk l0 = true) (hr : recsAll (z2.take (few7 len2)) = none) :
    Calls Try.prog 6 #[x.opV, .slice a l0.length cap, .slice a2 len2 cap2] w fun e w' => e = .returned (.bool true) ∧ Below w.heap.size w w' := by
  have hm := h.1
  unfold maxLen at hm
  have I3 := h2.front (few7 len2) (few7_le _)
  have hcf : few7 len2 ≤ cap2 := Nat.le_trans (few7_le _) lc2
  have FW := hid (fun W (hW : Below w.heap.size w W) => few7_c a2 len2 cap2 z2 W (h2.later hW) lc2)
  have RA := hid (fun W (hW : Below w.heap.size w W) => readAny_c a2 (few7 len2) cap2 _ W (I3.later hW) hcf)
  rw [hr] at RA
  unfold ReadsL at RA
  have LC := hid rlive_c
  have tF := hid True.intro
  generalize few7 len2 = n3 at *
  clear hr I3 h2 lc2 hcf
  have hX0 := heap_alloc_new w (.cells x.ops.toArray 27)
  have HX0 := hid hX0
  have B0 := hid (below_1 w (.cells x.ops.toArray 27))
  obtain ⟨p0, p1, p2, p3, p4, p5, p6, p7⟩ := op_all hX0
  simp only [Rec.ops] at p0 p1 p2 p3 p4 p5 p6 p7
  have OX := hid (op_c x (w.alloc (.cells x.ops.toArray 27)) hx)
  rw [rx] at OX
  simp only [if_true] at OX
  clear hX0
  have qI : ¬ (40 : Int) < l0.length := by omega
  have HR0 := hid (fun W (hW : Below w.heap.size w W) => records_c a cap l0 W (h.later hW) (by omega))
  rw [ok] at HR0
  simp only [if_true] at HR0
  have HI := hid (fun W (hW : Below w.heap.size w W) => h.later hW)
  have HWL := hid h.2.1
  have HRL := hid (recsAll_recsA l0 h.2.1 ok)
  have HZI := hid (recsA_in l0)
  generalize recsA l0 = zs at *
  clear h ok
  have hqq : ∀ W : World, (Op.equalIn 10000 27 x.opV x.opV).run Try.prog W = .ok true W := by
    obtain ⟨r, hr, hrun⟩ := ops_equal hx hx
    have : r = true := hr.2 rfl
    rw [this] at hrun
    exact hrun
  have hgd := ops_guard
  have HAL := hid (opAll_opB x hx rx)
  have HYI := hid (opB_in x)
  generalize opB x = ys at *
  unfold Rec.opV at hqq
  clear hx rx
  unfold Rec.opV at OX ⊢
  go_enter Try.func6, Try.ntmps6
  go_wp2_with (first
    | (go_at_call 15; refine (LC.out _).mono ?_; rintro _ wL ⟨rfl, hbL⟩)
    | (go_at_call 19; refine RR2.out.mono ?_; rintro _ w8 ⟨hb8, rfl⟩; have B8 := hid (B7.out.trans (hb8.mono B7.out.size)); clear hb8 RR2)
    | (have _q := tF.out; clear _q; go_at_call 16; refine (FW.out w7 B7.out).mono ?_; rintro _ wf ⟨rfl, hwf⟩; have hwf2 := hwf.symm; clear hwf; subst hwf2; have RR2 := hid (RA.out w7 B7.out); clear tF)
    | (go_at_call 23; refine SM.out.mono ?_; rintro _ w7 ⟨rfl, hb7⟩; have B7 := hid (B6.out.trans (hb7.mono B6.out.size)); clear hb7 SM)
    | (go_at_call 19; refine RR1.out.mono ?_; rintro _ w6 ⟨hb6, v6, rfl, hO6⟩; have B6 := hid (B5.out.trans (hb6.mono B5.out.size)); obtain ⟨a6, c6, rfl, hI6, _, _⟩ := isL_own hO6 HWL.out; have SM := hid (rsame_c a6 a c6 cap l0 l0 w6 hI6 (HI.out w6 B6.out) (by omega) (by omega)); rw [eqL_t (rfl : l0 = l0)] at SM; clear hb6 hO6 hI6 RR1)
    | (go_at_call 11; refine RC1.out.mono ?_; rintro _ w5 ⟨⟨v5, rfl, hO5⟩, hb5⟩; have B5 := hid (B4.out.trans (hb5.mono B4.out.size)); obtain ⟨az, cz, rfl, hI5, hcz, hL5⟩ := isB_ownR hO5 HZI.out; have RR1 := hid (readRecords_c az zs.length cz zs w5 hI5 hcz hL5); rw [HRL.out] at RR1; unfold ReadsL at RR1; clear hb5 hO5 hI5 hL5 RC1)
    | (go_at_call 17; refine RO.out.mono ?_; rintro _ w3 ⟨rfl, hb3⟩; have b4 := below_1 w3 (.cells x.ops.toArray 27); have hP4 := heap_alloc_new w3 (.cells x.ops.toArray 27); have hX3 := (hb3.block _ (lt_blkR HX2.out)).trans HX2.out; have hX4 := (b4.block _ (lt_blkR hX3)).trans hX3; have B4 := hid ((B2.out.trans (hb3.mono B2.out.size)).trans (b4.mono (Nat.le_trans B2.out.size hb3.size))); obtain ⟨q0, q1, q2, q3, q4, q5, q6, q7⟩ := op_all hX4; obtain ⟨r0, r1, r2, r3, r4, r5, r6, r7⟩ := op_all hP4; simp only [Rec.ops] at q0 q1 q2 q3 q4 q5 q6 q7 r0 r1 r2 r3 r4 r5 r6 r7; have RC1 := hid (HR0.out _ B4.out); clear hb3 b4 hP4 hX3 hX4 RO)
    | (go_at_call 9; refine OX.out.mono ?_; rintro _ w2 ⟨⟨v2, rfl, hO2⟩, hb2⟩; have B2 := hid (B0.out.trans (hb2.mono B0.out.size)); have HX2 := hid ((hb2.block _ (lt_blkR HX0.out)).trans HX0.out); obtain ⟨ay, cy, rfl, hI2, hcy, hL2⟩ := isB_ownR hO2 HYI.out; have RO := hid (readOp_c ay ys.length cy ys w2 hI2 hcy hL2); rw [HAL.out] at RO; simp only [readV] at RO; unfold Rec.opV at RO; clear hb2 hO2 hI2 hL2))
  go_ret
  exact ⟨by first | rfl | simp, B8.out.trans (hbL.mono B8.out.size)⟩
set_option maxRecDepth 20000 in
set_option maxHeartbeats 4000000 in
theorem recordBack_t_ok_some (x : Rec) (a : Option Addr) (cap : Nat) (l0 : List Rec) (hc : l0.length ≤ cap) (a2 : Option Addr) (len2 cap2 : Nat) (z2 : List Int) (lc2 : len2 ≤ cap2) (w : World) (hx : x.Wf) (h : IsL w a l0) (h2 : IsB w a2 len2 z2) (rx : rightF x = true) (q : l0.length ≤ 40) (ok : recsOk l0 = true) (m : List Rec) (hr : recsAll (z2.take (few7 len2)) = some m) :
    Calls Try.prog 6 #[x.opV, .slice a l0.length cap, .slice a2 len2 cap2] w fun e w' => e = .returned (.bool true) ∧ Below w.heap.size w w' := by
  have hm := h.1
  unfold maxLen at hm
  have I3 := h2.front (few7 len2) (few7_le _)
  have hcf : few7 len2 ≤ cap2 := Nat.le_trans (few7_le _) lc2
  have FW := hid (fun W (hW : Below w.heap.size w W) => few7_c a2 len2 cap2 z2 W (h2.later hW) lc2)
  have RA := hid (fun W (hW : Below w.heap.size w W) => readAny_c a2 (few7 len2) cap2 _ W (I3.later hW) hcf)
  rw [hr] at RA
  unfold ReadsL at RA
  have LC := hid rlive_c
  have tF := hid True.intro
  obtain ⟨mk, me, mw⟩ := recsAll_back I3.2.2.2 hr
  have ml := (recsOk_right mk).1
  have HI3 := hid (fun W (hW : Below w.heap.size w W) => I3.later hW)
  generalize z2.take (few7 len2) = ts at *
  have HTL : Hid (ts.length = few7 len2) := hid I3.1
  have HTB := hid (byt_of I3.2.2.2)
  have HMK := hid mk
  have HME := hid me
  have HMW := hid mw
  clear mk me mw
  generalize few7 len2 = n3 at *
  clear hr I3 h2 lc2 hcf
  have hX0 := heap_alloc_new w (.cells x.ops.toArray 27)
  have HX0 := hid hX0
  have B0 := hid (below_1 w (.cells x.ops.toArray 27))
  obtain ⟨p0, p1, p2, p3, p4, p5, p6, p7⟩ := op_all hX0
  simp only [Rec.ops] at p0 p1 p2 p3 p4 p5 p6 p7
  have OX := hid (op_c x (w.alloc (.cells x.ops.toArray 27)) hx)
  rw [rx] at OX
  simp only [if_true] at OX
  clear hX0
  have qI : ¬ (40 : Int) < l0.length := by omega
  have HR0 := hid (fun W (hW : Below w.heap.size w W) => records_c a cap l0 W (h.later hW) (by omega))
  rw [ok] at HR0
  simp only [if_true] at HR0
  have HI := hid (fun W (hW : Below w.heap.size w W) => h.later hW)
  have HWL := hid h.2.1
  have HRL := hid (recsAll_recsA l0 h.2.1 ok)
  have HZI := hid (recsA_in l0)
  generalize recsA l0 = zs at *
  clear h ok
  have hqq : ∀ W : World, (Op.equalIn 10000 27 x.opV x.opV).run Try.prog W = .ok true W := by
    obtain ⟨r, hr, hrun⟩ := ops_equal hx hx
    have : r = true := hr.2 rfl
    rw [this] at hrun
    exact hrun
  have hgd := ops_guard
  have HAL := hid (opAll_opB x hx rx)
  have HYI := hid (opB_in x)
  generalize opB x = ys at *
  unfold Rec.opV at hqq
  clear hx rx
  unfold Rec.opV at OX ⊢
  go_enter Try.func6, Try.ntmps6
  go_wp2_with (first
    | (go_at_call 11; refine RC2.out.mono ?_; rintro _ w9 ⟨⟨v9, rfl, hO9⟩, hb9⟩; have B9 := hid (B8.out.trans (hb9.mono B8.out.size)); obtain ⟨a9, c9, rfl, hI9, _, _⟩ := isB_ownR hO9 HTB.out; have I9 := hid hI9; clear hb9 hO9 hI9 RC2)
    | (go_at_call 19; refine RR2.out.mono ?_; rintro _ w8 ⟨hb8, v8, rfl, hO8⟩; have B8 := hid (B7.out.trans (hb8.mono B7.out.size)); obtain ⟨a8, c8, rfl, hI8, _, _⟩ := isL_own hO8 HMW.out; have RC2 := hid (records_c a8 c8 m w8 hI8 (by omega)); rw [HMK.out, HME.out] at RC2; simp only [if_true] at RC2; clear hb8 hO8 hI8 RR2)
    | (have _q := tF.out; clear _q; go_at_call 16; refine (FW.out w7 B7.out).mono ?_; rintro _ wf ⟨rfl, hwf⟩; have hwf2 := hwf.symm; clear hwf; subst hwf2; have RR2 := hid (RA.out w7 B7.out); clear tF)
    | (go_at_call 23; refine SM.out.mono ?_; rintro _ w7 ⟨rfl, hb7⟩; have B7 := hid (B6.out.trans (hb7.mono B6.out.size)); clear hb7 SM)
    | (go_at_call 19; refine RR1.out.mono ?_; rintro _ w6 ⟨hb6, v6, rfl, hO6⟩; have B6 := hid (B5.out.trans (hb6.mono B5.out.size)); obtain ⟨a6, c6, rfl, hI6, _, _⟩ := isL_own hO6 HWL.out; have SM := hid (rsame_c a6 a c6 cap l0 l0 w6 hI6 (HI.out w6 B6.out) (by omega) (by omega)); rw [eqL_t (rfl : l0 = l0)] at SM; clear hb6 hO6 hI6 RR1)
    | (go_at_call 11; refine RC1.out.mono ?_; rintro _ w5 ⟨⟨v5, rfl, hO5⟩, hb5⟩; have B5 := hid (B4.out.trans (hb5.mono B4.out.size)); obtain ⟨az, cz, rfl, hI5, hcz, hL5⟩ := isB_ownR hO5 HZI.out; have RR1 := hid (readRecords_c az zs.length cz zs w5 hI5 hcz hL5); rw [HRL.out] at RR1; unfold ReadsL at RR1; clear hb5 hO5 hI5 hL5 RC1)
    | (go_at_call 17; refine RO.out.mono ?_; rintro _ w3 ⟨rfl, hb3⟩; have b4 := below_1 w3 (.cells x.ops.toArray 27); have hP4 := heap_alloc_new w3 (.cells x.ops.toArray 27); have hX3 := (hb3.block _ (lt_blkR HX2.out)).trans HX2.out; have hX4 := (b4.block _ (lt_blkR hX3)).trans hX3; have B4 := hid ((B2.out.trans (hb3.mono B2.out.size)).trans (b4.mono (Nat.le_trans B2.out.size hb3.size))); obtain ⟨q0, q1, q2, q3, q4, q5, q6, q7⟩ := op_all hX4; obtain ⟨r0, r1, r2, r3, r4, r5, r6, r7⟩ := op_all hP4; simp only [Rec.ops] at q0 q1 q2 q3 q4 q5 q6 q7 r0 r1 r2 r3 r4 r5 r6 r7; have RC1 := hid (HR0.out _ B4.out); clear hb3 b4 hP4 hX3 hX4 RO)
    | (go_at_call 9; refine OX.out.mono ?_; rintro _ w2 ⟨⟨v2, rfl, hO2⟩, hb2⟩; have B2 := hid (B0.out.trans (hb2.mono B0.out.size)); have HX2 := hid ((hb2.block _ (lt_blkR HX0.out)).trans HX0.out); obtain ⟨ay, cy, rfl, hI2, hcy, hL2⟩ := isB_ownR hO2 HYI.out; have RO := hid (readOp_c ay ys.length cy ys w2 hI2 hcy hL2); rw [HAL.out] at RO; simp only [readV] at RO; unfold Rec.opV at RO; clear hb2 hO2 hI2 hL2))
  have FX : Hid (∀ W, Below w9.heap.size w9 W → (convert 30 9 (.slice a9 ts.length c9)).run Try.prog W = .ok (.string (Fr.tx ts)) W ∧ (convert 30 9 (.slice a2 n3 cap2)).run Try.prog W = .ok (.string (Fr.tx ts)) W ∧ Calls Try.prog 16 #[.slice a2 len2 cap2] W fun e w' => e = .returned (.slice a2 n3 cap2) ∧ Below W.heap.size W w') := hid (fun W hW => by
    have hW0 := B9.out.trans (hW.mono B9.out.size)
    refine ⟨conv_R (I9.out.later hW), ?_, (FW.out W hW0).mono fun e w' ⟨h1, h2⟩ => ⟨h1, by rw [h2]; exact Below.refl _ _⟩⟩
    have := HI3.out W hW0
    rw [← HTL.out] at this ⊢
    exact conv_R this)
  refine wp_region_class (by kernel_rfl) (by kernel_rfl) ?_
  repeat (first
    | go_big_quiet_skip
    | (go_big_quiet_want
       apply quiet_by
       · intro wq hwq
         obtain ⟨f1, f2, f3⟩ := FX.out wq hwq
         go_simp
         first
           | rfl
           | (go_at_call 15; exact class_of hwq (LC.out _))
           | (go_at_call 16; exact class_of hwq f3)
       · go_simp; rfl
       go_big_quiet_on))
  refine wpQuiet_nil ?_
  intro w10 hw10
  go_wp2
  go_ret
  exact ⟨by simp, B9.out.trans (hw10.mono B9.out.size)⟩
theorem recordBack_walk (x : Rec) (a : Option Addr) (len cap : Nat) (l0 : List Rec) (hl : l0.length = len) (hc : len ≤ cap) (a2 : Option Addr) (len2 cap2 : Nat) (z2 : List Int) (lc2 : len2 ≤ cap2) (w : World) (hx : x.Wf) (h : IsL w a l0) (h2 : IsB w a2 len2 z2) :
    Calls Try.prog 6 #[x.opV, .slice a len cap, .slice a2 len2 cap2] w fun e w' => e = .returned (.bool true) ∧ Below w.heap.size w w' := by
  subst hl
  cases rx : rightF x with
  | false =>
    by_cases q : l0.length ≤ 40
    · cases ok : recsOk l0 with
      | false =>
        rcases hr : recsAll (z2.take (few7 len2)) with _ | m
        · exact recordBack_f_no_none x a cap l0 hc a2 len2 cap2 z2 lc2 w hx h h2 rx q ok hr
        · exact recordBack_f_no_some x a cap l0 hc a2 len2 cap2 z2 lc2 w hx h h2 rx q ok m hr
      | true =>
        rcases hr : recsAll (z2.take (few7 len2)) with _ | m
        · exact recordBack_f_ok_none x a cap l0 hc a2 len2 cap2 z2 lc2 w hx h h2 rx q ok hr
        · exact recordBack_f_ok_some x a cap l0 hc a2 len2 cap2 z2 lc2 w hx h h2 rx q ok m hr
    · rcases hr : recsAll (z2.take (few7 len2)) with _ | m
      · exact recordBack_f_big_none x a cap l0 hc a2 len2 cap2 z2 lc2 w hx h h2 rx (by omega) hr
      · exact recordBack_f_big_some x a cap l0 hc a2 len2 cap2 z2 lc2 w hx h h2 rx (by omega) m hr
  | true =>
    by_cases q : l0.length ≤ 40
    · cases ok : recsOk l0 with
      | false =>
        rcases hr : recsAll (z2.take (few7 len2)) with _ | m
        · exact recordBack_t_no_none x a cap l0 hc a2 len2 cap2 z2 lc2 w hx h h2 rx q ok hr
        · exact recordBack_t_no_some x a cap l0 hc a2 len2 cap2 z2 lc2 w hx h h2 rx q ok m hr
      | true =>
        rcases hr : recsAll (z2.take (few7 len2)) with _ | m
        · exact recordBack_t_ok_none x a cap l0 hc a2 len2 cap2 z2 lc2 w hx h h2 rx q ok hr
        · exact recordBack_t_ok_some x a cap l0 hc a2 len2 cap2 z2 lc2 w hx h h2 rx q ok m hr
    · rcases hr : recsAll (z2.take (few7 len2)) with _ | m
      · exact recordBack_t_big_none x a cap l0 hc a2 len2 cap2 z2 lc2 w hx h h2 rx (by omega) hr
      · exact recordBack_t_big_some x a cap l0 hc a2 len2 cap2 z2 lc2 w hx h h2 rx (by omega) m hr
/-! ### The row of RecordBack -/
theorem recordBack_own : ownKnob Try.prog.godebug = none := by kernel_rfl
theorem recordBack_laidOut : laidOutB Try.prog = true := by kernel_rfl
set_option maxRecDepth 100000 in
theorem recordBack_lifted (os : Os) (started : os.Started) (H : Type) (enc : TypeId × Value → H) :
    ReturnsInHanded {} Try.checked os 6 .any (Rows.recordBackSpec.pre6 enc Try.prog Try.f6 Rows.recordBackRow.domain false) (Rows.recordBackSpec.post enc Try.prog Try.f6 false true false false) := by
  refine returnsInHanded_of_change (C := Try.checked) recordBack_own started (by kernel_rfl) Try.func6
    (ChangeSpec.witness6 (enc := enc) (C := Try.checked) false ⟨#[], #[.agg #[.int .u8 0, .int .u32 0, .int .u32 0, .string ByteArray.empty, .int .u32 0, .string ByteArray.empty, .int .u16 0, .string ByteArray.empty], .slice none 0 0, .slice none 0 0], []⟩ 8 (by kernel_rfl) (by kernel_rfl) (by kernel_rfl) (by kernel_rfl)) ?_
  intro W base args ds gs before hval0 hW hcnd _
  have hval : ∀ (j : Nat) t v, Try.f6.params[j]? = some t → args[j]? = some v → Value.okWide Try.prog W .any base t v := hval0
  have hW' := hW
  obtain ⟨p, q, hA0, hV, rfl, hfz, hnd⟩ := hW
  have hA : DataW.TrodAll enc Try.prog W 0 (fun _ => true) true Try.f6.params.toList args.toList ds p := hA0
  rw [Try.params6] at hA hval
  obtain ⟨v0, vs0, d0, ds0, p0, q0, hargs, rfl, rfl, h0, r0⟩ := trodAll_cons hA
  obtain ⟨v1, vs1, d1, ds1, p1, q1, rfl, rfl, rfl, h1, r1⟩ := trodAll_cons r0
  obtain ⟨v2, vs2, d2, ds2, p2, q2, rfl, rfl, rfl, h2, r2⟩ := trodAll_cons r1
  obtain ⟨rfl, rfl, rfl⟩ := trodAll_nil r2
  obtain rfl : args = #[v0, v1, v2] := by cases args; simp_all
  obtain ⟨rfl, rfl⟩ := trodVars_none hV
  have k0 := h0
  have lt0 : ∀ x ∈ p0, x.block < W.heap.size := by obtain ⟨m, hm⟩ := k0; exact DataW.trod_lt m _ _ _ hm
  obtain ⟨q0, rfl, wq0⟩ := open_op (hval 0 27 v0 rfl rfl) h0
  have k1 := h1
  have lt1 : ∀ x ∈ p1, x.block < W.heap.size := by obtain ⟨m, hm⟩ := k1; exact DataW.trod_lt m _ _ _ hm
  obtain ⟨a1, len1, cap1, rfl⟩ := okWide_slice Try.underlying28 (hval 1 28 v1 rfl rfl)
  obtain ⟨z1, lz1, w1, lc1⟩ := isL_of Try.underlying28 h1
  have k2 := h2
  have lt2 : ∀ x ∈ p2, x.block < W.heap.size := by obtain ⟨m, hm⟩ := k2; exact DataW.trod_lt m _ _ _ hm
  obtain ⟨a2, len2, cap2, rfl⟩ := okWide_slice Try.underlying30 (hval 2 30 v2 rfl rfl)
  obtain ⟨z2, w2, lc2⟩ := isB_of Try.underlying30 Try.underlying5 (by kernel_rfl) h2
  clear hA0 hval0
  refine (recordBack_walk q0 a1 len1 cap1 z1 lz1 lc1 a2 len2 cap2 z2 lc2 W wq0 w1 w2).mono fun e W' ⟨he, bel⟩ => ?_
  subst he
  exact ⟨_, rfl, _, _, _, [], _, [], hW', trodAll_mk1 (shut_bool Try.underlying4 _), (trodAll_cons_mk (Below.trod recordBack_laidOut (by kernel_rfl) (of_decide_eq_true (by kernel_rfl)) k0 bel lt0) (trodAll_cons_mk (Below.trod recordBack_laidOut (by kernel_rfl) (of_decide_eq_true (by kernel_rfl)) k1 bel lt1) (trodAll_cons_mk (Below.trod recordBack_laidOut (by kernel_rfl) (of_decide_eq_true (by kernel_rfl)) k2 bel lt2) trodAll_mk0))), rfl, bel.frame _, fun h => by cases h⟩
theorem recordBack_over : Rows.recordBackRow.holds Try.pinned (OpenSpec.ofChange Rows.recordBackSpec) :=
  OpenClaim.holds_of_wide 6 Try.f6 rfl rfl rfl rfl rfl rfl rfl ⟨rfl, rfl, rfl, rfl, rfl⟩ rfl rfl rfl rfl rfl (by kernel_rfl) Try.func6 (by kernel_rfl)
    (of_decide_eq_true (by kernel_rfl)) (by unfold Func.isWrapper; first | (rw [if_pos (by decide +kernel)]; kernel_rfl) | (rw [if_neg (by decide +kernel)]; exact ⟨rfl, rfl⟩))
    (fun os started H enc _ => recordBack_lifted os started H enc)
/-- The statement. -/
theorem recordBack_holds : Rows.RecordBackSaid := recordBack_over
#print axioms recordBack_holds

end Go.Proofs.Ytpfknjhheclmlaa
