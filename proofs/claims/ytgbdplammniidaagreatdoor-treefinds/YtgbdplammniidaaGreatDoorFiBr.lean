/-
  partitionOrdered of a part of a row of fids.
-/
import Derived.Test.YtgbdplammniidaaGreatDoorFiBq
import Derived.Deep.CutRange
namespace Go.Proofs.YtgbdplammniidaaGreatDoor
open Go.RowKit Go.ChangeShapes Go.WideShapes Go.ChangeAt
set_option linter.unusedVariables false
set_option linter.unusedSimpArgs false
set_option maxRecDepth 100000
open Go.Sort (ltInt)
def upF (d : Array Int) (a j i : Nat) : Nat := Go.Sort.scanUp (fun x => ltInt x d[a]!) d j i
def dnF (d : Array Int) (a i j : Nat) : Nat := Go.Sort.scanDown (fun x => !ltInt x d[a]!) d i j
theorem up_t {d : Array Int} {a j i : Nat} (h : i ≤ j) (hl : ft d i < ft d a) : upF d a j i = upF d a j (i + 1) := by
 have hl' : ltInt d[i]! d[a]! = true := decide_eq_true hl
 unfold upF
 rw [Go.Sort.scanUp, if_pos (by rw [hl']; simpa using h)]
theorem up_f {d : Array Int} {a j i : Nat} (h : ¬ (i ≤ j ∧ ft d i < ft d a)) : upF d a j i = i := by
 unfold upF
 rw [Go.Sort.scanUp, if_neg (fun hh => h (by rw [Bool.and_eq_true] at hh; exact ⟨by simpa using hh.1, of_decide_eq_true hh.2⟩))]
theorem dn_t {d : Array Int} {a i j : Nat} (h0 : 1 ≤ i) (h : i ≤ j) (hl : ¬ ft d j < ft d a) : dnF d a i j = dnF d a i (j - 1) := by
 have hl' : ltInt d[j]! d[a]! = false := decide_eq_false hl
 obtain ⟨k, rfl⟩ : ∃ k, j = k + 1 := ⟨j - 1, by omega⟩
 unfold dnF
 rw [Go.Sort.scanDown, if_pos (by rw [hl']; simpa using h)]
 rfl
theorem dn_f {d : Array Int} {a i j : Nat} (h : ¬ (i ≤ j ∧ ft d a ≤ ft d j)) : dnF d a i j = j := by
 unfold dnF
 cases j with
 | zero => rfl
 | succ k =>
   rw [Go.Sort.scanDown, if_neg (fun hh => h (by
     rw [Bool.and_eq_true] at hh
     refine ⟨by simpa using hh.1, Int.not_lt.1 fun hl => ?_⟩
     have hl' : ltInt d[k + 1]! d[a]! = true := decide_eq_true hl
     have h2 := hh.2
     rw [hl'] at h2
     exact absurd h2 (by simp)))]
theorem part_brk {d : Array Int} {a i j i2 j2 : Nat} (h1 : upF d a j i = i2) (h2 : dnF d a i2 j = j2) (h : j2 < i2) : Go.Sort.partLoop ltInt a i j d = (j2, d) := by
 rw [Go.Sort.partLoop_eq]
 unfold upF at h1; unfold dnF at h2
 rw [h1, h2, if_pos h]
theorem part_go {d : Array Int} {a i j i2 j2 : Nat} (h1 : upF d a j i = i2) (h2 : dnF d a i2 j = j2) (h : ¬ j2 < i2) : Go.Sort.partLoop ltInt a i j d = Go.Sort.partLoop ltInt a (i2 + 1) (j2 - 1) (Go.Sort.swp d i2 j2) := by
 rw [Go.Sort.partLoop_eq]
 unfold upF at h1; unfold dnF at h2
 rw [h1, h2, if_neg h]
theorem part_ne {d : Array Int} {a i j i2 j2 : Nat} (h1 : upF d a j i = i2) (h2 : dnF d a i2 j = j2) (h0 : 0 < i2) (hj : j2 ≤ j) (h : ¬ j2 < i2) : i2 < j2 := by
 unfold upF at h1; unfold dnF at h2
 have s1 := (Go.Sort.scanUp_spec (fun x => ltInt x d[a]!) d j _ i rfl).2.2.2
 have s2 := (Go.Sort.scanDown_spec (fun x => !ltInt x d[a]!) d i2 j).2.2.2
 rw [h1] at s1
 rw [h2] at s2
 rcases Nat.lt_or_ge i2 j2 with q | q
 · exact q
 · obtain rfl : i2 = j2 := by omega
   have e1 := s1 (by omega)
   have e2 := s2 (by omega) h0
   have e1' : ltInt d[i2]! d[a]! = false := e1
   have e2' : (!ltInt d[i2]! d[a]!) = false := e2
   rw [e1'] at e2'
   exact absurd e2' (by simp)
def PaP (g n : Nat) (r : Nat × Bool × Array Int) (w : World) (e : Ending) (w' : World) : Prop := (∃ f : Bool, e = .returned (.tuple #[.int .i64 r.1, .bool f])) ∧ Fa w' g n r.2.2 ∧ Ou (fun k => k = g) w w'
def PaR (g n a : Nat) (R : Nat × Array Int) (w : World) (e : Ending) (w' : World) : Prop := (∃ f : Bool, e = .returned (.tuple #[.int .i64 R.1, .bool f])) ∧ Fa w' g n (Go.Sort.swp R.2 R.1 a) ∧ Ou (fun k => k = g) w w'
set_option maxHeartbeats 8000000 in
theorem partA_c (g n cap a b pivot : Nat) (d : Array Int) (w : World) (h : Fa w g n d) (hn : n ≤ 40) (hcap : n ≤ cap) (hap : a < pivot) (hpb : pivot < b) (hb : b ≤ n) :
   Calls Tryz.prog 128 #[.slice (some ⟨g, 0, none⟩) n cap, .int .i64 a, .int .i64 b, .int .i64 pivot] w (PaP g n (Go.Sort.partition ltInt d a b pivot) w) := by
 have H0 := hid h
 clear h
 obtain ⟨b1, Hb1⟩ : ∃ b1, Hid (b1 = b - 1) := ⟨_, hid rfl⟩
 have hb1I : (b : Int) - 1 = (b1 : Int) := by have := Hb1.out; omega
 have hb1 : b1 < n := by have := Hb1.out; omega
 have hab1 : a + 1 ≤ b1 := by have := Hb1.out; omega
 obtain ⟨R, HR⟩ : ∃ R, Hid (Go.Sort.partLoop ltInt a (a + 1) b1 (Go.Sort.swp d a pivot) = R) := ⟨_, hid rfl⟩
 have R1 : Hid ((Go.Sort.partition ltInt d a b pivot).1 = R.1) := hid (by rw [Go.Sort.partition_fst, ← HR.out, Hb1.out])
 have R2 : Hid ((Go.Sort.partition ltInt d a b pivot).2.2 = Go.Sort.swp R.2 R.1 a) := hid (by rw [Go.Sort.partition_arr, ← HR.out, Hb1.out])
 refine Calls.mono (R := PaR g n a R w) ?_ (fun e w' hh => ⟨⟨hh.1.choose, by rw [R1.out]; exact hh.1.choose_spec⟩, by rw [R2.out]; exact hh.2.1, hh.2.2⟩)
 clear R1 R2
 have hanI : (a : Int) < (n : Int) := by have := Hb1.out; omega
 have hpnI : (pivot : Int) < (n : Int) := by have := Hb1.out; omega
 have hne : ¬ a = pivot := by have := Hb1.out; omega
 have hne' : ¬ pivot = a := by have := Hb1.out; omega
 obtain ⟨c1, z1⟩ := H0.out.cell (j := a) (by have := Hb1.out; omega)
 obtain ⟨c2, z2⟩ := H0.out.cell (j := pivot) (by have := Hb1.out; omega)
 have FS := hid (H0.out.swp' (i := a) (j := pivot) (by have := Hb1.out; omega) (by have := Hb1.out; omega))
 have OS := hid ((Ou.refl (fun k => k = g) w).swp' a pivot (.int .u32 (ft d pivot)) (.int .u32 (ft d a)))
 go_enter Tryz.func128, Tryz.ntmps128
 go_wp2_with fail
 go_region
 clear c1 z1 c2 z2
 generalize Go.Sort.swp d a pivot = d1 at *
 generalize (World.setCell (World.setCell w _ _) _ _).drew = w1 at *
 obtain ⟨I, HI⟩ : ∃ I, Hid (upF d1 a b1 (a + 1) = I) := ⟨_, hid rfl⟩
 obtain ⟨J, HJ⟩ : ∃ J, Hid (dnF d1 a I b1 = J) := ⟨_, hid rfl⟩
 go_wp2
 go_loopw [10] (fun v10 wx => ∃ i : Nat, a + 1 ≤ i ∧ i ≤ b1 + 1 ∧ v10 = .int .i64 i ∧ Hid (upF d1 a b1 i = I) ∧ Hid (Fa wx g n d1) ∧ Hid (Ou (fun k => k = g) w wx)) (fun i _ => (42 - intOf i).toNat)
 case atStart => exact ⟨a + 1, by omega, by omega, by first | rfl | go_num, HI, FS, OS⟩
 case round =>
   obtain ⟨i, hi1, hi2, rfl, UX, FX, OX⟩ := hrel
   have FZ : Hid (∀ k, Fa (wr.drewN k) g n d1) := hid (fun k => FX.out.drewN k)
   have OZ : Hid (∀ k, Ou (fun k => k = g) w (wr.drewN k)) := hid (fun k => OX.out.drewN k)
   obtain ⟨T, HT⟩ : ∃ T : Bool, Hid (T = decide (i ≤ b1 ∧ ft d1 i < ft d1 a)) := ⟨_, hid rfl⟩
   go_upto_region 3 with fail
   go_cut [43] from 30 to 45 (fun s wx => s = .bool T ∧ ∃ wy, wy = wx ∧ Hid (Fa wy g n d1) ∧ Hid (Ou (fun k => k = g) w wy))
   case first =>
     by_cases hle : i ≤ b1
     · have hleI : (i : Int) ≤ (b1 : Int) := by omega
       have hiN : (i : Int) < (n : Int) := by omega
       obtain ⟨c1, z1⟩ := FX.out.cell (j := i) (by omega)
       obtain ⟨c2, z2⟩ := FX.out.cell (j := a) (by omega)
       by_cases hls : ft d1 i < ft d1 a
       · have hld : decide (ft d1 i < ft d1 a) = true := decide_eq_true hls
         go_quiet ((go_at_call 126; exact Calls.quiet_of_same (lessF_c _ _ _)))
         go_wp2
         go_meet
         exact ⟨by rw [HT.out, decide_eq_true (And.intro hle hls)], _, rfl, hid (FZ.out _), hid (OZ.out _)⟩
       · have hld : decide (ft d1 i < ft d1 a) = false := decide_eq_false hls
         go_quiet ((go_at_call 126; exact Calls.quiet_of_same (lessF_c _ _ _)))
         go_wp2
         go_meet
         exact ⟨by rw [HT.out, decide_eq_false (fun hh => absurd hh.2 (by omega))], _, rfl, hid (FZ.out _), hid (OZ.out _)⟩
     · have hled : decide ((i : Int) ≤ (b1 : Int)) = false := decide_eq_false (by omega)
       go_quiet (fail)
       go_wp2
       go_meet
       exact ⟨by rw [HT.out, decide_eq_false (fun hh => absurd hh.1 (by omega))], _, rfl, hid (FZ.out _), hid (OZ.out _)⟩
   case rest =>
     obtain ⟨rfl, wq, hwq, FQ, OQ⟩ := hcut
     subst hwq
     clear FX OX FZ OZ
     cases T with
     | true =>
       have hT : i ≤ b1 ∧ ft d1 i < ft d1 a := of_decide_eq_true HT.out.symm
       have U9 : Hid (upF d1 a b1 (i + 1) = I) := hid (by rw [← up_t hT.1 hT.2]; exact UX.out)
       go_wp2
       go_roundw
       case rel => exact ⟨i + 1, by omega, by omega, by first | rfl | go_num, U9, FQ, OQ⟩
       case measure => simp [intOf] <;> omega
     | false =>
       have hT : ¬ (i ≤ b1 ∧ ft d1 i < ft d1 a) := of_decide_eq_false HT.out.symm
       -- what stands behind
       clear HT
       obtain rfl : i = I := by have e := UX.out; rw [up_f hT] at e; exact e
       go_wp2
       go_loopw [11] (fun v11 wx => ∃ j : Nat, i ≤ j + 1 ∧ j ≤ b1 ∧ v11 = .int .i64 j ∧ Hid (dnF d1 a i j = J) ∧ Hid (Fa wx g n d1) ∧ Hid (Ou (fun k => k = g) w wx)) (fun j _ => (intOf j).toNat)
       case atStart => exact ⟨b1, by omega, by omega, by first | rfl | go_num, HJ, FQ, OQ⟩
       case round =>
         obtain ⟨j, hijn, hj2, rfl, DX, FX, OX⟩ := hrel
         have FZ : Hid (∀ k, Fa (wr.drewN k) g n d1) := hid (fun k => FX.out.drewN k)
         have OZ : Hid (∀ k, Ou (fun k => k = g) w (wr.drewN k)) := hid (fun k => OX.out.drewN k)
         obtain ⟨T, HT2⟩ : ∃ T : Bool, Hid (T = decide (i ≤ j ∧ ft d1 a ≤ ft d1 j)) := ⟨_, hid rfl⟩
         go_upto_region 5 with fail
         go_cut [60] from 46 to 62 (fun s wx => s = .bool T ∧ ∃ wy, wy = wx ∧ Hid (Fa wy g n d1) ∧ Hid (Ou (fun k => k = g) w wy))
         case first =>
           by_cases hle : i ≤ j
           · have hleI : (i : Int) ≤ (j : Int) := by omega
             have hjN : (j : Int) < (n : Int) := by omega
             obtain ⟨c1, z1⟩ := FX.out.cell (j := j) (by omega)
             obtain ⟨c2, z2⟩ := FX.out.cell (j := a) (by omega)
             by_cases hls : ft d1 j < ft d1 a
             · have hld : decide (ft d1 j < ft d1 a) = true := decide_eq_true hls
               go_quiet ((go_at_call 126; exact Calls.quiet_of_same (lessF_c _ _ _)))
               go_wp2
               go_meet
               exact ⟨by rw [HT2.out, decide_eq_false (fun hh => absurd hh.2 (by omega))], _, rfl, hid (FZ.out _), hid (OZ.out _)⟩
             · have hld : decide (ft d1 j < ft d1 a) = false := decide_eq_false hls
               go_quiet ((go_at_call 126; exact Calls.quiet_of_same (lessF_c _ _ _)))
               go_wp2
               go_meet
               exact ⟨by rw [HT2.out, decide_eq_true (And.intro hle (by omega))], _, rfl, hid (FZ.out _), hid (OZ.out _)⟩
           · have hled : decide ((i : Int) ≤ (j : Int)) = false := decide_eq_false (by omega)
             go_quiet (fail)
             go_wp2
             go_meet
             exact ⟨by rw [HT2.out, decide_eq_false (fun hh => absurd hh.1 (by omega))], _, rfl, hid (FZ.out _), hid (OZ.out _)⟩
         case rest =>
           obtain ⟨rfl, wq2, hwq2, FQ2, OQ2⟩ := hcut
           subst hwq2
           clear FX OX FZ OZ
           cases T with
           | true =>
             have hT2 : i ≤ j ∧ ft d1 a ≤ ft d1 j := of_decide_eq_true HT2.out.symm
             have hj1I : (j : Int) - 1 = ((j - 1 : Nat) : Int) := by omega
             have D9 : Hid (dnF d1 a i (j - 1) = J) := hid (by rw [← dn_t (by omega) hT2.1 (by omega)]; exact DX.out)
             go_wp2
             go_roundw
             case rel => exact ⟨j - 1, by omega, by omega, by first | rfl | go_num, D9, FQ2, OQ2⟩
             case measure => simp [intOf] <;> omega
           | false =>
             have hT2 : ¬ (i ≤ j ∧ ft d1 a ≤ ft d1 j) := of_decide_eq_false HT2.out.symm
             clear HT2
             obtain rfl : j = J := by have e := DX.out; rw [dn_f hT2] at e; exact e
             have hjn : (j : Int) < (n : Int) := by omega
             have hin : i ≤ b1 + 1 := by omega
             by_cases hij : j < i
             · have hijI : (j : Int) < (i : Int) := by omega
               have HB : Hid (R = (j, d1)) := hid (by rw [← HR.out, part_brk HI.out HJ.out hij])
               obtain rfl := HB.out
               by_cases hja : j = a
               · subst hja
                 obtain ⟨c1, z1⟩ := FQ2.out.cell (j := j) (by omega)
                 go_wp2_with fail
                 go_region
                 have F9 := hid (FQ2.out.swp' (i := j) (j := j) (by omega) (by omega))
                 have O9 := hid (OQ2.out.swp' j j (.int .u32 (ft d1 j)) (.int .u32 (ft d1 j)))
                 clear c1 z1
                 go_wp2
                 go_ret2
                 exact ⟨⟨true, rfl⟩, F9.out, O9.out⟩
               · have hja' : ¬ a = j := fun e => hja e.symm
                 obtain ⟨c1, z1⟩ := FQ2.out.cell (j := j) (by omega)
                 obtain ⟨c2, z2⟩ := FQ2.out.cell (j := a) (by omega)
                 go_wp2_with fail
                 go_region
                 have F9 := hid (FQ2.out.swp' (i := j) (j := a) (by omega) (by omega))
                 have O9 := hid (OQ2.out.swp' j a (.int .u32 (ft d1 a)) (.int .u32 (ft d1 j)))
                 clear c1 z1 c2 z2
                 go_wp2
                 go_ret2
                 exact ⟨⟨true, rfl⟩, F9.out, O9.out⟩
             · have hijd : decide ((j : Int) < (i : Int)) = false := decide_eq_false (by omega)
               have hlt : i < j := part_ne HI.out HJ.out (by omega) hj2 hij
               have HB : Hid (Go.Sort.partLoop ltInt a (i + 1) (j - 1) (Go.Sort.swp d1 i j) = R) := hid (by rw [← HR.out, part_go HI.out HJ.out hij])
               have hiN : (i : Int) < (n : Int) := by omega
               have hne3 : ¬ i = j := by omega
               have hne4 : ¬ j = i := by omega
               obtain ⟨c1, z1⟩ := FQ2.out.cell (j := i) (by omega)
               obtain ⟨c2, z2⟩ := FQ2.out.cell (j := j) (by omega)
               go_wp2_with fail
               go_region
               have F9 := hid (FQ2.out.swp' (i := i) (j := j) (by omega) (by omega))
               have O9 := hid (OQ2.out.swp' i j (.int .u32 (ft d1 j)) (.int .u32 (ft d1 i)))
               clear c1 z1 c2 z2 HI HJ HR
               have hj1I : (j : Int) - 1 = ((j - 1 : Nat) : Int) := by omega
               go_wp2
               clear hijd
               go_loopw [10, 11] (fun v10 v11 wx => ∃ (i j : Nat) (d' : Array Int), a + 1 ≤ i ∧ i ≤ j + 1 ∧ j ≤ b1 ∧ v10 = .int .i64 i ∧ v11 = .int .i64 j ∧ Hid (Go.Sort.partLoop ltInt a i j d' = R) ∧ Hid (Fa wx g n d') ∧ Hid (Ou (fun k => k = g) w wx)) (fun i j _ => (intOf j + 2 - intOf i).toNat)
               case atStart => exact ⟨i + 1, j - 1, _, by omega, by omega, by omega, by first | rfl | go_num, by first | rfl | go_num, HB, F9, O9⟩
               case round =>
                 clear F9 O9 HB FQ2 OQ2 hijn UX DX FQ OQ hT hT2 hj1I hjn hiN
                 obtain ⟨i4, j4, d4, hi4, hij4, hj4, rfl, rfl, P4, F4, O4⟩ := hrel
                 obtain ⟨I, HI⟩ : ∃ I, Hid (upF d4 a j4 i4 = I) := ⟨_, hid rfl⟩
                 obtain ⟨J, HJ⟩ : ∃ J, Hid (dnF d4 a I j4 = J) := ⟨_, hid rfl⟩
                 obtain ⟨w4, hw4⟩ : ∃ w4, w4 = wr := ⟨_, rfl⟩
                 subst hw4
                 go_wp2
                 go_loopw [10] (fun v10 wx => ∃ i : Nat, a + 1 ≤ i ∧ i ≤ j4 + 1 ∧ v10 = .int .i64 i ∧ Hid (upF d4 a j4 i = I) ∧ Hid (Fa wx g n d4) ∧ Hid (Ou (fun k => k = g) w wx)) (fun i _ => (42 - intOf i).toNat)
                 case atStart => exact ⟨i4, by omega, by omega, by first | rfl | go_num, HI, F4, O4⟩
                 case round =>
                   obtain ⟨i, hi1, hi2, rfl, UX, FX, OX⟩ := hrel
                   have FZ : Hid (∀ k, Fa (wr.drewN k) g n d4) := hid (fun k => FX.out.drewN k)
                   have OZ : Hid (∀ k, Ou (fun k => k = g) w (wr.drewN k)) := hid (fun k => OX.out.drewN k)
                   obtain ⟨T, HT⟩ : ∃ T : Bool, Hid (T = decide (i ≤ j4 ∧ ft d4 i < ft d4 a)) := ⟨_, hid rfl⟩
                   go_upto_region 13 with fail
                   go_cut [112] from 99 to 114 (fun s wx => s = .bool T ∧ ∃ wy, wy = wx ∧ Hid (Fa wy g n d4) ∧ Hid (Ou (fun k => k = g) w wy))
                   case first =>
                     by_cases hle : i ≤ j4
                     · have hleI : (i : Int) ≤ (j4 : Int) := by omega
                       have hiN : (i : Int) < (n : Int) := by omega
                       obtain ⟨c1, z1⟩ := FX.out.cell (j := i) (by omega)
                       obtain ⟨c2, z2⟩ := FX.out.cell (j := a) (by omega)
                       by_cases hls : ft d4 i < ft d4 a
                       · have hld : decide (ft d4 i < ft d4 a) = true := decide_eq_true hls
                         go_quiet ((go_at_call 126; exact Calls.quiet_of_same (lessF_c _ _ _)))
                         go_wp2
                         go_meet
                         exact ⟨by rw [HT.out, decide_eq_true (And.intro hle hls)], _, rfl, hid (FZ.out _), hid (OZ.out _)⟩
                       · have hld : decide (ft d4 i < ft d4 a) = false := decide_eq_false hls
                         go_quiet ((go_at_call 126; exact Calls.quiet_of_same (lessF_c _ _ _)))
                         go_wp2
                         go_meet
                         exact ⟨by rw [HT.out, decide_eq_false (fun hh => absurd hh.2 (by omega))], _, rfl, hid (FZ.out _), hid (OZ.out _)⟩
                     · have hled : decide ((i : Int) ≤ (j4 : Int)) = false := decide_eq_false (by omega)
                       go_quiet (fail)
                       go_wp2
                       go_meet
                       exact ⟨by rw [HT.out, decide_eq_false (fun hh => absurd hh.1 (by omega))], _, rfl, hid (FZ.out _), hid (OZ.out _)⟩
                   case rest =>
                     obtain ⟨rfl, wq, hwq, FQ, OQ⟩ := hcut
                     subst hwq
                     clear FX OX FZ OZ
                     cases T with
                     | true =>
                       have hT : i ≤ j4 ∧ ft d4 i < ft d4 a := of_decide_eq_true HT.out.symm
                       have U9 : Hid (upF d4 a j4 (i + 1) = I) := hid (by rw [← up_t hT.1 hT.2]; exact UX.out)
                       go_wp2
                       go_roundw
                       case rel => exact ⟨i + 1, by omega, by omega, by first | rfl | go_num, U9, FQ, OQ⟩
                       case measure => simp [intOf] <;> omega
                     | false =>
                       have hT : ¬ (i ≤ j4 ∧ ft d4 i < ft d4 a) := of_decide_eq_false HT.out.symm
                       clear HT
                       obtain rfl : i = I := by have e := UX.out; rw [up_f hT] at e; exact e
                       go_wp2
                       go_loopw [11] (fun v11 wx => ∃ j : Nat, i ≤ j + 1 ∧ j ≤ j4 ∧ v11 = .int .i64 j ∧ Hid (dnF d4 a i j = J) ∧ Hid (Fa wx g n d4) ∧ Hid (Ou (fun k => k = g) w wx)) (fun j _ => (intOf j).toNat)
                       case atStart => exact ⟨j4, by omega, by omega, by first | rfl | go_num, HJ, FQ, OQ⟩
                       case round =>
                         obtain ⟨j, hijn, hj2, rfl, DX, FX, OX⟩ := hrel
                         have FZ : Hid (∀ k, Fa (wr.drewN k) g n d4) := hid (fun k => FX.out.drewN k)
                         have OZ : Hid (∀ k, Ou (fun k => k = g) w (wr.drewN k)) := hid (fun k => OX.out.drewN k)
                         obtain ⟨T, HT2⟩ : ∃ T : Bool, Hid (T = decide (i ≤ j ∧ ft d4 a ≤ ft d4 j)) := ⟨_, hid rfl⟩
                         go_upto_region 15 with fail
                         go_cut [129] from 115 to 131 (fun s wx => s = .bool T ∧ ∃ wy, wy = wx ∧ Hid (Fa wy g n d4) ∧ Hid (Ou (fun k => k = g) w wy))
                         case first =>
                           by_cases hle : i ≤ j
                           · have hleI : (i : Int) ≤ (j : Int) := by omega
                             have hjN : (j : Int) < (n : Int) := by omega
                             obtain ⟨c1, z1⟩ := FX.out.cell (j := j) (by omega)
                             obtain ⟨c2, z2⟩ := FX.out.cell (j := a) (by omega)
                             by_cases hls : ft d4 j < ft d4 a
                             · have hld : decide (ft d4 j < ft d4 a) = true := decide_eq_true hls
                               go_quiet ((go_at_call 126; exact Calls.quiet_of_same (lessF_c _ _ _)))
                               go_wp2
                               go_meet
                               exact ⟨by rw [HT2.out, decide_eq_false (fun hh => absurd hh.2 (by omega))], _, rfl, hid (FZ.out _), hid (OZ.out _)⟩
                             · have hld : decide (ft d4 j < ft d4 a) = false := decide_eq_false hls
                               go_quiet ((go_at_call 126; exact Calls.quiet_of_same (lessF_c _ _ _)))
                               go_wp2
                               go_meet
                               exact ⟨by rw [HT2.out, decide_eq_true (And.intro hle (by omega))], _, rfl, hid (FZ.out _), hid (OZ.out _)⟩
                           · have hled : decide ((i : Int) ≤ (j : Int)) = false := decide_eq_false (by omega)
                             go_quiet (fail)
                             go_wp2
                             go_meet
                             exact ⟨by rw [HT2.out, decide_eq_false (fun hh => absurd hh.1 (by omega))], _, rfl, hid (FZ.out _), hid (OZ.out _)⟩
                         case rest =>
                           obtain ⟨rfl, wq2, hwq2, FQ2, OQ2⟩ := hcut
                           subst hwq2
                           clear FX OX FZ OZ
                           cases T with
                           | true =>
                             have hT2 : i ≤ j ∧ ft d4 a ≤ ft d4 j := of_decide_eq_true HT2.out.symm
                             have hj1I : (j : Int) - 1 = ((j - 1 : Nat) : Int) := by omega
                             have D9 : Hid (dnF d4 a i (j - 1) = J) := hid (by rw [← dn_t (by omega) hT2.1 (by omega)]; exact DX.out)
                             go_wp2
                             go_roundw
                             case rel => exact ⟨j - 1, by omega, by omega, by first | rfl | go_num, D9, FQ2, OQ2⟩
                             case measure => simp [intOf] <;> omega
                           | false =>
                             have hT2 : ¬ (i ≤ j ∧ ft d4 a ≤ ft d4 j) := of_decide_eq_false HT2.out.symm
                             clear HT2
                             obtain rfl : j = J := by have e := DX.out; rw [dn_f hT2] at e; exact e
                             have hjn : (j : Int) < (n : Int) := by omega
                             by_cases hij : j < i
                             · have hijI : (j : Int) < (i : Int) := by omega
                               have HB : Hid (R = (j, d4)) := hid (by rw [← P4.out, part_brk HI.out HJ.out hij])
                               obtain rfl := HB.out
                               by_cases hja : j = a
                               · subst hja
                                 obtain ⟨c1, z1⟩ := FQ2.out.cell (j := j) (by omega)
                                 go_wp2_with fail
                                 go_region
                                 have F9 := hid (FQ2.out.swp' (i := j) (j := j) (by omega) (by omega))
                                 have O9 := hid (OQ2.out.swp' j j (.int .u32 (ft d4 j)) (.int .u32 (ft d4 j)))
                                 clear c1 z1
                                 go_wp2
                                 go_ret2
                                 exact ⟨⟨false, rfl⟩, F9.out, O9.out⟩
                               · have hja' : ¬ a = j := fun e => hja e.symm
                                 obtain ⟨c1, z1⟩ := FQ2.out.cell (j := j) (by omega)
                                 obtain ⟨c2, z2⟩ := FQ2.out.cell (j := a) (by omega)
                                 go_wp2_with fail
                                 go_region
                                 have F9 := hid (FQ2.out.swp' (i := j) (j := a) (by omega) (by omega))
                                 have O9 := hid (OQ2.out.swp' j a (.int .u32 (ft d4 a)) (.int .u32 (ft d4 j)))
                                 clear c1 z1 c2 z2
                                 go_wp2
                                 go_ret2
                                 exact ⟨⟨false, rfl⟩, F9.out, O9.out⟩
                             · have hijd : decide ((j : Int) < (i : Int)) = false := decide_eq_false (by omega)
                               have hlt : i < j := part_ne HI.out HJ.out (by omega) hj2 hij
                               have HB : Hid (Go.Sort.partLoop ltInt a (i + 1) (j - 1) (Go.Sort.swp d4 i j) = R) := hid (by rw [← P4.out, part_go HI.out HJ.out hij])
                               have hiN : (i : Int) < (n : Int) := by omega
                               have hne3 : ¬ i = j := by omega
                               have hne4 : ¬ j = i := by omega
                               have hgi : i4 ≤ i := by rw [← HI.out]; exact Go.Sort.scanUp_ge _ _ _ _
                               obtain ⟨c1, z1⟩ := FQ2.out.cell (j := i) (by omega)
                               obtain ⟨c2, z2⟩ := FQ2.out.cell (j := j) (by omega)
                               go_wp2_with fail
                               go_region
                               have F9 := hid (FQ2.out.swp' (i := i) (j := j) (by omega) (by omega))
                               have O9 := hid (OQ2.out.swp' i j (.int .u32 (ft d4 j)) (.int .u32 (ft d4 i)))
                               clear c1 z1 c2 z2 HI HJ
                               go_wp2
                               go_roundw
                               case rel => exact ⟨i + 1, j - 1, _, by omega, by omega, by omega, by first | rfl | go_num, by first | rfl | go_num, HB, F9, O9⟩
                               case measure => simp [intOf] <;> omega
end Go.Proofs.YtgbdplammniidaaGreatDoor
