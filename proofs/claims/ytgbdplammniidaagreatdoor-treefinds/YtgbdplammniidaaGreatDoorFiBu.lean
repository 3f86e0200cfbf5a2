/-
  pdqsortOrdered, Sort: a row of at most forty fids, all unlike, is sorted.
-/
import Derived.Test.YtgbdplammniidaaGreatDoorFiBq
import Derived.Test.YtgbdplammniidaaGreatDoorFiBr
import Derived.Test.YtgbdplammniidaaGreatDoorFiBs
import Derived.Test.YtgbdplammniidaaGreatDoorFiBt
import Derived.Sort.LotD3
import Derived.Deep.CutRange
namespace Go.Proofs.YtgbdplammniidaaGreatDoor
open Go.RowKit Go.ChangeShapes Go.WideShapes Go.ChangeAt
set_option linter.unusedVariables false
set_option linter.unusedSimpArgs false
set_option maxRecDepth 100000
open Go.Sort (ltInt)
open Go.Sort (PermIn SortedIn)
def InjA (d : Array Int) : Prop := d.toList.Nodup
theorem InjA.perm {d d' : Array Int} {a b : Nat} (h : InjA d) (hb : b ≤ d.size) (hp : PermIn a b d d') : InjA d' := by
 have h1 := Go.Sort.permIn_mono d d' a b 0 d.size (by omega) (by omega) (Nat.le_refl _) hp
 have h2 := h1.2.2
 have e1 : (d'.extract 0 d.size).toList = d'.toList := by rw [← h1.1]; simp
 have e2 : (d.extract 0 d.size).toList = d.toList := by simp
 rw [e1, e2] at h2
 exact h2.nodup_iff.2 h
theorem InjA.eq {d : Array Int} (h : InjA d) {i j : Nat} (hi : i < d.size) (hj : j < d.size) (e : ft d i = ft d j) : i = j := by
 unfold InjA at h
 have h1 : d[i]! = d[j]! := e
 rw [getElem!_pos d i hi, getElem!_pos d j hj] at h1
 have h2 : d.toList[i]'(by simpa using hi) = d.toList[j]'(by simpa using hj) := by rw [Array.getElem_toList, Array.getElem_toList]; exact h1
 exact (List.getElem_inj h).1 h2
def BlD (a b : Nat) (d : Array Int) : Prop := Go.Sort.Below ltInt a b d
theorem BlD.perm {d d' : Array Int} {a b : Nat} (h : BlD a b d) (hb : b ≤ d.size) (hp : PermIn a b d d') : BlD a b d' := Go.Sort.Below.perm h hb hp
theorem BlD.lt {d : Array Int} {a b p : Nat} (h : BlD a b d) (hi : InjA d) (h0 : 0 < a) (h1 : a ≤ p) (h2 : p < b) (hb : b ≤ d.size) : ft d (a - 1) < ft d p := by
 rcases h with h | h
 · omega
 · have h3 : ¬ ft d p < ft d (a - 1) := of_decide_eq_false (h p h1 h2)
   have h4 : ¬ ft d (a - 1) = ft d p := fun e => by have := hi.eq (by omega) (by omega) e; omega
   omega
def ClD (a b : Nat) (d : Array Int) (a' b' : Nat) (d' : Array Int) : Prop := ∀ R, PermIn a' b' d' R → SortedIn ltInt a' b' R → PermIn a b d R ∧ SortedIn ltInt a b R
theorem ClD.perm {a b a' b' : Nat} {d d' d1 : Array Int} (h : ClD a b d a' b' d') (hp : PermIn a' b' d' d1) : ClD a b d a' b' d1 := fun R h1 h2 => h R (Go.Sort.permIn_trans _ _ _ _ _ hp h1) h2
def PdP (g n a b : Nat) (d : Array Int) (w : World) (e : Ending) (w' : World) : Prop := e = .returned (.tuple #[]) ∧ (∃ R, PermIn a b d R ∧ SortedIn ltInt a b R ∧ Fa w' g n R) ∧ Ou (fun k => k = g) w w'
theorem ClD.fin {a b a' b' g n : Nat} {d d' R : Array Int} {w w' : World} (h : ClD a b d a' b' d') (h1 : PermIn a' b' d' R ∧ SortedIn ltInt a' b' R) (hF : Fa w' g n R) (hO : Ou (fun k => k = g) w w') : PdP g n a b d w (.returned (.tuple #[])) w' :=
 ⟨rfl, ⟨R, (h R h1.1 h1.2).1, (h R h1.1 h1.2).2, hF⟩, hO⟩
set_option maxHeartbeats 8000000 in
theorem pdqA_c (N : Nat) : ∀ (g n cap a b lim : Nat) (d : Array Int) (w : World), b - a < N → Fa w g n d → InjA d → BlD a b d → n ≤ 40 → n ≤ cap → a ≤ b → b ≤ n → lim ≤ 6 →
   Calls Tryz.prog 106 #[.slice (some ⟨g, 0, none⟩) n cap, .int .i64 a, .int .i64 b, .int .i64 lim] w (PdP g n a b d w) := by
 induction N with
 | zero => intro g n cap a b lim d w h; omega
 | succ N ih =>
   intro g n cap a b lim d w hN h hij hbl hn hcap hab hb hlim
   have IH := hid ih
   have H0 := hid h
   have J0 := hid hij
   have B0 := hid hbl
   clear ih h hij hbl
   go_enter Tryz.func106, Tryz.ntmps106
   go_wp2
   go_loopw [1, 2, 3, 8, 9] (fun va vb vl v8 v9 wx => ∃ (a' b' l' : Nat) (wb wp : Bool) (d' : Array Int), a ≤ a' ∧ a' ≤ b' ∧ b' ≤ b ∧ l' ≤ 6 ∧ va = .int .i64 a' ∧ vb = .int .i64 b' ∧ vl = .int .i64 l' ∧ v8 = .bool wb ∧ v9 = .bool wp ∧ Hid (Fa wx g n d') ∧ Hid (InjA d') ∧ Hid (BlD a' b' d') ∧ Hid (ClD a b d a' b' d') ∧ Hid (Ou (fun k => k = g) w wx)) (fun va vb _ _ _ _ => (intOf vb - intOf va).toNat)
   case atStart => exact ⟨a, b, lim, true, true, d, by omega, by omega, by omega, by omega, rfl, rfl, rfl, rfl, rfl, H0, J0, B0, hid (fun R h1 h2 => ⟨h1, h2⟩), hid (Ou.refl _ _)⟩
   case round =>
     clear H0 J0 B0 hab hlim
     obtain ⟨a', b', l', wb, wp, d', ha1, hab, hb1, hl, rfl, rfl, rfl, rfl, rfl, FX, JX, BX, CX, OX⟩ := hrel
     obtain ⟨L, HL⟩ : ∃ L, Hid (L = b' - a') := ⟨_, hid rfl⟩
     have hLI : (b' : Int) - (a' : Int) = (L : Int) := by have := HL.out; omega
     by_cases h12 : L ≤ 12
     · have h12I : (L : Int) ≤ 12 := by omega
       have IC := hid (insA_c g n cap a' b' d' wr FX.out hn hcap hab (by omega))
       have IS := hid (Go.Sort.insertionSort_holds Go.Sort.swo_ltInt d' a' b' hab (by have := FX.out.size; omega))
       go_wp2_with (go_at_call 120; refine IC.out.mono ?_; rintro _ w1 ⟨rfl, F1', O1'⟩; have F1 := hid F1'; have O1 := hid O1'; clear F1' O1')
       exact bodyPost_ret (v := .tuple #[]) (by simp [results, Tryz.results106, go_sem]) rfl (CX.out.fin IS.out F1.out (OX.out.trans O1.out))
     · have h12d : decide ((L : Int) ≤ 12) = false := decide_eq_false (by omega)
       by_cases hl0 : l' = 0
       · subst hl0
         have IC := hid (heapA_c g n cap a' b' d' wr FX.out hn hcap (by have := HL.out; omega) (by omega))
         have IS := hid (Go.Sort.heapSort_holds Go.Sort.swo_ltInt d' a' b' hab (by have := FX.out.size; omega))
         go_wp2_with (go_at_call 121; refine IC.out.mono ?_; rintro _ w1 ⟨rfl, F1', O1'⟩; have F1 := hid F1'; have O1 := hid O1'; clear F1' O1')
         exact bodyPost_ret (v := .tuple #[]) (by simp [results, Tryz.results106, go_sem]) rfl (CX.out.fin IS.out F1.out (OX.out.trans O1.out))
       · have hl0I : ((l' : Int) == 0) = false := by simp; omega
         have hl0N : ¬ (l' : Int) = 0 := by omega
         have hab12 : a' + 12 < b' := by have := HL.out; omega
         obtain ⟨w5, hw5⟩ : ∃ w5, w5 = wr := ⟨_, rfl⟩
         subst hw5
         go_upto_if 35 with fail
         go_cut [3] from 19 to 133 (fun s3 wx => ∃ (l1 : Nat) (d1 : Array Int), s3 = .int .i64 l1 ∧ l1 ≤ 6 ∧ ∃ wy, wy = wx ∧ Hid (PermIn a' b' d' d1) ∧ Hid (Fa wy g n d1) ∧ Hid (Ou (fun k => k = g) w wy))
         case first =>
           cases wb with
           | true =>
             go_wp2
             go_meet
             exact ⟨l', d', rfl, hl, _, rfl, hid (Go.Sort.permIn_refl _ _ _), FX, OX⟩
           | false =>
             have IC := hid (breakA_c g n cap a' b' d' w5 FX.out hn hcap hab12 (by omega))
             have hl1 : (l' : Int) - 1 = ((l' - 1 : Nat) : Int) := by omega
             go_wp2_with (go_at_call 122; refine IC.out.mono ?_; rintro _ w1 ⟨rfl, ⟨d1, P1', F1'⟩, O1'⟩; have P1 := hid P1'; have F1 := hid F1'; have O1 := hid O1'; clear P1' F1' O1')
             go_meet
             exact ⟨l' - 1, d1, by first | rfl | go_num, by omega, _, rfl, P1, F1, hid (OX.out.trans O1.out)⟩
         case rest =>
           obtain ⟨l1, d1, rfl, hl1, w6, hw6, P1, F1, O1⟩ := hcut
           subst hw6
           have sz' := FX.out.size
           have J1 := hid (JX.out.perm (by omega) P1.out)
           have B1 := hid (BX.out.perm (by omega) P1.out)
           have C1 := hid (CX.out.perm P1.out)
           clear FX JX BX CX OX P1 sz' hl0I hl0N
           have IC := hid (pivotA_c g n cap a' b' d1 w6 F1.out hn hcap hab12 (by omega))
           go_upto_if 50 with (go_at_call 123; refine IC.out.mono ?_; rintro _ w1 ⟨p, hh, rfl, hp1, hp2, hh1, O1'⟩; have O2 := hid O1'; clear O1' IC)
           have F2 := hid (F1.out.out O2.out id)
           have O3 := hid (O1.out.trans (O2.out.mono (fun k e => e.elim)))
           clear F1 O1 O2
           have hh2 : ((hh : Int) == 2) = false := by simp; omega
           have hh2N : ¬ (hh : Int) = 2 := by omega
           obtain ⟨Cb, HC⟩ : ∃ Cb : Bool, Hid (Cb = (wb && wp && decide (hh = 1))) := ⟨_, hid rfl⟩
           go_upto_region 15 with fail
           go_cut [68] from 19 to 133 (fun s wx => s = .bool Cb ∧ wx = w1)
           case first =>
             obtain rfl | rfl : hh = 0 ∨ hh = 1 := by omega
             all_goals
               cases wb <;> cases wp
               all_goals
                 go_wp2
                 go_meet
                 exact ⟨by rw [HC.out]; rfl, rfl⟩
           case rest =>
            obtain ⟨rfl, rfl⟩ := hcut
            clear HC
            go_upto_if 68 with fail
            go_cut [] from 19 to 133 (fun wx => ∃ wy, wy = wx ∧ Hid (Fa wy g n d1) ∧ Hid (Ou (fun k => k = g) w wy))
            case first =>
             have IC := hid (partialA_c g n cap a' b' d1 wc F2.out hn hcap (by omega) (by omega))
             have IS := hid (Go.Sort.partialInsertionSort_holds Go.Sort.swo_ltInt d1 a' b' (by omega) (by have := F2.out.size; omega) B1.out)
             cases Cb with
             | false =>
               go_wp2
               go_meet
               exact ⟨_, rfl, F2, O3⟩
             | true =>
               go_wp2_with (go_at_call 125; refine IC.out.mono ?_; rintro _ w7 ⟨⟨f, rfl, hf⟩, F1', O1'⟩; have HF := hid hf; have F4 := hid F1'; have O4 := hid O1'; clear hf F1' O1'; cases f)
               · go_meet
                 exact ⟨_, rfl, F4, hid (O3.out.trans O4.out)⟩
               · have e := HF.out (by simp)
                 have IS2 := IS.out
                 rw [e] at IS2
                 exact bodyPost_ret (v := .tuple #[]) (by simp [results, Tryz.results106, go_sem]) rfl (C1.out.fin ⟨IS2.1, IS2.2 rfl⟩ F4.out (O3.out.trans O4.out))
            case rest =>
             obtain ⟨w8, hw8, F8, O8⟩ := hcut
             subst hw8
             clear F2 O3
             have FZ : Hid (∀ k, Fa (w8.drewN k) g n d1) := hid (fun k => F8.out.drewN k)
             have OZ : Hid (∀ k, Ou (fun k => k = g) w (w8.drewN k)) := hid (fun k => O8.out.drewN k)
             go_upto_region 17 with fail
             go_cut [87] from 19 to 133 (fun s wx => s = .bool false ∧ ∃ wy, wy = wx ∧ Hid (Fa wy g n d1) ∧ Hid (Ou (fun k => k = g) w wy))
             case first =>
               by_cases ha0 : a' = 0
               · subst ha0
                 have hd0 : decide ((0 : Int) < ((0 : Nat) : Int)) = false := rfl
                 go_quiet (fail)
                 go_wp2
                 go_meet
                 exact ⟨rfl, _, rfl, hid (FZ.out _), hid (OZ.out _)⟩
               · have ha0N : 0 < a' := by omega
                 have ha0I : (0 : Int) < (a' : Int) := by omega
                 have ha0d : decide ((0 : Int) < (a' : Int)) = true := decide_eq_true ha0I
                 have hpn : (p : Int) < (n : Int) := by omega
                 obtain ⟨a1, Ha1⟩ : ∃ a1, Hid (a1 = a' - 1) := ⟨_, hid rfl⟩
                 have ha1I : (a' : Int) - 1 = (a1 : Int) := by have := HL.out; have := Ha1.out; omega
                 have ha1n : (a1 : Int) < (n : Int) := by have := HL.out; have := Ha1.out; omega
                 obtain ⟨c1, z1⟩ := F8.out.cell (j := a1) (by have := HL.out; have := Ha1.out; omega)
                 obtain ⟨c2, z2⟩ := F8.out.cell (j := p) (by omega)
                 have hlt : ft d1 a1 < ft d1 p := by rw [Ha1.out]; exact B1.out.lt J1.out (by omega) (by omega) hp2 (by have := F8.out.size; omega)
                 have hld : decide (ft d1 a1 < ft d1 p) = true := decide_eq_true hlt
                 go_quiet ((go_at_call 126; exact Calls.quiet_of_same (lessF_c _ _ _)))
                 go_wp2
                 go_meet
                 exact ⟨rfl, _, rfl, hid (FZ.out _), hid (OZ.out _)⟩
             case rest =>
               obtain ⟨rfl, w9, hw9, F9, O9⟩ := hcut
               subst hw9
               clear F8 O8 FZ OZ
               have PC := hid (partA_c g n cap a' b' p d1 w9 F9.out hn hcap hp1 hp2 (by omega))
               obtain ⟨mid, ap, d2, HP⟩ : ∃ mid ap d2, Hid (Go.Sort.partition ltInt d1 a' b' p = (mid, ap, d2)) := ⟨_, _, _, hid rfl⟩
               rw [HP.out] at PC
               have RP := hid (Go.Sort.round_part Go.Sort.swo_ltInt (Go.Sort.partition_holds ltInt) (by omega) hp2 (by have := F9.out.size; omega) B1.out HP.out)
               have PH := hid (Go.Sort.partition_holds ltInt Go.Sort.swo_ltInt d1 a' b' p (by omega) hp2 (by have := F9.out.size; omega))
               rw [HP.out] at PH
               have J2 := hid (J1.out.perm (by have := F9.out.size; omega) PH.out.2.2.1)
               have hm1 : a' ≤ mid := RP.out.1
               have hm2 : mid < b' := RP.out.2.1
               clear PH HP J1 B1
               obtain ⟨lf, Hlf⟩ : ∃ lf, Hid (lf = mid - a') := ⟨_, hid rfl⟩
               obtain ⟨rg, Hrg⟩ : ∃ rg, Hid (rg = b' - mid) := ⟨_, hid rfl⟩
               have hlfI : (mid : Int) - (a' : Int) = (lf : Int) := by have := HL.out; have := Hlf.out; have := Hrg.out; omega
               have hrgI : (b' : Int) - (mid : Int) = (rg : Int) := by have := HL.out; have := Hlf.out; have := Hrg.out; omega
               obtain ⟨t8, Ht8⟩ : ∃ t8, Hid (t8 = L / 8) := ⟨_, hid rfl⟩
               have ht8I : (L : Int) / 8 = (t8 : Int) := by have := HL.out; have := Hlf.out; have := Hrg.out; have := Ht8.out; omega
               have ht8T : Int.tdiv (L : Int) 8 = (t8 : Int) := by rw [Int.tdiv_eq_ediv_of_nonneg (by have := HL.out; have := Hlf.out; have := Hrg.out; have := Ht8.out; omega)]; exact ht8I
               obtain ⟨m1, Hm1⟩ : ∃ m1, Hid (m1 = mid + 1) := ⟨_, hid rfl⟩
               have hm1I : (mid : Int) + 1 = (m1 : Int) := by have := HL.out; have := Hlf.out; have := Hrg.out; have := Ht8.out; have := Hm1.out; omega
               go_upto_if 113 with (go_at_call 128; refine PC.out.mono ?_; rintro _ w10 ⟨⟨fp, rfl⟩, F1', O1'⟩; have F10 := hid F1'; have O10 := hid (O9.out.trans O1'); clear F1' O1' PC)
               clear F9 O9
               by_cases hlr : lf < rg
               · have hlrI : (lf : Int) < (rg : Int) := by omega
                 have RC := hid (IH.out g n cap a' mid l1 d2 w10 (by have := HL.out; have := Hlf.out; have := Hrg.out; have := Ht8.out; have := Hm1.out; omega) F10.out J2.out RP.out.2.2.2.1 hn hcap (by omega) (by omega) hl1)
                 go_wp2_with (go_at_call 106; refine RC.out.mono ?_; rintro _ w11 ⟨rfl, ⟨d3, P3', S3', F3'⟩, O3'⟩; have P3 := hid P3'; have S3 := hid S3'; have F3 := hid F3'; have O3 := hid (O10.out.trans O3'); clear P3' S3' F3' O3' RC)
                 have R3 := hid (RP.out.2.2.2.2.2.1 d3 P3.out S3.out)
                 have J3 := hid (J2.out.perm (by have := F10.out.size; omega) P3.out)
                 have B3 : Hid (BlD m1 b' d3) := hid (by rw [Hm1.out]; exact R3.out.1)
                 have C3 : Hid (ClD a b d m1 b' d3) := hid (by rw [Hm1.out]; exact fun R h1 h2 => C1.out R (R3.out.2 R h1 h2).1 (R3.out.2 R h1 h2).2)
                 go_roundw
                 case rel => exact ⟨m1, b', l1, _, fp, d3, by have := HL.out; have := Hlf.out; have := Hrg.out; have := Ht8.out; have := Hm1.out; omega, by have := HL.out; have := Hlf.out; have := Hrg.out; have := Ht8.out; have := Hm1.out; omega, by omega, hl1, rfl, rfl, rfl, rfl, rfl, F3, J3, B3, C3, O3⟩
                 case measure => simp [intOf]; exact (by have := HL.out; have := Hlf.out; have := Hrg.out; have := Ht8.out; have := Hm1.out; omega)
               · have hlrd : decide ((lf : Int) < (rg : Int)) = false := decide_eq_false (by omega)
                 have RC := hid (IH.out g n cap m1 b' l1 d2 w10 (by have := HL.out; have := Hlf.out; have := Hrg.out; have := Ht8.out; have := Hm1.out; omega) F10.out J2.out (by rw [Hm1.out]; exact RP.out.2.2.2.2.1) hn hcap (by have := HL.out; have := Hlf.out; have := Hrg.out; have := Ht8.out; have := Hm1.out; omega) (by omega) hl1)
                 go_wp2_with (go_at_call 106; refine RC.out.mono ?_; rintro _ w11 ⟨rfl, ⟨d3, P3', S3', F3'⟩, O3'⟩; have P3 := hid P3'; have S3 := hid S3'; have F3 := hid F3'; have O3 := hid (O10.out.trans O3'); clear P3' S3' F3' O3' RC)
                 have R3 := hid (RP.out.2.2.2.2.2.2 d3 (by rw [← Hm1.out]; exact P3.out) (by rw [← Hm1.out]; exact S3.out))
                 have J3 := hid (J2.out.perm (by have := F10.out.size; omega) P3.out)
                 have C3 : Hid (ClD a b d a' mid d3) := hid (fun R h1 h2 => C1.out R (R3.out.2 R h1 h2).1 (R3.out.2 R h1 h2).2)
                 go_roundw
                 case rel => exact ⟨a', mid, l1, _, fp, d3, by omega, by omega, by omega, hl1, rfl, rfl, rfl, rfl, rfl, F3, J3, hid R3.out.1, C3, O3⟩
                 case measure => simp [intOf]; exact (by have := HL.out; have := Hlf.out; have := Hrg.out; have := Ht8.out; have := Hm1.out; omega)
end Go.Proofs.YtgbdplammniidaaGreatDoor
