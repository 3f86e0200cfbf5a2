/-
  Which nodes are a tree: Right of the package tree.
-/
import Derived.Test.YtkokjkaclcjnjaaGreatDoorPtAj
namespace Go.Proofs.YtkokjkaclcjnjaaGreatDoor
open Go.RowKit Go.ChangeShapes Go.WideShapes Go.ChangeAt Go.Maps
set_option linter.unusedVariables false
set_option linter.unusedSimpArgs false
set_option maxRecDepth 100000
def N0 (l : List Nd) : Tab := ndF none l l.length
def RightP (l : List Nd) : Prop := l.length ≤ 40 ∧ fidsUp l = true ∧ isDirT (N0 l) 1 = true ∧ (∀ x ∈ l, aloneB x = true ∧ haveB (N0 l) x.ks = true) ∧ linksB l = true ∧ ¬ RingN (N0 l)
theorem nd_isSome (a : Option Addr) (l : List Nd) (m : Nat) (f : Int) : (ndF a l m f).isSome = (ndF none l m f).isSome := by
 unfold ndF
 cases plTo l m f <;> rfl
theorem dir_any (a : Option Addr) (l : List Nd) (m : Nat) (g : Int) : isDirT (ndF a l m) g = isDirT (ndF none l m) g := by
 unfold isDirT ndF
 cases plTo l m g <;> rfl
theorem edge_any (a : Option Addr) (l : List Nd) (m : Nat) (f g : Int) : Edge (ndF a l m) f g ↔ Edge (ndF none l m) f g := by
 have key : ∀ a b : Option Addr, Edge (ndF a l m) f g → Edge (ndF b l m) f g := fun a b h => by
   obtain ⟨p, x, i, h1, h2, h3, h4⟩ := h
   rw [dir_any] at h4
   unfold ndF at h1
   cases hp : plTo l m f with
   | none => rw [hp] at h1; cases h1
   | some j =>
     rw [hp] at h1
     cases h1
     refine ⟨⟨(b.getD ⟨0, 0, none⟩).block, (b.getD ⟨0, 0, none⟩).off + j * 6, none⟩, l.getD j Nd.no, i, ?_, h2, h3, by rw [dir_any]; exact h4⟩
     unfold ndF
     rw [hp]; rfl
 exact ⟨key _ _, key _ _⟩
theorem ring_any (a : Option Addr) (l : List Nd) (m : Nat) : RingN (ndF a l m) ↔ RingN (ndF none l m) := by
 have e : ∀ G, IsPar (ndF a l m) G ↔ IsPar (ndF none l m) G := fun G => by
   unfold IsPar
   constructor
   · intro h f g; rw [h f g, edge_any]
   · intro h f g; rw [h f g, edge_any a]
 unfold RingN
 simp only [e]
theorem haveTo_any (a : Option Addr) (l : List Nd) (m : Nat) (ks : List Kd) : ∀ n, haveTo (ndF a l m) ks n = haveTo (ndF none l m) ks n
 | 0 => rfl
 | n + 1 => by simp only [haveTo, haveTo_any a l m ks n, nd_isSome a]
theorem haveB_any (a : Option Addr) (l : List Nd) (m : Nat) (ks : List Kd) : haveB (ndF a l m) ks = haveB (ndF none l m) ks := haveTo_any a l m ks _
theorem alone_few {x : Nd} (h : aloneB x = true) : x.ks.length ≤ 12 := by
 unfold aloneB at h
 cases q : (x.k == 1 || x.k == 3) with
 | true =>
   rw [q] at h
   simp only [cond_true, Bool.and_eq_true, decide_eq_true_eq] at h
   omega
 | false =>
   rw [q] at h
   cases q2 : (x.k == 2) with
   | true =>
     rw [q2] at h
     simp only [cond_false, cond_true, Bool.and_eq_true, decide_eq_true_eq] at h
     exact h.2.1
   | false => rw [q2] at h; cases h
theorem linksTo_all {P : List Int} {l : List Nd} : ∀ {m : Nat}, linksTo P l m = true → ∀ i, i < m → linkB P (l.getD i Nd.no) = true
 | 0, _, i, hi => by omega
 | m + 1, h, i, hi => by
   unfold linksTo at h
   rw [Bool.and_eq_true] at h
   by_cases e : i = m
   · subst e; exact h.2
   · exact linksTo_all h.1 i (by omega)
theorem kfs_mem {l : List Nd} {i j : Nat} {g : Int} (hi : i < l.length) (hj : j < (l.getD i Nd.no).ks.length) (hg : ((l.getD i Nd.no).ks.getD j Kd.no).fid = g) : g ∈ kfs l := by
 unfold kfs
 rw [List.mem_flatMap]
 refine ⟨_, getD_mem l Nd.no hi, ?_⟩
 rw [List.mem_map]
 exact ⟨_, getD_mem _ Kd.no hj, hg⟩
theorem kfs_two {l : List Nd} {i i' j j' : Nat} {g : Int} (hlt : i < i') (hi' : i' < l.length) (hj : j < (l.getD i Nd.no).ks.length) (hg : ((l.getD i Nd.no).ks.getD j Kd.no).fid = g) (hj' : j' < (l.getD i' Nd.no).ks.length) (hg' : ((l.getD i' Nd.no).ks.getD j' Kd.no).fid = g) : 2 ≤ (kfs l).count g := by
 have e0 : l = l.take (i' + 1) ++ l.drop (i' + 1) := (List.take_append_drop _ _).symm
 have e1 : kfs l = kfs (l.take (i' + 1)) ++ kfs (l.drop (i' + 1)) := by
   unfold kfs
   rw [← List.flatMap_append, ← e0]
 rw [e1, kfs_take hi', List.count_append, List.count_append]
 have h1 : 0 < (kfs (l.take i')).count g := by
   rw [List.count_pos_iff]
   have et : (l.take i').getD i Nd.no = l.getD i Nd.no := by simp [List.getD, List.getElem?_take, hlt]
   refine kfs_mem (l := l.take i') (i := i) (j := j) (by rw [List.length_take]; omega) (by rw [et]; exact hj) (by rw [et]; exact hg)
 have h2 : 0 < ((l.getD i' Nd.no).ks.map (·.fid)).count g := by
   rw [List.count_pos_iff, List.mem_map]
   exact ⟨_, getD_mem _ Kd.no hj', hg'⟩
 omega
theorem one_up {a : Option Addr} {l : List Nd} (hL : linksB l = true) (hH : ∀ x ∈ l, haveB (ndF a l l.length) x.ks = true) : OneUp (ndF a l l.length) := by
 intro f f' g h h'
 obtain ⟨p, x, j, h1, h2, h3, h4⟩ := h
 obtain ⟨p', x', j', h1', h2', h3', _⟩ := h'
 unfold ndF at h1 h1'
 cases hp : plTo l l.length f with
 | none => rw [hp] at h1; cases h1
 | some i =>
   cases hp' : plTo l l.length f' with
   | none => rw [hp'] at h1'; cases h1'
   | some i' =>
     rw [hp] at h1
     rw [hp'] at h1'
     cases h1
     cases h1'
     obtain ⟨li, ei⟩ := plTo_lt l _ hp
     obtain ⟨li', ei'⟩ := plTo_lt l _ hp'
     have hc : (kfs l).count g ≤ 1 := by
       unfold isDirT ndF at h4
       cases hg : plTo l l.length g with
       | none => rw [hg] at h4; cases h4
       | some k =>
         rw [hg] at h4
         simp only [Option.map_some] at h4
         obtain ⟨lk, ek⟩ := plTo_lt l _ hg
         have hb := linksTo_all hL k lk
         have hne : g ≠ 1 := by
           have := (haveTo_all (hH _ (getD_mem l Nd.no li)) j h2).1
           rw [h3] at this
           exact this
         unfold linkB at hb
         rw [ek, h4] at hb
         have hne2 : (g == 1) = false := beq_eq_false_iff_ne.2 hne
         rw [hne2] at hb
         simp only [Bool.false_or, Bool.true_and, Bool.and_eq_true, Bool.not_eq_true', Bool.or_eq_false_iff, decide_eq_false_iff_not] at hb
         omega
     rcases Nat.lt_trichotomy i i' with q | q | q
     · have := kfs_two q li' h2 h3 h2' h3'; omega
     · subst q; rw [← ei, ← ei']
     · have := kfs_two q li h2' h3' h2 h3; omega
theorem whole_6 {a : Option Addr} {l : List Nd} (hA : ∀ x ∈ l, aloneB x = true) (hH : ∀ x ∈ l, haveB (ndF a l l.length) x.ks = true) : Whole6 (ndF a l l.length) := by
 intro f p x h
 unfold ndF at h
 cases hp : plTo l l.length f with
 | none => rw [hp] at h; cases h
 | some i =>
   rw [hp] at h
   cases h
   obtain ⟨li, _⟩ := plTo_lt l _ hp
   have hm := getD_mem l Nd.no li
   exact ⟨alone_few (hA _ hm), fun j hj => (haveTo_all (hH _ hm) j hj).2⟩
def RtP (l : List Nd) (w : World) (e : Ending) (w' : World) : Prop := ∃ b, e = .returned (.bool b) ∧ (b = true ↔ RightP l) ∧ Below w.heap.size w w'
theorem RtP.no {l : List Nd} {w w' : World} (h : ¬ RightP l) (hb : Below w.heap.size w w') : RtP l w (.returned (.bool false)) w' := ⟨false, rfl, ⟨(fun e => by cases e), fun e => absurd e h⟩, hb⟩
set_option maxHeartbeats 4000000 in
theorem right_c (a : Option Addr) (cap : Nat) (l : List Nd) (w : World) (h : IsNs w a l) (hm : l.length ≤ 100000) :
   Calls Tryz.prog 13 #[.slice a l.length cap] w fun e w' => RtP l w e w' := by
 have H := hid h
 have FC := hid (fidsRise_c a cap l w h hm)
 have TC := hid (fun (h4 : l.length ≤ 40) => tableOf_c a cap l w h (by omega))
 have ht := ht_tab
 clear h
 by_cases q40 : 40 < l.length
 · have qI : (40 : Int) < l.length := by omega
   have F : Hid (RtP l w (.returned (.bool false)) w) := hid (RtP.no (fun h => by have := h.1; omega) (Below.refl _ _))
   go_enter Tryz.func13, Tryz.ntmps13
   go_wp2
   go_ret
   exact F.out
 · have qI : ¬ (40 : Int) < l.length := by omega
   have TC2 := hid (TC.out (by omega))
   clear TC
   cases qu : fidsUp l with
   | false =>
     rw [qu] at FC
     have F : Hid (RtP l w (.returned (.bool false)) w) := hid (RtP.no (fun h => by have := h.2.1; rw [qu] at this; cases this) (Below.refl _ _))
     clear qu
     go_enter Tryz.func13, Tryz.ntmps13
     go_wp2_with (go_at_call 25; refine FC.out.mono ?_; rintro _ w0 ⟨rfl, hw0⟩; have hw1 := hw0.symm; clear hw0; subst hw1)
     go_ret
     exact F.out
   | true =>
     rw [qu] at FC
     have HU := hid qu
     clear qu
     obtain ⟨N, hN⟩ : ∃ N, N = ndF a l l.length := ⟨_, rfl⟩
     rw [← hN] at TC2
     have HN := hid hN
     have hd1 := dir_any a l l.length 1
     rw [← hN] at hd1
     have HD1 := hid hd1
     have HHV : Hid (∀ ks, haveB N ks = haveB (N0 l) ks) := hid (fun ks => by rw [hN]; exact haveB_any a l l.length ks)
     have HRG : Hid (RingN N ↔ RingN (N0 l)) := hid (by rw [hN]; exact ring_any a l l.length)
     have HW6 : Hid ((∀ x ∈ l, aloneB x = true) → (∀ x ∈ l, haveB N x.ks = true) → Whole6 N) := hid (fun h1 h2 => by rw [hN] at h2 ⊢; exact whole_6 h1 h2)
     have HO6 : Hid (linksB l = true → (∀ x ∈ l, haveB N x.ks = true) → OneUp N) := hid (fun h1 h2 => by rw [hN] at h2 ⊢; exact one_up h1 h2)
     have HPL := hid (plN_le l l.length)
     clear hN hd1 HN
     cases qd : isDirT N 1 with
     | false =>
       have ND : Hid (¬ RightP l) := hid (fun h => by have := h.2.2.1; unfold N0 at this; rw [← HD1.out, qd] at this; cases this)
       unfold isDirT at qd
       cases q1 : N 1 with
       | none =>
         clear qd
         go_enter Tryz.func13, Tryz.ntmps13
         go_wp2_with (first
           | (go_at_call 26; refine TC2.out.mono ?_; rintro _ w1 ⟨rfl, hT, hb1⟩
              have LK := hT.1.look ht zeroPt (i := 1) (by omega) (by omega)
              unfold Tab.ptr at LK
              rw [q1, show ptE.enc ((Option.map (fun p : Addr × Nd => some p.1) none).getD none) = .pointer none from rfl] at LK
              have HB := hid hb1
              clear hT hb1)
           | (go_at_call 25; refine FC.out.mono ?_; rintro _ w0 ⟨rfl, hw0⟩; have hw1 := hw0.symm; clear hw0; subst hw1))
         go_ret
         exact RtP.no ND.out HB.out
       | some z =>
         obtain ⟨p, x⟩ := z
         rw [q1] at qd
         simp only at qd
         have qk : (x.k != 2) = true := by rw [bne, qd]; rfl
         have qk2 : ¬ x.k = 2 := by rwa [beq_eq_false_iff_ne] at qd
         go_enter Tryz.func13, Tryz.ntmps13
         go_wp2_with (first
           | (go_at_call 26; refine TC2.out.mono ?_; rintro _ w1 ⟨rfl, hT, hb1⟩
              have LK := hT.1.look ht zeroPt (i := 1) (by omega) (by omega)
              unfold Tab.ptr at LK
              rw [q1, show ptE.enc ((Option.map (fun p : Addr × Nd => some p.1) (some (p, x))).getD none) = .pointer (some p) from rfl] at LK
              obtain ⟨hps, hnc, _, _⟩ := hT.2 1 p x q1
              obtain ⟨pb, po, ps⟩ := p
              simp only at hps
              subst hps
              have c1 := hnc.all.2.1
              simp only at c1
              have HB := hid hb1
              clear hT hb1 hnc)
           | (go_at_call 25; refine FC.out.mono ?_; rintro _ w0 ⟨rfl, hw0⟩; have hw1 := hw0.symm; clear hw0; subst hw1))
         go_ret
         exact RtP.no ND.out HB.out
     | true =>
       have HDT : Hid (isDirT (N0 l) 1 = true) := hid (by unfold N0; rw [← HD1.out]; exact qd)
       clear HD1
       unfold isDirT at qd
       cases q1 : N 1 with
       | none => rw [q1] at qd; cases qd
       | some z =>
         obtain ⟨p, x⟩ := z
         rw [q1] at qd
         simp only at qd
         have qk : x.k = 2 := by simpa using qd
         clear qd
         obtain ⟨xf, xk, xm, xl, xda, xdc, xzs, xka, xkc, xks⟩ := x
         simp only at qk
         subst qk
         obtain ⟨n, hn⟩ : ∃ n, n = l.length := ⟨_, rfl⟩
         have HNL := hid hn
         rw [← hn] at FC TC2 q40 qI HPL
         go_enter Tryz.func13, Tryz.ntmps13
         rw [← hn]
         clear hn
         go_wp2_with (first
           | (go_at_call 26; refine TC2.out.mono ?_; rintro _ w1 ⟨rfl, hT, hb1⟩
              have LK := hT.1.look ht zeroPt (i := 1) (by omega) (by omega)
              unfold Tab.ptr at LK
              rw [q1, show ptE.enc ((Option.map (fun p : Addr × Nd => some p.1) (some (p, (⟨xf, 2, xm, xl, xda, xdc, xzs, xka, xkc, xks⟩ : Nd)))).getD none) = .pointer (some p) from rfl] at LK
              obtain ⟨hps, hnc, _, _⟩ := hT.2 1 p _ q1
              obtain ⟨pb, po, ps⟩ := p
              simp only at hps
              subst hps
              have c1 := hnc.all.2.1
              simp only at c1
              have HB := hid hb1
              have HT := hid hT
              clear hT hb1 hnc)
           | (go_at_call 25; refine FC.out.mono ?_; rintro _ w0 ⟨rfl, hw0⟩; have hw1 := hw0.symm; clear hw0; subst hw1))
         clear FC TC2 LK c1 q1
         go_loopg [29] n (fun gk i wr => ∃ m : Nat, m + gk = n ∧ i = .int .i64 m ∧ Hid (Below w1.heap.size w1 wr) ∧ Hid (∀ i, i < m → aloneB (l.getD i Nd.no) = true ∧ haveB N (l.getD i Nd.no).ks = true))
         case atStart => exact ⟨0, by omega, rfl, hid (Below.refl _ _), hid (fun i hi => by omega)⟩
         case round =>
           obtain ⟨m, hm2, rfl, HB2, HI⟩ := hrel
           have HBW := hid (HB.out.trans (HB2.out.mono HB.out.size))
           by_cases hlt : m < n
           · have hltI : (m : Int) < n := by omega
             have hln : m < l.length := by rw [← HNL.out]; exact hlt
             obtain ⟨b, off, rfl, _⟩ := H.out.2.2 (by omega)
             have hI := H.out.later HBW.out
             have hC := hI.at (i := m) hln
             have hO := hI.ok (i := m) hln
             have hmem := getD_mem l Nd.no hln
             have AC := hid (rightAlone_c b (off + m * 6) _ wr hC hO)
             cases qa : aloneB (l.getD m Nd.no) with
             | false =>
               rw [qa] at AC
               have ND : Hid (¬ RightP l) := hid (fun h => by have := (h.2.2.2.1 _ hmem).1; rw [qa] at this; cases this)
               clear hI hC hO hmem qa hln
               go_wp2_with (go_at_call 27; refine AC.out.mono ?_; rintro _ w3 ⟨rfl, hb3⟩)
               go_ret
               exact RtP.no ND.out (HBW.out.trans (hb3.mono HBW.out.size))
             | true =>
               rw [qa] at AC
               have KC := hid (fun W (hW : Below wr.heap.size wr W) => haveKidsOf_c w.heap.size _ N b (off + m * 6) _ W (HT.out.later (HB2.out.trans (hW.mono HB2.out.size))) (hC.later hW) (hO.later hW) (by have := alone_few qa; omega))
               cases qh : haveB N (l.getD m Nd.no).ks with
               | false =>
                 rw [qh] at KC
                 have ND : Hid (¬ RightP l) := hid (fun h => by have := (h.2.2.2.1 _ hmem).2; rw [← HHV.out, qh] at this; cases this)
                 clear hI hC hO hmem qa hln qh
                 go_wp2_with (first
                   | (go_at_call 28; refine (KC.out _ B3.out).mono ?_; rintro _ w4 ⟨rfl, hb4⟩)
                   | (go_at_call 27; refine AC.out.mono ?_; rintro _ w3 ⟨rfl, hb3⟩; have B3 := hid hb3; clear hb3))
                 go_ret
                 exact RtP.no ND.out (HBW.out.trans ((B3.out.trans (hb4.mono B3.out.size)).mono HBW.out.size))
               | true =>
                 rw [qh] at KC
                 have HI2 : Hid (∀ i, i < m + 1 → aloneB (l.getD i Nd.no) = true ∧ haveB N (l.getD i Nd.no).ks = true) := hid (fun i hi => by
                   by_cases e : i = m
                   · subst e; exact ⟨qa, qh⟩
                   · exact HI.out i (by omega))
                 clear hI hC hO hmem qa hln qh HI
                 go_wp2_with (first
                   | (go_at_call 28; refine (KC.out _ B3.out).mono ?_; rintro _ w4 ⟨rfl, hb4⟩)
                   | (go_at_call 27; refine AC.out.mono ?_; rintro _ w3 ⟨rfl, hb3⟩; have B3 := hid hb3; clear hb3))
                 have HB4 := hid (HB2.out.trans ((B3.out.trans (hb4.mono B3.out.size)).mono HB2.out.size))
                 clear hb4
                 go_roundg (gk - 1)
                 case measure => omega
                 case rel => exact ⟨m + 1, by omega, by go_num, HB4, HI2⟩
           · have hge : ¬ (m : Int) < n := by omega
             have ALL : Hid (∀ x ∈ l, aloneB x = true ∧ haveB N x.ks = true) := hid (fun x hx => by
               obtain ⟨i, hi, rfl⟩ := List.getElem_of_mem hx
               have := HI.out i (by have := HNL.out; omega)
               simpa [List.getD, hi] using this)
             clear HI
             have A1 := hid (fun x hx => (ALL.out x hx).1)
             have A2 := hid (fun x hx => (ALL.out x hx).2)
             have RL := hid (rightLinks_c a cap l wr (H.out.later HBW.out) (by have := HNL.out; omega) (fun x hx => alone_few (A1.out x hx)))
             rw [← HNL.out] at RL
             cases ql : linksB l with
             | false =>
               rw [ql] at RL
               have ND : Hid (¬ RightP l) := hid (fun h => by have := h.2.2.2.2.1; rw [ql] at this; cases this)
               clear ql
               go_wp2_with (go_at_call 29; refine RL.out.mono ?_; rintro _ w3 ⟨rfl, hb3⟩)
               go_ret
               exact RtP.no ND.out (HBW.out.trans (hb3.mono HBW.out.size))
             | true =>
               rw [ql] at RL
               have HC := hid (fun W (hW : Below wr.heap.size wr W) => holdRing_c w.heap.size _ N W (HT.out.later (HB2.out.trans (hW.mono HB2.out.size))) (by have h1 := HPL.out; have h2 := HNL.out; omega) (HW6.out A1.out A2.out) (HO6.out ql A2.out))
               have FIN : Hid (∀ b, (b = true ↔ RingN N) → ((!b) = true ↔ RightP l)) := hid (fun b hb => by
                 constructor
                 · intro e
                   refine ⟨by have := HNL.out; omega, HU.out, HDT.out, fun x hx => ⟨A1.out x hx, by rw [← HHV.out]; exact A2.out x hx⟩, ql, fun hr => ?_⟩
                   rw [hb.2 (HRG.out.2 hr)] at e
                   cases e
                 · intro h
                   cases b with
                   | false => rfl
                   | true => exact absurd (HRG.out.1 (hb.1 rfl)) h.2.2.2.2.2)
               unfold RingP at HC
               clear ql
               go_wp2_with (first
                 | (go_at_call 30; refine (HC.out _ B3.out).mono ?_; rintro _ w4 ⟨b4, rfl, hq4, hb4⟩; have Q4 := hid hq4; clear hq4)
                 | (go_at_call 29; refine RL.out.mono ?_; rintro _ w3 ⟨rfl, hb3⟩; have B3 := hid hb3; clear hb3))
               go_ret
               exact ⟨_, rfl, FIN.out b4 Q4.out, HBW.out.trans ((B3.out.trans (hb4.mono B3.out.size)).mono HBW.out.size)⟩
end Go.Proofs.YtkokjkaclcjnjaaGreatDoor
