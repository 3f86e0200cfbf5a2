/-
  Which nodes are a tree: Right of the package tree.
  Nodes without where they lie: which nodes are a tree does not hang on that. (Written by nodebase.py out of SnapMath.)
  lineOf of the package tell, and what it calls; Tree of a new tree; live.
-/
import Derived.Test.YtkokjkaclcjnjaaDoorRdAn
import Derived.Test.YtkokjkaclcjnjaaDoorRdAi
namespace Go.Proofs.YtkokjkaclcjnjaaDoor
open Go.RowKit Go.ChangeShapes Go.WideShapes Go.ChangeAt Go.Maps
set_option linter.unusedVariables false
set_option linter.unusedSimpArgs false
set_option maxRecDepth 100000
def N0 (l : List Nd) : Tab := ndF none l l.length
def RightP (l : List Nd) : Prop := l.length ≤ 40 ∧ fidsUp l = true ∧ isDirT (N0 l) 1 = true ∧ (∀ x ∈ l, aloneB x = true ∧ haveB (N0 l) x.ks = true) ∧ linksB l = true ∧ ¬ RingN (N0 l)
theorem nd_isSome (a : Option Addr) (l : List Nd) (m : Nat) (f : Int) : (ndF a l m f).isSome = (ndF none l m f).isSome := by
 unfold ndF
 cases plTo l m f <;> rfl
theorem dir_any (a : Option Addr) (l : List Nd) (m : Nat) (g : Int) : isDirT (ndF a l m) g = isDirT (ndF none l m) g := by
 unfold isDirT ndF
 cases plTo l m g <;> rfl
theorem edge_any (a : Option Addr) (l : List Nd) (m : Nat) (f g : Int) : Edge (ndF a l m) f g ↔ Edge (ndF none l m) f g := by
 have key : ∀ a b : Option Addr, Edge (ndF a l m) f g → Edge (ndF b l m) f g := fun a b h => by
   obtain ⟨p, x, i, h1, h2, h3, h4⟩ := h
   rw [dir_any] at h4
   unfold ndF at h1
   cases hp : plTo l m f with
   | none => rw [hp] at h1; cases h1
   | some j =>
     rw [hp] at h1
     cases h1
     refine ⟨⟨(b.getD ⟨0, 0, none⟩).block, (b.getD ⟨0, 0, none⟩).off + j * 6, none⟩, l.getD j Nd.no, i, ?_, h2, h3, by rw [dir_any]; exact h4⟩
     unfold ndF
     rw [hp]; rfl
 exact ⟨key _ _, key _ _⟩
theorem ring_any (a : Option Addr) (l : List Nd) (m : Nat) : RingN (ndF a l m) ↔ RingN (ndF none l m) := by
 have e : ∀ G, IsPar (ndF a l m) G ↔ IsPar (ndF none l m) G := fun G => by
   unfold IsPar
   constructor
   · intro h f g; rw [h f g, edge_any]
   · intro h f g; rw [h f g, edge_any a]
 unfold RingN
 simp only [e]
theorem haveTo_any (a : Option Addr) (l : List Nd) (m : Nat) (ks : List Kd) : ∀ n, haveTo (ndF a l m) ks n = haveTo (ndF none l m) ks n
 | 0 => rfl
 | n + 1 => by simp only [haveTo, haveTo_any a l m ks n, nd_isSome a]
theorem haveB_any (a : Option Addr) (l : List Nd) (m : Nat) (ks : List Kd) : haveB (ndF a l m) ks = haveB (ndF none l m) ks := haveTo_any a l m ks _
theorem alone_few {x : Nd} (h : aloneB x = true) : x.ks.length ≤ 12 := by
 unfold aloneB at h
 cases q : (x.k == 1 || x.k == 3) with
 | true =>
   rw [q] at h
   simp only [cond_true, Bool.and_eq_true, decide_eq_true_eq] at h
   omega
 | false =>
   rw [q] at h
   cases q2 : (x.k == 2) with
   | true =>
     rw [q2] at h
     simp only [cond_false, cond_true, Bool.and_eq_true, decide_eq_true_eq] at h
     exact h.2.1
   | false => rw [q2] at h; cases h
theorem linksTo_all {P : List Int} {l : List Nd} : ∀ {m : Nat}, linksTo P l m = true → ∀ i, i < m → linkB P (l.getD i Nd.no) = true
 | 0, _, i, hi => by omega
 | m + 1, h, i, hi => by
   unfold linksTo at h
   rw [Bool.and_eq_true] at h
   by_cases e : i = m
   · subst e; exact h.2
   · exact linksTo_all h.1 i (by omega)
theorem kfs_mem {l : List Nd} {i j : Nat} {g : Int} (hi : i < l.length) (hj : j < (l.getD i Nd.no).ks.length) (hg : ((l.getD i Nd.no).ks.getD j Kd.no).fid = g) : g ∈ kfs l := by
 unfold kfs
 rw [List.mem_flatMap]
 refine ⟨_, getD_mem l Nd.no hi, ?_⟩
 rw [List.mem_map]
 exact ⟨_, getD_mem _ Kd.no hj, hg⟩
theorem kfs_two {l : List Nd} {i i' j j' : Nat} {g : Int} (hlt : i < i') (hi' : i' < l.length) (hj : j < (l.getD i Nd.no).ks.length) (hg : ((l.getD i Nd.no).ks.getD j Kd.no).fid = g) (hj' : j' < (l.getD i' Nd.no).ks.length) (hg' : ((l.getD i' Nd.no).ks.getD j' Kd.no).fid = g) : 2 ≤ (kfs l).count g := by
 have e0 : l = l.take (i' + 1) ++ l.drop (i' + 1) := (List.take_append_drop _ _).symm
 have e1 : kfs l = kfs (l.take (i' + 1)) ++ kfs (l.drop (i' + 1)) := by
   unfold kfs
   rw [← List.flatMap_append, ← e0]
 rw [e1, kfs_take hi', List.count_append, List.count_append]
 have h1 : 0 < (kfs (l.take i')).count g := by
   rw [List.count_pos_iff]
   have et : (l.take i').getD i Nd.no = l.getD i Nd.no := by simp [List.getD, List.getElem?_take, hlt]
   refine kfs_mem (l := l.take i') (i := i) (j := j) (by rw [List.length_take]; omega) (by rw [et]; exact hj) (by rw [et]; exact hg)
 have h2 : 0 < ((l.getD i' Nd.no).ks.map (·.fid)).count g := by
   rw [List.count_pos_iff, List.mem_map]
   exact ⟨_, getD_mem _ Kd.no hj', hg'⟩
 omega
theorem one_up {a : Option Addr} {l : List Nd} (hL : linksB l = true) (hH : ∀ x ∈ l, haveB (ndF a l l.length) x.ks = true) : OneUp (ndF a l l.length) := by
 intro f f' g h h'
 obtain ⟨p, x, j, h1, h2, h3, h4⟩ := h
 obtain ⟨p', x', j', h1', h2', h3', _⟩ := h'
 unfold ndF at h1 h1'
 cases hp : plTo l l.length f with
 | none => rw [hp] at h1; cases h1
 | some i =>
   cases hp' : plTo l l.length f' with
   | none => rw [hp'] at h1'; cases h1'
   | some i' =>
     rw [hp] at h1
     rw [hp'] at h1'
     cases h1
     cases h1'
     obtain ⟨li, ei⟩ := plTo_lt l _ hp
     obtain ⟨li', ei'⟩ := plTo_lt l _ hp'
     have hc : (kfs l).count g ≤ 1 := by
       unfold isDirT ndF at h4
       cases hg : plTo l l.length g with
       | none => rw [hg] at h4; cases h4
       | some k =>
         rw [hg] at h4
         simp only [Option.map_some] at h4
         obtain ⟨lk, ek⟩ := plTo_lt l _ hg
         have hb := linksTo_all hL k lk
         have hne : g ≠ 1 := by
           have := (haveTo_all (hH _ (getD_mem l Nd.no li)) j h2).1
           rw [h3] at this
           exact this
         unfold linkB at hb
         rw [ek, h4] at hb
         have hne2 : (g == 1) = false := beq_eq_false_iff_ne.2 hne
         rw [hne2] at hb
         simp only [Bool.false_or, Bool.true_and, Bool.and_eq_true, Bool.not_eq_true', Bool.or_eq_false_iff, decide_eq_false_iff_not] at hb
         omega
     rcases Nat.lt_trichotomy i i' with q | q | q
     · have := kfs_two q li' h2 h3 h2' h3'; omega
     · subst q; rw [← ei, ← ei']
     · have := kfs_two q li h2' h3' h2 h3; omega
theorem whole_6 {a : Option Addr} {l : List Nd} (hA : ∀ x ∈ l, aloneB x = true) (hH : ∀ x ∈ l, haveB (ndF a l l.length) x.ks = true) : Whole6 (ndF a l l.length) := by
 intro f p x h
 unfold ndF at h
 cases hp : plTo l l.length f with
 | none => rw [hp] at h; cases h
 | some i =>
   rw [hp] at h
   cases h
   obtain ⟨li, _⟩ := plTo_lt l _ hp
   have hm := getD_mem l Nd.no li
   exact ⟨alone_few (hA _ hm), fun j hj => (haveTo_all (hH _ hm) j hj).2⟩
def RtP (l : List Nd) (w : World) (e : Ending) (w' : World) : Prop := ∃ b, e = .returned (.bool b) ∧ (b = true ↔ RightP l) ∧ Below w.heap.size w w'
theorem RtP.no {l : List Nd} {w w' : World} (h : ¬ RightP l) (hb : Below w.heap.size w w') : RtP l w (.returned (.bool false)) w' := ⟨false, rfl, ⟨(fun e => by cases e), fun e => absurd e h⟩, hb⟩
set_option maxHeartbeats 4000000 in
theorem right_c (a : Option Addr) (cap : Nat) (l : List Nd) (w : World) (h : IsNs w a l) (hm : l.length ≤ 100000) :
   Calls Tryd.prog 37 #[.slice a l.length cap] w fun e w' => RtP l w e w' := by
 have H := hid h
 have FC := hid (fidsRise_c a cap l w h hm)
 have TC := hid (fun (h4 : l.length ≤ 40) => tableOf_c a cap l w h (by omega))
 have ht := ht_tab
 clear h
 by_cases q40 : 40 < l.length
 · have qI : (40 : Int) < l.length := by omega
   have F : Hid (RtP l w (.returned (.bool false)) w) := hid (RtP.no (fun h => by have := h.1; omega) (Below.refl _ _))
   go_enter Tryd.func37, Tryd.ntmps37
   go_wp2
   go_ret
   exact F.out
 · have qI : ¬ (40 : Int) < l.length := by omega
   have TC2 := hid (TC.out (by omega))
   clear TC
   cases qu : fidsUp l with
   | false =>
     rw [qu] at FC
     have F : Hid (RtP l w (.returned (.bool false)) w) := hid (RtP.no (fun h => by have := h.2.1; rw [qu] at this; cases this) (Below.refl _ _))
     clear qu
     go_enter Tryd.func37, Tryd.ntmps37
     go_wp2_with (go_at_call 60; refine FC.out.mono ?_; rintro _ w0 ⟨rfl, hw0⟩; have hw1 := hw0.symm; clear hw0; subst hw1)
     go_ret
     exact F.out
   | true =>
     rw [qu] at FC
     have HU := hid qu
     clear qu
     obtain ⟨N, hN⟩ : ∃ N, N = ndF a l l.length := ⟨_, rfl⟩
     rw [← hN] at TC2
     have HN := hid hN
     have hd1 := dir_any a l l.length 1
     rw [← hN] at hd1
     have HD1 := hid hd1
     have HHV : Hid (∀ ks, haveB N ks = haveB (N0 l) ks) := hid (fun ks => by rw [hN]; exact haveB_any a l l.length ks)
     have HRG : Hid (RingN N ↔ RingN (N0 l)) := hid (by rw [hN]; exact ring_any a l l.length)
     have HW6 : Hid ((∀ x ∈ l, aloneB x = true) → (∀ x ∈ l, haveB N x.ks = true) → Whole6 N) := hid (fun h1 h2 => by rw [hN] at h2 ⊢; exact whole_6 h1 h2)
     have HO6 : Hid (linksB l = true → (∀ x ∈ l, haveB N x.ks = true) → OneUp N) := hid (fun h1 h2 => by rw [hN] at h2 ⊢; exact one_up h1 h2)
     have HPL := hid (plN_le l l.length)
     clear hN hd1 HN
     cases qd : isDirT N 1 with
     | false =>
       have ND : Hid (¬ RightP l) := hid (fun h => by have := h.2.2.1; unfold N0 at this; rw [← HD1.out, qd] at this; cases this)
       unfold isDirT at qd
       cases q1 : N 1 with
       | none =>
         clear qd
         go_enter Tryd.func37, Tryd.ntmps37
         go_wp2_with (first
           | (go_at_call 61; refine TC2.out.mono ?_; rintro _ w1 ⟨rfl, hT, hb1⟩
              have LK := hT.1.look ht zeroPt (i := 1) (by omega) (by omega)
              unfold Tab.ptr at LK
              rw [q1, show ptE.enc ((Option.map (fun p : Addr × Nd => some p.1) none).getD none) = .pointer none from rfl] at LK
              have HB := hid hb1
              clear hT hb1)
           | (go_at_call 60; refine FC.out.mono ?_; rintro _ w0 ⟨rfl, hw0⟩; have hw1 := hw0.symm; clear hw0; subst hw1))
         go_ret
         exact RtP.no ND.out HB.out
       | some z =>
         obtain ⟨p, x⟩ := z
         rw [q1] at qd
         simp only at qd
         have qk : (x.k != 2) = true := by rw [bne, qd]; rfl
         have qk2 : ¬ x.k = 2 := by rwa [beq_eq_false_iff_ne] at qd
         go_enter Tryd.func37, Tryd.ntmps37
         go_wp2_with (first
           | (go_at_call 61; refine TC2.out.mono ?_; rintro _ w1 ⟨rfl, hT, hb1⟩
              have LK := hT.1.look ht zeroPt (i := 1) (by omega) (by omega)
              unfold Tab.ptr at LK
              rw [q1, show ptE.enc ((Option.map (fun p : Addr × Nd => some p.1) (some (p, x))).getD none) = .pointer (some p) from rfl] at LK
              obtain ⟨hps, hnc, _, _⟩ := hT.2 1 p x q1
              obtain ⟨pb, po, ps⟩ := p
              simp only at hps
              subst hps
              have c1 := hnc.all.2.1
              simp only at c1
              have HB := hid hb1
              clear hT hb1 hnc)
           | (go_at_call 60; refine FC.out.mono ?_; rintro _ w0 ⟨rfl, hw0⟩; have hw1 := hw0.symm; clear hw0; subst hw1))
         go_ret
         exact RtP.no ND.out HB.out
     | true =>
       have HDT : Hid (isDirT (N0 l) 1 = true) := hid (by unfold N0; rw [← HD1.out]; exact qd)
       clear HD1
       unfold isDirT at qd
       cases q1 : N 1 with
       | none => rw [q1] at qd; cases qd
       | some z =>
         obtain ⟨p, x⟩ := z
         rw [q1] at qd
         simp only at qd
         have qk : x.k = 2 := by simpa using qd
         clear qd
         obtain ⟨xf, xk, xm, xl, xda, xdc, xzs, xka, xkc, xks⟩ := x
         simp only at qk
         subst qk
         obtain ⟨n, hn⟩ : ∃ n, n = l.length := ⟨_, rfl⟩
         have HNL := hid hn
         rw [← hn] at FC TC2 q40 qI HPL
         go_enter Tryd.func37, Tryd.ntmps37
         rw [← hn]
         clear hn
         go_wp2_with (first
           | (go_at_call 61; refine TC2.out.mono ?_; rintro _ w1 ⟨rfl, hT, hb1⟩
              have LK := hT.1.look ht zeroPt (i := 1) (by omega) (by omega)
              unfold Tab.ptr at LK
              rw [q1, show ptE.enc ((Option.map (fun p : Addr × Nd => some p.1) (some (p, (⟨xf, 2, xm, xl, xda, xdc, xzs, xka, xkc, xks⟩ : Nd)))).getD none) = .pointer (some p) from rfl] at LK
              obtain ⟨hps, hnc, _, _⟩ := hT.2 1 p _ q1
              obtain ⟨pb, po, ps⟩ := p
              simp only at hps
              subst hps
              have c1 := hnc.all.2.1
              simp only at c1
              have HB := hid hb1
              have HT := hid hT
              clear hT hb1 hnc)
           | (go_at_call 60; refine FC.out.mono ?_; rintro _ w0 ⟨rfl, hw0⟩; have hw1 := hw0.symm; clear hw0; subst hw1))
         clear FC TC2 LK c1 q1
         go_loopg [29] n (fun gk i wr => ∃ m : Nat, m + gk = n ∧ i = .int .i64 m ∧ Hid (Below w1.heap.size w1 wr) ∧ Hid (∀ i, i < m → aloneB (l.getD i Nd.no) = true ∧ haveB N (l.getD i Nd.no).ks = true))
         case atStart => exact ⟨0, by omega, rfl, hid (Below.refl _ _), hid (fun i hi => by omega)⟩
         case round =>
           obtain ⟨m, hm2, rfl, HB2, HI⟩ := hrel
           have HBW := hid (HB.out.trans (HB2.out.mono HB.out.size))
           by_cases hlt : m < n
           · have hltI : (m : Int) < n := by omega
             have hln : m < l.length := by rw [← HNL.out]; exact hlt
             obtain ⟨b, off, rfl, _⟩ := H.out.2.2 (by omega)
             have hI := H.out.later HBW.out
             have hC := hI.at (i := m) hln
             have hO := hI.ok (i := m) hln
             have hmem := getD_mem l Nd.no hln
             have AC := hid (rightAlone_c b (off + m * 6) _ wr hC hO)
             cases qa : aloneB (l.getD m Nd.no) with
             | false =>
               rw [qa] at AC
               have ND : Hid (¬ RightP l) := hid (fun h => by have := (h.2.2.2.1 _ hmem).1; rw [qa] at this; cases this)
               clear hI hC hO hmem qa hln
               go_wp2_with (go_at_call 62; refine AC.out.mono ?_; rintro _ w3 ⟨rfl, hb3⟩)
               go_ret
               exact RtP.no ND.out (HBW.out.trans (hb3.mono HBW.out.size))
             | true =>
               rw [qa] at AC
               have KC := hid (fun W (hW : Below wr.heap.size wr W) => haveKidsOf_c w.heap.size _ N b (off + m * 6) _ W (HT.out.later (HB2.out.trans (hW.mono HB2.out.size))) (hC.later hW) (hO.later hW) (by have := alone_few qa; omega))
               cases qh : haveB N (l.getD m Nd.no).ks with
               | false =>
                 rw [qh] at KC
                 have ND : Hid (¬ RightP l) := hid (fun h => by have := (h.2.2.2.1 _ hmem).2; rw [← HHV.out, qh] at this; cases this)
                 clear hI hC hO hmem qa hln qh
                 go_wp2_with (first
                   | (go_at_call 63; refine (KC.out _ B3.out).mono ?_; rintro _ w4 ⟨rfl, hb4⟩)
                   | (go_at_call 62; refine AC.out.mono ?_; rintro _ w3 ⟨rfl, hb3⟩; have B3 := hid hb3; clear hb3))
                 go_ret
                 exact RtP.no ND.out (HBW.out.trans ((B3.out.trans (hb4.mono B3.out.size)).mono HBW.out.size))
               | true =>
                 rw [qh] at KC
                 have HI2 : Hid (∀ i, i < m + 1 → aloneB (l.getD i Nd.no) = true ∧ haveB N (l.getD i Nd.no).ks = true) := hid (fun i hi => by
                   by_cases e : i = m
                   · subst e; exact ⟨qa, qh⟩
                   · exact HI.out i (by omega))
                 clear hI hC hO hmem qa hln qh HI
                 go_wp2_with (first
                   | (go_at_call 63; refine (KC.out _ B3.out).mono ?_; rintro _ w4 ⟨rfl, hb4⟩)
                   | (go_at_call 62; refine AC.out.mono ?_; rintro _ w3 ⟨rfl, hb3⟩; have B3 := hid hb3; clear hb3))
                 have HB4 := hid (HB2.out.trans ((B3.out.trans (hb4.mono B3.out.size)).mono HB2.out.size))
                 clear hb4
                 go_roundg (gk - 1)
                 case measure => omega
                 case rel => exact ⟨m + 1, by omega, by go_num, HB4, HI2⟩
           · have hge : ¬ (m : Int) < n := by omega
             have ALL : Hid (∀ x ∈ l, aloneB x = true ∧ haveB N x.ks = true) := hid (fun x hx => by
               obtain ⟨i, hi, rfl⟩ := List.getElem_of_mem hx
               have := HI.out i (by have := HNL.out; omega)
               simpa [List.getD, hi] using this)
             clear HI
             have A1 := hid (fun x hx => (ALL.out x hx).1)
             have A2 := hid (fun x hx => (ALL.out x hx).2)
             have RL := hid (rightLinks_c a cap l wr (H.out.later HBW.out) (by have := HNL.out; omega) (fun x hx => alone_few (A1.out x hx)))
             rw [← HNL.out] at RL
             cases ql : linksB l with
             | false =>
               rw [ql] at RL
               have ND : Hid (¬ RightP l) := hid (fun h => by have := h.2.2.2.2.1; rw [ql] at this; cases this)
               clear ql
               go_wp2_with (go_at_call 64; refine RL.out.mono ?_; rintro _ w3 ⟨rfl, hb3⟩)
               go_ret
               exact RtP.no ND.out (HBW.out.trans (hb3.mono HBW.out.size))
             | true =>
               rw [ql] at RL
               have HC := hid (fun W (hW : Below wr.heap.size wr W) => holdRing_c w.heap.size _ N W (HT.out.later (HB2.out.trans (hW.mono HB2.out.size))) (by have h1 := HPL.out; have h2 := HNL.out; omega) (HW6.out A1.out A2.out) (HO6.out ql A2.out))
               have FIN : Hid (∀ b, (b = true ↔ RingN N) → ((!b) = true ↔ RightP l)) := hid (fun b hb => by
                 constructor
                 · intro e
                   refine ⟨by have := HNL.out; omega, HU.out, HDT.out, fun x hx => ⟨A1.out x hx, by rw [← HHV.out]; exact A2.out x hx⟩, ql, fun hr => ?_⟩
                   rw [hb.2 (HRG.out.2 hr)] at e
                   cases e
                 · intro h
                   cases b with
                   | false => rfl
                   | true => exact absurd (HRG.out.1 (hb.1 rfl)) h.2.2.2.2.2)
               unfold RingP at HC
               clear ql
               go_wp2_with (first
                 | (go_at_call 65; refine (HC.out _ B3.out).mono ?_; rintro _ w4 ⟨b4, rfl, hq4, hb4⟩; have Q4 := hid hq4; clear hq4)
                 | (go_at_call 64; refine RL.out.mono ?_; rintro _ w3 ⟨rfl, hb3⟩; have B3 := hid hb3; clear hb3))
               go_ret
               exact ⟨_, rfl, FIN.out b4 Q4.out, HBW.out.trans ((B3.out.trans (hb4.mono B3.out.size)).mono HBW.out.size)⟩
def Nd.er (x : Nd) : Nd := x.lie none 0 none 0
theorem er_no : Nd.no.er = Nd.no := rfl
theorem getD_er (l : List Nd) (i : Nat) : (l.map Nd.er).getD i Nd.no = (l.getD i Nd.no).er := by
 rcases Nat.lt_or_ge i l.length with h | h
 · simp [List.getD, h]
 · simp [List.getD, h, er_no]
theorem plTo_er (l : List Nd) : ∀ m, plTo (l.map Nd.er) m = plTo l m
 | 0 => rfl
 | m + 1 => by
   funext f
   show updF (plTo (l.map Nd.er) m) ((l.map Nd.er).getD m Nd.no).fid (some m) f = updF (plTo l m) (l.getD m Nd.no).fid (some m) f
   rw [plTo_er l m, getD_er]; rfl
theorem N0_er (l : List Nd) (f : Int) : N0 (l.map Nd.er) f = (N0 l f).map fun p => (p.1, p.2.er) := by
 unfold N0 ndF
 rw [List.length_map, plTo_er]
 cases plTo l l.length f with
 | none => rfl
 | some i => simp only [Option.map_some, getD_er]
theorem isDir_er (l : List Nd) (g : Int) : isDirT (N0 (l.map Nd.er)) g = isDirT (N0 l) g := by
 unfold isDirT
 rw [N0_er]
 cases N0 l g with
 | none => rfl
 | some p => rfl
theorem edge_er (l : List Nd) (f g : Int) : Edge (N0 (l.map Nd.er)) f g ↔ Edge (N0 l) f g := by
 constructor
 · rintro ⟨p, x, i, h1, h2, h3, h4⟩
   rw [N0_er] at h1
   cases hN : N0 l f with
   | none => rw [hN] at h1; cases h1
   | some q =>
     rw [hN] at h1
     cases h1
     exact ⟨q.1, q.2, i, hN, h2, h3, by rw [isDir_er] at h4; exact h4⟩
 · rintro ⟨p, x, i, h1, h2, h3, h4⟩
   exact ⟨p, x.er, i, by rw [N0_er, h1]; rfl, h2, h3, by rw [isDir_er]; exact h4⟩
theorem ring_er (l : List Nd) : RingN (N0 (l.map Nd.er)) ↔ RingN (N0 l) := by
 have e : ∀ G, IsPar (N0 (l.map Nd.er)) G ↔ IsPar (N0 l) G := fun G => by
   unfold IsPar
   constructor
   · intro h f g; rw [h f g, edge_er]
   · intro h f g; rw [h f g, edge_er]
 unfold RingN
 simp only [e]
theorem haveTo_er (l : List Nd) (ks : List Kd) : ∀ n, haveTo (N0 (l.map Nd.er)) ks n = haveTo (N0 l) ks n
 | 0 => rfl
 | n + 1 => by
   simp only [haveTo, haveTo_er l ks n, N0_er]
   cases N0 l (ks.getD n Kd.no).fid <;> rfl
theorem upTo_er (l : List Nd) : ∀ m, upTo (l.map Nd.er) m = upTo l m
 | 0 => rfl
 | m + 1 => by
   simp only [upTo, upTo_er l m, getD_er, lastFd]
   rfl
theorem kfs_er (l : List Nd) : kfs (l.map Nd.er) = kfs l := by
 unfold kfs
 rw [List.flatMap_map]
 rfl
theorem linksTo_er (P : List Int) (l : List Nd) : ∀ m, linksTo P (l.map Nd.er) m = linksTo P l m
 | 0 => rfl
 | m + 1 => by
   simp only [linksTo, linksTo_er P l m, getD_er]
   rfl
theorem right_er (l : List Nd) : RightP (l.map Nd.er) ↔ RightP l := by
 unfold RightP fidsUp linksB
 simp only [List.length_map, upTo_er, isDir_er, ring_er, kfs_er, linksTo_er]
 have e : (∀ x ∈ l.map Nd.er, aloneB x = true ∧ haveB (N0 (l.map Nd.er)) x.ks = true) ↔ (∀ x ∈ l, aloneB x = true ∧ haveB (N0 l) x.ks = true) := by
   constructor
   · intro h x hx
     have := h x.er (List.mem_map.2 ⟨x, hx, rfl⟩)
     unfold haveB at this ⊢
     rw [haveTo_er] at this
     exact this
   · intro h x hx
     obtain ⟨y, hy, rfl⟩ := List.mem_map.1 hx
     have := h y hy
     unfold haveB at this ⊢
     rw [haveTo_er]
     exact this
 rw [e]
theorem upTo_pos {l : List Nd} : ∀ {m : Nat}, upTo l m = true → ∀ i, i < m → lastFd l i < (l.getD i Nd.no).fid
 | 0, _, i, hi => by omega
 | m + 1, h, i, hi => by
   unfold upTo at h
   rw [Bool.and_eq_true] at h
   by_cases e : i = m
   · subst e; exact of_decide_eq_true h.2
   · exact upTo_pos h.1 i (by omega)
theorem upTo_pos2 {l : List Nd} {m : Nat} (h : upTo l m = true) : ∀ i, i < m → 0 < (l.getD i Nd.no).fid
 | 0, hi => by have := upTo_pos h 0 hi; simpa [lastFd] using this
 | i + 1, hi => by
   have h1 := upTo_pos h (i + 1) hi
   have h2 := upTo_pos2 h i (by omega)
   rw [lastFd_next] at h1
   omega
theorem kidsTo_of {N : Tab} {l : List Kd} (hp : ∀ f p, N f = some p → f ≠ 0) : ∀ {m : Nat}, namesTo l m = true → haveTo N l m = true → kidsTo l m = true
 | 0, _, _ => rfl
 | m + 1, h, h2 => by
   unfold namesTo at h
   unfold haveTo at h2
   rw [Bool.and_eq_true] at h h2
   unfold kidsTo
   rw [kidsTo_of hp h.1 h2.1, Bool.true_and]
   unfold kOk
   have h3 := h.2
   unfold nmK at h3
   rw [h3, Bool.true_and]
   have h4 := h2.2
   rw [Bool.and_eq_true] at h4
   cases hN : N (l.getD m Kd.no).fid with
   | none => rw [hN] at h4; simp at h4
   | some p => have := hp _ _ hN; simpa using this
end Go.Proofs.YtkokjkaclcjnjaaDoor
namespace Go.Proofs.YtkokjkaclcjnjaaDoor
open Go.RowKit Go.ChangeShapes Go.WideShapes Go.ChangeAt
set_option linter.unusedVariables false
set_option linter.unusedSimpArgs false
set_option maxRecDepth 100000
def nwNd : Nd := ⟨1, 2, 0, 0, none, 0, [], none, 0, []⟩
def decB (n : Nat) : ByteArray := ⟨(Lib.decDigits n).toArray⟩
set_option maxHeartbeats 1000000 in
theorem digS_c (n : Nat) (hn : n < 100) (w : World) : Calls Tryd.prog 53 #[.int .u32 (n : Int)] w fun e w' => e = .returned (.string (decB n)) ∧ w' = w := by
 have h1 : (n : Int) < 100 := by omega
 have S1 := hid (fun W => Tryd.internal_strconv_small n hn W)
 have F1 : Hid (∀ W, Calls Tryd.prog 58 #[.int .u64 (n : Int), .int .i64 10] W fun e w' => e = .returned (.string (decB n)) ∧ w' = W) := hid (fun W => by
   go_enter Tryd.func58, Tryd.ntmps58
   go_wp2_with (go_at_call 86; refine (S1.out _).mono ?_; rintro _ w3 ⟨rfl, h3⟩; rw [h3]; clear h3)
   go_ret
   exact ⟨rfl, rfl⟩)
 have F2 : Hid (∀ W, Calls Tryd.prog 35 #[.int .u64 (n : Int), .int .i64 10] W fun e w' => e = .returned (.string (decB n)) ∧ w' = W) := hid (fun W => by
   go_enter Tryd.func35, Tryd.ntmps35
   go_wp2_with (go_at_call 58; refine (F1.out _).mono ?_; rintro _ w3 ⟨rfl, h3⟩; rw [h3]; clear h3)
   go_ret
   exact ⟨rfl, rfl⟩)
 go_enter Tryd.func53, Tryd.ntmps53
 go_wp2_with (go_at_call 35; refine (F2.out _).mono ?_; rintro _ w3 ⟨rfl, h3⟩; rw [h3]; clear h3)
 go_ret
 exact ⟨rfl, rfl⟩
def wordB (k : Int) : ByteArray := if k = 1 then ⟨#[102, 105, 108, 101]⟩ else if k = 2 then ⟨#[100, 105, 114]⟩ else if k = 3 then ⟨#[108, 105, 110, 107]⟩ else ⟨#[]⟩
set_option maxHeartbeats 1000000 in
theorem word_c (k : Int) (w : World) : Calls Tryd.prog 54 #[.int .u8 k] w fun e w' => e = .returned (.string (wordB k)) ∧ w' = w := by
 obtain ⟨r, hr⟩ : ∃ r, Hid (r = wordB k) := ⟨_, hid rfl⟩
 rw [← hr.out]
 by_cases h1 : k = 1
 · have e1 : (k == 1) = true := by simp [h1]
   have RE : Hid (r = ⟨#[102, 105, 108, 101]⟩) := hid (by rw [hr.out]; unfold wordB; rw [if_pos h1])
   clear hr h1
   go_enter Tryd.func54, Tryd.ntmps54
   go_wp2
   go_ret
   exact ⟨by rw [RE.out]; rfl, rfl⟩
 · have e1 : (k == 1) = false := by simp [h1]
   by_cases h2 : k = 2
   · have e2 : (k == 2) = true := by simp [h2]
     have RE : Hid (r = ⟨#[100, 105, 114]⟩) := hid (by rw [hr.out]; unfold wordB; rw [if_neg h1, if_pos h2])
     clear hr h1 h2
     go_enter Tryd.func54, Tryd.ntmps54
     go_wp2
     go_ret
     exact ⟨by rw [RE.out]; rfl, rfl⟩
   · have e2 : (k == 2) = false := by simp [h2]
     by_cases h3 : k = 3
     · have e3 : (k == 3) = true := by simp [h3]
       have RE : Hid (r = ⟨#[108, 105, 110, 107]⟩) := hid (by rw [hr.out]; unfold wordB; rw [if_neg h1, if_neg h2, if_pos h3])
       clear hr h1 h2 h3
       go_enter Tryd.func54, Tryd.ntmps54
       go_wp2
       go_ret
       exact ⟨by rw [RE.out]; rfl, rfl⟩
     · have e3 : (k == 3) = false := by simp [h3]
       have RE : Hid (r = ⟨#[]⟩) := hid (by rw [hr.out]; unfold wordB; rw [if_neg h1, if_neg h2, if_neg h3])
       clear hr h1 h2 h3
       go_enter Tryd.func54, Tryd.ntmps54
       go_wp2
       go_ret
       exact ⟨by rw [RE.out]; rfl, rfl⟩
set_option maxHeartbeats 1000000 in
theorem inside0_c (f m l : Int) (da ka : Option Addr) (dn dc kc : Nat) (w : World) : Calls Tryd.prog 55 #[.agg #[.int .u32 f, .int .u8 2, .int .u16 m, .int .u16 l, .slice da dn dc, .slice ka 0 kc]] w fun e w' => e = .returned (.string ⟨#[45]⟩) ∧ Below w.heap.size w w' := by
 have hb := below_1 w (.cells #[.int .u32 f, .int .u8 2, .int .u16 m, .int .u16 l, .slice da dn dc, .slice ka 0 kc] 35)
 have hB := heap_alloc_new w (.cells #[.int .u32 f, .int .u8 2, .int .u16 m, .int .u16 l, .slice da dn dc, .slice ka 0 kc] 35)
 have k1 : (w.alloc (.cells #[.int .u32 f, .int .u8 2, .int .u16 m, .int .u16 l, .slice da dn dc, .slice ka 0 kc] 35)).cell? ⟨w.heap.size, 1, none⟩ = some (.int .u8 2) := cell_of_row2 hB 1 rfl
 have k5 : (w.alloc (.cells #[.int .u32 f, .int .u8 2, .int .u16 m, .int .u16 l, .slice da dn dc, .slice ka 0 kc] 35)).cell? ⟨w.heap.size, 5, none⟩ = some (.slice ka 0 kc) := cell_of_row2 hB 5 rfl
 have B0 := hid hb
 clear hb hB
 go_enter Tryd.func55, Tryd.ntmps55
 go_wp2
 go_ret
 exact ⟨rfl, B0.out⟩
end Go.Proofs.YtkokjkaclcjnjaaDoor
