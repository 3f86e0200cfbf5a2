/-
  choosePivotOrdered, partialInsertionSortOrdered of a part of a row of fids.
-/
import Derived.Test.YtgbdplammniidaaGreatDoorFiBq
import Derived.Deep.CutRange
namespace Go.Proofs.YtgbdplammniidaaGreatDoor
open Go.RowKit Go.ChangeShapes Go.WideShapes Go.ChangeAt
set_option linter.unusedVariables false
set_option linter.unusedSimpArgs false
set_option maxRecDepth 100000
open Go.Sort (ltInt)
def Cq (w : World) (q : Nat) (s : Nat) : Prop := w.heap[q]? = some (.cells #[.int .i64 s] 3 (0, 0))
theorem Cq.cell {w : World} {q s : Nat} (h : Cq w q s) : w.cell? ⟨q, 0, none⟩ = some (.int .i64 s) ∧ w.frozen? ⟨q, 0, none⟩ = false := by
 unfold Cq at h
 constructor
 · simp [World.cell?, h]
 · simp [World.frozen?, h]
theorem Cq.set {w : World} {q s t : Nat} (h : Cq w q s) : Cq (w.setCell ⟨q, 0, none⟩ (.int .i64 (t : Int))) q t := by
 unfold Cq at *
 simp only [World.setCell]
 rw [Array.getElem?_modify, if_pos rfl, h]
 rfl
theorem Cq.drewN {w : World} {q s : Nat} (h : Cq w q s) (k : Nat) : Cq (w.drewN k) q s := h
def O2P (q a b s : Nat) (w : World) (e : Ending) (w' : World) : Prop := ∃ x y s' : Nat, e = .returned (.tuple #[.int .i64 x, .int .i64 y]) ∧ ((x = a ∧ y = b) ∨ (x = b ∧ y = a)) ∧ s' ≤ s + 1 ∧ Cq w' q s' ∧ Ou (fun k => k = q) w w'
set_option maxHeartbeats 1000000 in
theorem order2_c (g n cap a b q s : Nat) (d : Array Int) (w : World) (h : Fa w g n d) (hq : Cq w q s) (hs : s ≤ 10) (hn : n ≤ 40) (hcap : n ≤ cap) (ha : a < n) (hb : b < n) :
   Calls Tryz.prog 143 #[.slice (some ⟨g, 0, none⟩) n cap, .int .i64 a, .int .i64 b, .pointer (some ⟨q, 0, none⟩)] w (O2P q a b s w) := by
 have haI : (a : Int) < (n : Int) := by omega
 have hbI : (b : Int) < (n : Int) := by omega
 obtain ⟨s1, Hs1⟩ : ∃ s1, Hid (s1 = s + 1) := ⟨_, hid rfl⟩
 have hsI : (s : Int) + 1 = (s1 : Int) := by have := Hs1.out; omega
 obtain ⟨c1, z1⟩ := h.cell (j := a) ha
 obtain ⟨c2, z2⟩ := h.cell (j := b) hb
 obtain ⟨c3, z3⟩ := hq.cell
 have QZ : Hid (∀ k, Cq (w.drewN k) q s) := hid (fun k => hq.drewN k)
 have OZ : Hid (∀ k, Ou (fun k => k = q) w (w.drewN k)) := hid (fun k => (Ou.refl _ _).drewN k)
 clear h hq
 go_enter Tryz.func143, Tryz.ntmps143
 go_wp2_with fail
 by_cases hls : ft d b < ft d a
 · have hld : decide (ft d b < ft d a) = true := decide_eq_true hls
   go_quiet ((go_at_call 126; exact Calls.quiet_of_same (lessF_c _ _ _)))
   have QW := hid (QZ.out nq)
   have OW := hid (OZ.out nq)
   generalize w.drewN nq = W at *
   clear QZ OZ c1 z1 c2 z2 c3 z3
   obtain ⟨c3, z3⟩ := QW.out.cell
   go_wp2
   go_ret2
   exact ⟨b, a, s1, rfl, .inr ⟨rfl, rfl⟩, by have := Hs1.out; omega, QW.out.set, OW.out.set rfl⟩
 · have hld : decide (ft d b < ft d a) = false := decide_eq_false hls
   go_quiet ((go_at_call 126; exact Calls.quiet_of_same (lessF_c _ _ _)))
   have QW := hid (QZ.out nq)
   have OW := hid (OZ.out nq)
   generalize w.drewN nq = W at *
   clear QZ OZ c1 z1 c2 z2 c3 z3
   go_wp2
   go_ret2
   exact ⟨a, b, s, rfl, .inl ⟨rfl, rfl⟩, by omega, QW.out, OW.out⟩
def MeP (q a b c s : Nat) (w : World) (e : Ending) (w' : World) : Prop := ∃ x s' : Nat, e = .returned (.int .i64 x) ∧ (x = a ∨ x = b ∨ x = c) ∧ s' ≤ s + 3 ∧ Cq w' q s' ∧ Ou (fun k => k = q) w w'
set_option maxHeartbeats 1000000 in
theorem median_c (g n cap a b c q s : Nat) (d : Array Int) (w : World) (h : Fa w g n d) (hq : Cq w q s) (hgq : ¬ g = q) (hs : s ≤ 2) (hn : n ≤ 40) (hcap : n ≤ cap) (ha : a < n) (hb : b < n) (hc : c < n) :
   Calls Tryz.prog 140 #[.slice (some ⟨g, 0, none⟩) n cap, .int .i64 a, .int .i64 b, .int .i64 c, .pointer (some ⟨q, 0, none⟩)] w (MeP q a b c s w) := by
 have O1 := hid (order2_c g n cap a b q s d w h hq (by omega) hn hcap ha hb)
 have H0 := hid h
 clear h hq
 go_enter Tryz.func140, Tryz.ntmps140
 go_wp2_with (first
   | (go_at_call 143; refine O3.out.mono ?_; rintro _ w3 ⟨x3, y3, s3, rfl, h3, hs3, Q3, U3⟩; have T7 := hid h3; have T8 := hid Q3; have T9 := hid U3; clear h3 Q3 U3)
   | (go_at_call 143; refine O2.out.mono ?_; rintro _ w2 ⟨x2, y2, s2, rfl, h2, hs2, Q2, U2⟩; have T4 := hid h2; have T5 := hid Q2; have T6 := hid U2; clear h2 Q2 U2; have hx2 : x2 < n := (by have := T4.out; omega); have F2 := hid (F1.out.out T6.out hgq); have O3 := hid (order2_c g n cap x1 x2 q s2 d w2 F2.out T5.out (by omega) hn hcap hx1 hx2))
   | (go_at_call 143; refine O1.out.mono ?_; rintro _ w1 ⟨x1, y1, s1, rfl, h1, hs1, Q1, U1⟩; have T1 := hid h1; have T2 := hid Q1; have T3 := hid U1; clear h1 Q1 U1; have hx1 : x1 < n := (by have := T1.out; omega); have hy1 : y1 < n := (by have := T1.out; omega); have F1 := hid (H0.out.out T3.out hgq); have O2 := hid (order2_c g n cap y1 c q s1 d w1 F1.out T2.out (by omega) hn hcap hy1 hc)))
 go_ret
 exact ⟨y3, s3, rfl, by (have := T1.out; have := T4.out; have := T7.out; omega), by omega, T8.out, (T3.out.trans T6.out).trans T9.out⟩
def ChP (a b : Nat) (w : World) (e : Ending) (w' : World) : Prop := ∃ p h : Nat, e = .returned (.tuple #[.int .i64 p, .int .i64 h]) ∧ a < p ∧ p < b ∧ h ≤ 1 ∧ Ou (fun _ => False) w w'
set_option maxHeartbeats 2000000 in
theorem pivotA_c (g n cap a b : Nat) (d : Array Int) (w : World) (h : Fa w g n d) (hn : n ≤ 40) (hcap : n ≤ cap) (hab : a + 12 < b) (hb : b ≤ n) :
   Calls Tryz.prog 123 #[.slice (some ⟨g, 0, none⟩) n cap, .int .i64 a, .int .i64 b] w (ChP a b w) := by
 have hg := h.lt
 have hgq : ¬ g = w.heap.size := by omega
 have FA := hid (h.out (Ou.of (S := fun _ => False) ((Below.refl w.heap.size w).alloc (Nat.le_refl _) (.cells #[.int .i64 0] 3))) id)
 have QA : Hid (Cq (w.alloc (.cells #[.int .i64 0] 3)) w.heap.size 0) := hid (heap_alloc_new _ _)
 clear h hg
 obtain ⟨L, HL⟩ : ∃ L, Hid (L = b - a) := ⟨_, hid rfl⟩
 obtain ⟨Q, HQ⟩ : ∃ Q, Hid (Q = L / 4) := ⟨_, hid rfl⟩
 obtain ⟨p2, Hp2⟩ : ∃ p2, Hid (p2 = Q * 2) := ⟨_, hid rfl⟩
 obtain ⟨p3, Hp3⟩ : ∃ p3, Hid (p3 = Q * 3) := ⟨_, hid rfl⟩
 obtain ⟨i, Hi⟩ : ∃ i, Hid (i = a + Q) := ⟨_, hid rfl⟩
 obtain ⟨j, Hj⟩ : ∃ j, Hid (j = a + p2) := ⟨_, hid rfl⟩
 obtain ⟨k, Hk⟩ : ∃ k, Hid (k = a + p3) := ⟨_, hid rfl⟩
 have hLI : (b : Int) - (a : Int) = (L : Int) := by have := HL.out; have := HQ.out; have := Hp2.out; have := Hp3.out; have := Hi.out; have := Hj.out; have := Hk.out; omega
 have hQI : (L : Int) / 4 = (Q : Int) := by have := HL.out; have := HQ.out; have := Hp2.out; have := Hp3.out; have := Hi.out; have := Hj.out; have := Hk.out; omega
 have hQT : Int.tdiv (L : Int) 4 = (Q : Int) := by rw [Int.tdiv_eq_ediv_of_nonneg (by have := HL.out; have := HQ.out; have := Hp2.out; have := Hp3.out; have := Hi.out; have := Hj.out; have := Hk.out; omega)]; exact hQI
 have h2I : (Q : Int) * 2 = (p2 : Int) := by have := HL.out; have := HQ.out; have := Hp2.out; have := Hp3.out; have := Hi.out; have := Hj.out; have := Hk.out; omega
 have h3I : (Q : Int) * 3 = (p3 : Int) := by have := HL.out; have := HQ.out; have := Hp2.out; have := Hp3.out; have := Hi.out; have := Hj.out; have := Hk.out; omega
 have hiI : (a : Int) + (Q : Int) = (i : Int) := by have := HL.out; have := HQ.out; have := Hp2.out; have := Hp3.out; have := Hi.out; have := Hj.out; have := Hk.out; omega
 have hjI : (a : Int) + (p2 : Int) = (j : Int) := by have := HL.out; have := HQ.out; have := Hp2.out; have := Hp3.out; have := Hi.out; have := Hj.out; have := Hk.out; omega
 have hkI : (a : Int) + (p3 : Int) = (k : Int) := by have := HL.out; have := HQ.out; have := Hp2.out; have := Hp3.out; have := Hi.out; have := Hj.out; have := Hk.out; omega
 have h8 : (8 : Int) ≤ (L : Int) := by have := HL.out; have := HQ.out; have := Hp2.out; have := Hp3.out; have := Hi.out; have := Hj.out; have := Hk.out; omega
 have h50 : decide ((50 : Int) ≤ (L : Int)) = false := decide_eq_false (by have := HL.out; have := HQ.out; have := Hp2.out; have := Hp3.out; have := Hi.out; have := Hj.out; have := Hk.out; omega)
 have B1 : Hid (a < i ∧ i < b ∧ a < j ∧ j < b ∧ a < k ∧ k < b) := hid ⟨by have := HL.out; have := HQ.out; have := Hp2.out; have := Hp3.out; have := Hi.out; have := Hj.out; have := Hk.out; omega, by have := HL.out; have := HQ.out; have := Hp2.out; have := Hp3.out; have := Hi.out; have := Hj.out; have := Hk.out; omega, by have := HL.out; have := HQ.out; have := Hp2.out; have := Hp3.out; have := Hi.out; have := Hj.out; have := Hk.out; omega, by have := HL.out; have := HQ.out; have := Hp2.out; have := Hp3.out; have := Hi.out; have := Hj.out; have := Hk.out; omega, by have := HL.out; have := HQ.out; have := Hp2.out; have := Hp3.out; have := Hi.out; have := Hj.out; have := Hk.out; omega, by have := HL.out; have := HQ.out; have := Hp2.out; have := Hp3.out; have := Hi.out; have := Hj.out; have := Hk.out; omega⟩
 have hL40 : L ≤ 40 := by have := HL.out; have := HQ.out; have := Hp2.out; have := Hp3.out; have := Hi.out; have := Hj.out; have := Hk.out; omega
 have hQ10 : Q ≤ 10 := by have := HL.out; have := HQ.out; have := Hp2.out; have := Hp3.out; have := Hi.out; have := Hj.out; have := Hk.out; omega
 have hp20 : p2 ≤ 20 := by have := HL.out; have := HQ.out; have := Hp2.out; have := Hp3.out; have := Hi.out; have := Hj.out; have := Hk.out; omega
 have hp30 : p3 ≤ 30 := by have := HL.out; have := HQ.out; have := Hp2.out; have := Hp3.out; have := Hi.out; have := Hj.out; have := Hk.out; omega
 clear HL HQ Hp2 Hp3 Hi Hj Hk
 have ME := hid (median_c g n cap i j k w.heap.size 0 d _ FA.out QA.out hgq (by omega) hn hcap (by have := B1.out; omega) (by have := B1.out; omega) (by have := B1.out; omega))
 have UA : Hid (Ou (fun _ => False) w (w.alloc (.cells #[.int .i64 0] 3))) := hid (Ou.of ((Below.refl w.heap.size w).alloc (Nat.le_refl _) _))
 go_enter Tryz.func123, Tryz.ntmps123
 go_upto_region 12 with (go_at_call 140; refine ME.out.mono ?_; rintro _ w1 ⟨x, s, rfl, hx, hs, Q1, U1⟩; have T1 := hid hx; have T2 := hid Q1; have T3 := hid U1; clear hx Q1 U1 ME)
 obtain ⟨c3, z3⟩ := T2.out.cell
 have OE : Hid (Ou (fun _ => False) w w1) := hid ⟨T3.out.os.trans UA.out.os, T3.out.tape.trans UA.out.tape, T3.out.output.trans UA.out.output, Nat.le_trans UA.out.size T3.out.size, fun m hm _ => (T3.out.block m (Nat.lt_of_lt_of_le hm UA.out.size) (fun e => by omega)).trans (UA.out.block m hm id)⟩
 have hx2 : a < x ∧ x < b := by have := B1.out; have := T1.out; omega
 obtain rfl | hs0 : s = 0 ∨ ¬ s = 0 := by omega
 · go_wp2
   go_ret2
   exact ⟨x, 1, rfl, hx2.1, hx2.2, by omega, OE.out⟩
 · have e0 : ((s : Int) == 0) = false := by simp [hs0]
   have e12 : ((s : Int) == 12) = false := by simp; omega
   have n0 : ¬ (s : Int) = 0 := by omega
   have n12 : ¬ (s : Int) = 12 := by omega
   go_wp2
   go_ret2
   exact ⟨x, 0, rfl, hx2.1, hx2.2, by omega, OE.out⟩
theorem sorted_t {d : Array Int} {b i : Nat} (h : i < b) (hl : ¬ ft d i < ft d (i - 1)) : Go.Sort.scanSorted ltInt d b i = Go.Sort.scanSorted ltInt d b (i + 1) := by
 have hl' : ltInt d[i]! d[i - 1]! = false := decide_eq_false hl
 rw [Go.Sort.scanSorted, if_pos (by rw [hl']; simpa using h)]
theorem sorted_f {d : Array Int} {b i : Nat} (h : ¬ (i < b ∧ ft d (i - 1) ≤ ft d i)) : Go.Sort.scanSorted ltInt d b i = i := by
 rw [Go.Sort.scanSorted, if_neg (fun hh => h (by
   rw [Bool.and_eq_true] at hh
   refine ⟨by simpa using hh.1, Int.not_lt.1 fun hl => ?_⟩
   have hl' : ltInt d[i]! d[i - 1]! = true := decide_eq_true hl
   have h2 := hh.2
   rw [hl'] at h2
   exact absurd h2 (by simp)))]
theorem partialA_t {d : Array Int} {a b : Nat} (h : Go.Sort.scanSorted ltInt d b (a + 1) = b) : Go.Sort.partialInsertionSort ltInt d a b = (d, true) := by
 unfold Go.Sort.partialInsertionSort
 rw [Go.Sort.partialIns_succ]
 simp only [h, if_pos]
def PiP (g n a b : Nat) (d : Array Int) (w : World) (e : Ending) (w' : World) : Prop := (∃ f : Bool, e = .returned (.bool f) ∧ (f = true → Go.Sort.partialInsertionSort ltInt d a b = (d, true))) ∧ Fa w' g n d ∧ Ou (fun k => k = g) w w'
set_option maxHeartbeats 4000000 in
theorem partialA_c (g n cap a b : Nat) (d : Array Int) (w : World) (h : Fa w g n d) (hn : n ≤ 40) (hcap : n ≤ cap) (hab : a < b) (hb : b ≤ n) :
   Calls Tryz.prog 125 #[.slice (some ⟨g, 0, none⟩) n cap, .int .i64 a, .int .i64 b] w (PiP g n a b d w) := by
 have H0 := hid h
 clear h
 obtain ⟨I, HI⟩ : ∃ I, Hid (Go.Sort.scanSorted ltInt d b (a + 1) = I) := ⟨_, hid rfl⟩
 obtain ⟨L, HL⟩ : ∃ L, Hid (L = b - a) := ⟨_, hid rfl⟩
 have hLI : (b : Int) - (a : Int) = (L : Int) := by have := HL.out; omega
 have hL50 : (L : Int) < 50 := by have := HL.out; omega
 go_enter Tryz.func125, Tryz.ntmps125
 go_wp2
 refine wp_loop_rounds 1 ?_
 rw [rounds_succ]
 go_wp2
 go_loopw [7] (fun v7 wx => ∃ i : Nat, a + 1 ≤ i ∧ i ≤ b ∧ v7 = .int .i64 i ∧ Hid (Go.Sort.scanSorted ltInt d b i = I) ∧ Hid (Fa wx g n d) ∧ Hid (Ou (fun k => k = g) w wx)) (fun i _ => (42 - intOf i).toNat)
 case atStart => exact ⟨a + 1, by omega, by omega, by first | rfl | go_num, HI, H0, hid (Ou.refl _ _)⟩
 case round =>
   obtain ⟨i, hi1, hi2, rfl, UX, FX, OX⟩ := hrel
   have FZ : Hid (∀ k, Fa (wr.drewN k) g n d) := hid (fun k => FX.out.drewN k)
   have OZ : Hid (∀ k, Ou (fun k => k = g) w (wr.drewN k)) := hid (fun k => OX.out.drewN k)
   obtain ⟨T, HT⟩ : ∃ T : Bool, Hid (T = decide (i < b ∧ ft d (i - 1) ≤ ft d i)) := ⟨_, hid rfl⟩
   have hi1I : (i : Int) - 1 = ((i - 1 : Nat) : Int) := by omega
   go_upto_region 5 with fail
   go_cut [32] from 17 to 34 (fun s wx => s = .bool T ∧ ∃ wy, wy = wx ∧ Hid (Fa wy g n d) ∧ Hid (Ou (fun k => k = g) w wy))
   case first =>
     by_cases hle : i < b
     · have hleI : (i : Int) < (b : Int) := by omega
       have hiN : (i : Int) < (n : Int) := by omega
       have hi1N : ((i - 1 : Nat) : Int) < (n : Int) := by omega
       obtain ⟨c1, z1⟩ := FX.out.cell (j := i) (by omega)
       obtain ⟨c2, z2⟩ := FX.out.cell (j := i - 1) (by omega)
       by_cases hls : ft d i < ft d (i - 1)
       · have hld : decide (ft d i < ft d (i - 1)) = true := decide_eq_true hls
         go_quiet ((go_at_call 126; exact Calls.quiet_of_same (lessF_c _ _ _)))
         go_wp2
         go_meet
         exact ⟨by rw [HT.out, decide_eq_false (fun hh => absurd hh.2 (by omega))], _, rfl, hid (FZ.out _), hid (OZ.out _)⟩
       · have hld : decide (ft d i < ft d (i - 1)) = false := decide_eq_false hls
         go_quiet ((go_at_call 126; exact Calls.quiet_of_same (lessF_c _ _ _)))
         go_wp2
         go_meet
         exact ⟨by rw [HT.out, decide_eq_true (And.intro hle (by omega))], _, rfl, hid (FZ.out _), hid (OZ.out _)⟩
     · have hled : decide ((i : Int) < (b : Int)) = false := decide_eq_false (by omega)
       go_quiet (fail)
       go_wp2
       go_meet
       exact ⟨by rw [HT.out, decide_eq_false (fun hh => absurd hh.1 (by omega))], _, rfl, hid (FZ.out _), hid (OZ.out _)⟩
   case rest =>
     obtain ⟨rfl, wq, hwq, FQ, OQ⟩ := hcut
     subst hwq
     clear FX OX FZ OZ
     cases T with
     | true =>
       have hT : i < b ∧ ft d (i - 1) ≤ ft d i := of_decide_eq_true HT.out.symm
       have U9 : Hid (Go.Sort.scanSorted ltInt d b (i + 1) = I) := hid (by rw [← sorted_t hT.1 (by omega)]; exact UX.out)
       go_wp2
       go_roundw
       case rel => exact ⟨i + 1, by omega, by omega, by first | rfl | go_num, U9, FQ, OQ⟩
       case measure => simp [intOf] <;> omega
     | false =>
       have hT : ¬ (i < b ∧ ft d (i - 1) ≤ ft d i) := of_decide_eq_false HT.out.symm
       have UI : Hid (i = I) := hid (by have e := UX.out; rw [sorted_f hT] at e; exact e)
       obtain rfl := UI.out
       clear HT hT UX
       by_cases hib : i = b
       · subst hib
         have PT := hid (partialA_t HI.out)
         go_wp2
         go_ret
         exact ⟨⟨true, rfl, fun _ => PT.out⟩, FQ.out, OQ.out⟩
       · have hibI : ¬ (i : Int) = (b : Int) := by omega
         have hibd : ((i : Int) == (b : Int)) = false := by simp; omega
         go_wp2
         go_ret
         exact ⟨⟨false, rfl, fun e => by simp at e⟩, FQ.out, OQ.out⟩
end Go.Proofs.YtgbdplammniidaaGreatDoor
