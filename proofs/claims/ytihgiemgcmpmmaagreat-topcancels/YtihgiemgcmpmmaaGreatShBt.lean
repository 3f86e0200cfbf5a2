/-
  choosePivotOrdered, partialInsertionSortOrdered of a part of a row of fids.
  The length in bits of a number up to 40.
  breakPatternsOrdered of a part of a row of fids.
-/
import Derived.Test.YtihgiemgcmpmmaaGreatShBr
import Derived.Deep.CutRange
import Derived.Test.YtihgiemgcmpmmaaGreatShAh
namespace Go.Proofs.YtihgiemgcmpmmaaGreat
open Go.RowKit Go.ChangeShapes Go.WideShapes Go.ChangeAt
set_option linter.unusedVariables false
set_option linter.unusedSimpArgs false
set_option maxRecDepth 100000
open Go.Sort (ltInt)
def Cq (w : World) (q : Nat) (s : Nat) : Prop := w.heap[q]? = some (.cells #[.int .i64 s] 3 (0, 0))
theorem Cq.cell {w : World} {q s : Nat} (h : Cq w q s) : w.cell? ⟨q, 0, none⟩ = some (.int .i64 s) ∧ w.frozen? ⟨q, 0, none⟩ = false := by
 unfold Cq at h
 constructor
 · simp [World.cell?, h]
 · simp [World.frozen?, h]
theorem Cq.set {w : World} {q s t : Nat} (h : Cq w q s) : Cq (w.setCell ⟨q, 0, none⟩ (.int .i64 (t : Int))) q t := by
 unfold Cq at *
 simp only [World.setCell]
 rw [Array.getElem?_modify, if_pos rfl, h]
 rfl
theorem Cq.drewN {w : World} {q s : Nat} (h : Cq w q s) (k : Nat) : Cq (w.drewN k) q s := h
def O2P (q a b s : Nat) (w : World) (e : Ending) (w' : World) : Prop := ∃ x y s' : Nat, e = .returned (.tuple #[.int .i64 x, .int .i64 y]) ∧ ((x = a ∧ y = b) ∨ (x = b ∧ y = a)) ∧ s' ≤ s + 1 ∧ Cq w' q s' ∧ Ou (fun k => k = q) w w'
set_option maxHeartbeats 1000000 in
theorem order2_c (g n cap a b q s : Nat) (d : Array Int) (w : World) (h : Fa w g n d) (hq : Cq w q s) (hs : s ≤ 10) (hn : n ≤ 40) (hcap : n ≤ cap) (ha : a < n) (hb : b < n) :
   Calls Tryz.prog 135 #[.slice (some ⟨g, 0, none⟩) n cap, .int .i64 a, .int .i64 b, .pointer (some ⟨q, 0, none⟩)] w (O2P q a b s w) := by
 have haI : (a : Int) < (n : Int) := by omega
 have hbI : (b : Int) < (n : Int) := by omega
 obtain ⟨s1, Hs1⟩ : ∃ s1, Hid (s1 = s + 1) := ⟨_, hid rfl⟩
 have hsI : (s : Int) + 1 = (s1 : Int) := by have := Hs1.out; omega
 obtain ⟨c1, z1⟩ := h.cell (j := a) ha
 obtain ⟨c2, z2⟩ := h.cell (j := b) hb
 obtain ⟨c3, z3⟩ := hq.cell
 have QZ : Hid (∀ k, Cq (w.drewN k) q s) := hid (fun k => hq.drewN k)
 have OZ : Hid (∀ k, Ou (fun k => k = q) w (w.drewN k)) := hid (fun k => (Ou.refl _ _).drewN k)
 clear h hq
 go_enter Tryz.func135, Tryz.ntmps135
 go_wp2_with fail
 by_cases hls : ft d b < ft d a
 · have hld : decide (ft d b < ft d a) = true := decide_eq_true hls
   go_quiet ((go_at_call 119; exact Calls.quiet_of_same (lessF_c _ _ _)))
   have QW := hid (QZ.out nq)
   have OW := hid (OZ.out nq)
   generalize w.drewN nq = W at *
   clear QZ OZ c1 z1 c2 z2 c3 z3
   obtain ⟨c3, z3⟩ := QW.out.cell
   go_wp2
   go_ret2
   exact ⟨b, a, s1, rfl, .inr ⟨rfl, rfl⟩, by have := Hs1.out; omega, QW.out.set, OW.out.set rfl⟩
 · have hld : decide (ft d b < ft d a) = false := decide_eq_false hls
   go_quiet ((go_at_call 119; exact Calls.quiet_of_same (lessF_c _ _ _)))
   have QW := hid (QZ.out nq)
   have OW := hid (OZ.out nq)
   generalize w.drewN nq = W at *
   clear QZ OZ c1 z1 c2 z2 c3 z3
   go_wp2
   go_ret2
   exact ⟨a, b, s, rfl, .inl ⟨rfl, rfl⟩, by omega, QW.out, OW.out⟩
def MeP (q a b c s : Nat) (w : World) (e : Ending) (w' : World) : Prop := ∃ x s' : Nat, e = .returned (.int .i64 x) ∧ (x = a ∨ x = b ∨ x = c) ∧ s' ≤ s + 3 ∧ Cq w' q s' ∧ Ou (fun k => k = q) w w'
set_option maxHeartbeats 1000000 in
theorem median_c (g n cap a b c q s : Nat) (d : Array Int) (w : World) (h : Fa w g n d) (hq : Cq w q s) (hgq : ¬ g = q) (hs : s ≤ 2) (hn : n ≤ 40) (hcap : n ≤ cap) (ha : a < n) (hb : b < n) (hc : c < n) :
   Calls Tryz.prog 132 #[.slice (some ⟨g, 0, none⟩) n cap, .int .i64 a, .int .i64 b, .int .i64 c, .pointer (some ⟨q, 0, none⟩)] w (MeP q a b c s w) := by
 have O1 := hid (order2_c g n cap a b q s d w h hq (by omega) hn hcap ha hb)
 have H0 := hid h
 clear h hq
 go_enter Tryz.func132, Tryz.ntmps132
 go_wp2_with (first
   | (go_at_call 135; refine O3.out.mono ?_; rintro _ w3 ⟨x3, y3, s3, rfl, h3, hs3, Q3, U3⟩; have T7 := hid h3; have T8 := hid Q3; have T9 := hid U3; clear h3 Q3 U3)
   | (go_at_call 135; refine O2.out.mono ?_; rintro _ w2 ⟨x2, y2, s2, rfl, h2, hs2, Q2, U2⟩; have T4 := hid h2; have T5 := hid Q2; have T6 := hid U2; clear h2 Q2 U2; have hx2 : x2 < n := (by have := T4.out; omega); have F2 := hid (F1.out.out T6.out hgq); have O3 := hid (order2_c g n cap x1 x2 q s2 d w2 F2.out T5.out (by omega) hn hcap hx1 hx2))
   | (go_at_call 135; refine O1.out.mono ?_; rintro _ w1 ⟨x1, y1, s1, rfl, h1, hs1, Q1, U1⟩; have T1 := hid h1; have T2 := hid Q1; have T3 := hid U1; clear h1 Q1 U1; have hx1 : x1 < n := (by have := T1.out; omega); have hy1 : y1 < n := (by have := T1.out; omega); have F1 := hid (H0.out.out T3.out hgq); have O2 := hid (order2_c g n cap y1 c q s1 d w1 F1.out T2.out (by omega) hn hcap hy1 hc)))
 go_ret
 exact ⟨y3, s3, rfl, by (have := T1.out; have := T4.out; have := T7.out; omega), by omega, T8.out, (T3.out.trans T6.out).trans T9.out⟩
def ChP (a b : Nat) (w : World) (e : Ending) (w' : World) : Prop := ∃ p h : Nat, e = .returned (.tuple #[.int .i64 p, .int .i64 h]) ∧ a < p ∧ p < b ∧ h ≤ 1 ∧ Ou (fun _ => False) w w'
set_option maxHeartbeats 2000000 in
theorem pivotA_c (g n cap a b : Nat) (d : Array Int) (w : World) (h : Fa w g n d) (hn : n ≤ 40) (hcap : n ≤ cap) (hab : a + 12 < b) (hb : b ≤ n) :
   Calls Tryz.prog 116 #[.slice (some ⟨g, 0, none⟩) n cap, .int .i64 a, .int .i64 b] w (ChP a b w) := by
 have hg := h.lt
 have hgq : ¬ g = w.heap.size := by omega
 have FA := hid (h.out (Ou.of (S := fun _ => False) ((Below.refl w.heap.size w).alloc (Nat.le_refl _) (.cells #[.int .i64 0] 3))) id)
 have QA : Hid (Cq (w.alloc (.cells #[.int .i64 0] 3)) w.heap.size 0) := hid (heap_alloc_new _ _)
 clear h hg
 obtain ⟨L, HL⟩ : ∃ L, Hid (L = b - a) := ⟨_, hid rfl⟩
 obtain ⟨Q, HQ⟩ : ∃ Q, Hid (Q = L / 4) := ⟨_, hid rfl⟩
 obtain ⟨p2, Hp2⟩ : ∃ p2, Hid (p2 = Q * 2) := ⟨_, hid rfl⟩
 obtain ⟨p3, Hp3⟩ : ∃ p3, Hid (p3 = Q * 3) := ⟨_, hid rfl⟩
 obtain ⟨i, Hi⟩ : ∃ i, Hid (i = a + Q) := ⟨_, hid rfl⟩
 obtain ⟨j, Hj⟩ : ∃ j, Hid (j = a + p2) := ⟨_, hid rfl⟩
 obtain ⟨k, Hk⟩ : ∃ k, Hid (k = a + p3) := ⟨_, hid rfl⟩
 have hLI : (b : Int) - (a : Int) = (L : Int) := by have := HL.out; have := HQ.out; have := Hp2.out; have := Hp3.out; have := Hi.out; have := Hj.out; have := Hk.out; omega
 have hQI : (L : Int) / 4 = (Q : Int) := by have := HL.out; have := HQ.out; have := Hp2.out; have := Hp3.out; have := Hi.out; have := Hj.out; have := Hk.out; omega
 have hQT : Int.tdiv (L : Int) 4 = (Q : Int) := by rw [Int.tdiv_eq_ediv_of_nonneg (by have := HL.out; have := HQ.out; have := Hp2.out; have := Hp3.out; have := Hi.out; have := Hj.out; have := Hk.out; omega)]; exact hQI
 have h2I : (Q : Int) * 2 = (p2 : Int) := by have := HL.out; have := HQ.out; have := Hp2.out; have := Hp3.out; have := Hi.out; have := Hj.out; have := Hk.out; omega
 have h3I : (Q : Int) * 3 = (p3 : Int) := by have := HL.out; have := HQ.out; have := Hp2.out; have := Hp3.out; have := Hi.out; have := Hj.out; have := Hk.out; omega
 have hiI : (a : Int) + (Q : Int) = (i : Int) := by have := HL.out; have := HQ.out; have := Hp2.out; have := Hp3.out; have := Hi.out; have := Hj.out; have := Hk.out; omega
 have hjI : (a : Int) + (p2 : Int) = (j : Int) := by have := HL.out; have := HQ.out; have := Hp2.out; have := Hp3.out; have := Hi.out; have := Hj.out; have := Hk.out; omega
 have hkI : (a : Int) + (p3 : Int) = (k : Int) := by have := HL.out; have := HQ.out; have := Hp2.out; have := Hp3.out; have := Hi.out; have := Hj.out; have := Hk.out; omega
 have h8 : (8 : Int) ≤ (L : Int) := by have := HL.out; have := HQ.out; have := Hp2.out; have := Hp3.out; have := Hi.out; have := Hj.out; have := Hk.out; omega
 have h50 : decide ((50 : Int) ≤ (L : Int)) = false := decide_eq_false (by have := HL.out; have := HQ.out; have := Hp2.out; have := Hp3.out; have := Hi.out; have := Hj.out; have := Hk.out; omega)
 have B1 : Hid (a < i ∧ i < b ∧ a < j ∧ j < b ∧ a < k ∧ k < b) := hid ⟨by have := HL.out; have := HQ.out; have := Hp2.out; have := Hp3.out; have := Hi.out; have := Hj.out; have := Hk.out; omega, by have := HL.out; have := HQ.out; have := Hp2.out; have := Hp3.out; have := Hi.out; have := Hj.out; have := Hk.out; omega, by have := HL.out; have := HQ.out; have := Hp2.out; have := Hp3.out; have := Hi.out; have := Hj.out; have := Hk.out; omega, by have := HL.out; have := HQ.out; have := Hp2.out; have := Hp3.out; have := Hi.out; have := Hj.out; have := Hk.out; omega, by have := HL.out; have := HQ.out; have := Hp2.out; have := Hp3.out; have := Hi.out; have := Hj.out; have := Hk.out; omega, by have := HL.out; have := HQ.out; have := Hp2.out; have := Hp3.out; have := Hi.out; have := Hj.out; have := Hk.out; omega⟩
 have hL40 : L ≤ 40 := by have := HL.out; have := HQ.out; have := Hp2.out; have := Hp3.out; have := Hi.out; have := Hj.out; have := Hk.out; omega
 have hQ10 : Q ≤ 10 := by have := HL.out; have := HQ.out; have := Hp2.out; have := Hp3.out; have := Hi.out; have := Hj.out; have := Hk.out; omega
 have hp20 : p2 ≤ 20 := by have := HL.out; have := HQ.out; have := Hp2.out; have := Hp3.out; have := Hi.out; have := Hj.out; have := Hk.out; omega
 have hp30 : p3 ≤ 30 := by have := HL.out; have := HQ.out; have := Hp2.out; have := Hp3.out; have := Hi.out; have := Hj.out; have := Hk.out; omega
 clear HL HQ Hp2 Hp3 Hi Hj Hk
 have ME := hid (median_c g n cap i j k w.heap.size 0 d _ FA.out QA.out hgq (by omega) hn hcap (by have := B1.out; omega) (by have := B1.out; omega) (by have := B1.out; omega))
 have UA : Hid (Ou (fun _ => False) w (w.alloc (.cells #[.int .i64 0] 3))) := hid (Ou.of ((Below.refl w.heap.size w).alloc (Nat.le_refl _) _))
 go_enter Tryz.func116, Tryz.ntmps116
 go_upto_region 12 with (go_at_call 132; refine ME.out.mono ?_; rintro _ w1 ⟨x, s, rfl, hx, hs, Q1, U1⟩; have T1 := hid hx; have T2 := hid Q1; have T3 := hid U1; clear hx Q1 U1 ME)
 obtain ⟨c3, z3⟩ := T2.out.cell
 have OE : Hid (Ou (fun _ => False) w w1) := hid ⟨T3.out.os.trans UA.out.os, T3.out.tape.trans UA.out.tape, T3.out.output.trans UA.out.output, Nat.le_trans UA.out.size T3.out.size, fun m hm _ => (T3.out.block m (Nat.lt_of_lt_of_le hm UA.out.size) (fun e => by omega)).trans (UA.out.block m hm id)⟩
 have hx2 : a < x ∧ x < b := by have := B1.out; have := T1.out; omega
 obtain rfl | hs0 : s = 0 ∨ ¬ s = 0 := by omega
 · go_wp2
   go_ret2
   exact ⟨x, 1, rfl, hx2.1, hx2.2, by omega, OE.out⟩
 · have e0 : ((s : Int) == 0) = false := by simp [hs0]
   have e12 : ((s : Int) == 12) = false := by simp; omega
   have n0 : ¬ (s : Int) = 0 := by omega
   have n12 : ¬ (s : Int) = 12 := by omega
   go_wp2
   go_ret2
   exact ⟨x, 0, rfl, hx2.1, hx2.2, by omega, OE.out⟩
theorem sorted_t {d : Array Int} {b i : Nat} (h : i < b) (hl : ¬ ft d i < ft d (i - 1)) : Go.Sort.scanSorted ltInt d b i = Go.Sort.scanSorted ltInt d b (i + 1) := by
 have hl' : ltInt d[i]! d[i - 1]! = false := decide_eq_false hl
 rw [Go.Sort.scanSorted, if_pos (by rw [hl']; simpa using h)]
theorem sorted_f {d : Array Int} {b i : Nat} (h : ¬ (i < b ∧ ft d (i - 1) ≤ ft d i)) : Go.Sort.scanSorted ltInt d b i = i := by
 rw [Go.Sort.scanSorted, if_neg (fun hh => h (by
   rw [Bool.and_eq_true] at hh
   refine ⟨by simpa using hh.1, Int.not_lt.1 fun hl => ?_⟩
   have hl' : ltInt d[i]! d[i - 1]! = true := decide_eq_true hl
   have h2 := hh.2
   rw [hl'] at h2
   exact absurd h2 (by simp)))]
theorem partialA_t {d : Array Int} {a b : Nat} (h : Go.Sort.scanSorted ltInt d b (a + 1) = b) : Go.Sort.partialInsertionSort ltInt d a b = (d, true) := by
 unfold Go.Sort.partialInsertionSort
 rw [Go.Sort.partialIns_succ]
 simp only [h, if_pos]
def PiP (g n a b : Nat) (d : Array Int) (w : World) (e : Ending) (w' : World) : Prop := (∃ f : Bool, e = .returned (.bool f) ∧ (f = true → Go.Sort.partialInsertionSort ltInt d a b = (d, true))) ∧ Fa w' g n d ∧ Ou (fun k => k = g) w w'
set_option maxHeartbeats 4000000 in
theorem partialA_c (g n cap a b : Nat) (d : Array Int) (w : World) (h : Fa w g n d) (hn : n ≤ 40) (hcap : n ≤ cap) (hab : a < b) (hb : b ≤ n) :
   Calls Tryz.prog 118 #[.slice (some ⟨g, 0, none⟩) n cap, .int .i64 a, .int .i64 b] w (PiP g n a b d w) := by
 have H0 := hid h
 clear h
 obtain ⟨I, HI⟩ : ∃ I, Hid (Go.Sort.scanSorted ltInt d b (a + 1) = I) := ⟨_, hid rfl⟩
 obtain ⟨L, HL⟩ : ∃ L, Hid (L = b - a) := ⟨_, hid rfl⟩
 have hLI : (b : Int) - (a : Int) = (L : Int) := by have := HL.out; omega
 have hL50 : (L : Int) < 50 := by have := HL.out; omega
 go_enter Tryz.func118, Tryz.ntmps118
 go_wp2
 refine wp_loop_rounds 1 ?_
 rw [rounds_succ]
 go_wp2
 go_loopw [7] (fun v7 wx => ∃ i : Nat, a + 1 ≤ i ∧ i ≤ b ∧ v7 = .int .i64 i ∧ Hid (Go.Sort.scanSorted ltInt d b i = I) ∧ Hid (Fa wx g n d) ∧ Hid (Ou (fun k => k = g) w wx)) (fun i _ => (42 - intOf i).toNat)
 case atStart => exact ⟨a + 1, by omega, by omega, by first | rfl | go_num, HI, H0, hid (Ou.refl _ _)⟩
 case round =>
   obtain ⟨i, hi1, hi2, rfl, UX, FX, OX⟩ := hrel
   have FZ : Hid (∀ k, Fa (wr.drewN k) g n d) := hid (fun k => FX.out.drewN k)
   have OZ : Hid (∀ k, Ou (fun k => k = g) w (wr.drewN k)) := hid (fun k => OX.out.drewN k)
   obtain ⟨T, HT⟩ : ∃ T : Bool, Hid (T = decide (i < b ∧ ft d (i - 1) ≤ ft d i)) := ⟨_, hid rfl⟩
   have hi1I : (i : Int) - 1 = ((i - 1 : Nat) : Int) := by omega
   go_upto_region 5 with fail
   go_cut [32] from 17 to 34 (fun s wx => s = .bool T ∧ ∃ wy, wy = wx ∧ Hid (Fa wy g n d) ∧ Hid (Ou (fun k => k = g) w wy))
   case first =>
     by_cases hle : i < b
     · have hleI : (i : Int) < (b : Int) := by omega
       have hiN : (i : Int) < (n : Int) := by omega
       have hi1N : ((i - 1 : Nat) : Int) < (n : Int) := by omega
       obtain ⟨c1, z1⟩ := FX.out.cell (j := i) (by omega)
       obtain ⟨c2, z2⟩ := FX.out.cell (j := i - 1) (by omega)
       by_cases hls : ft d i < ft d (i - 1)
       · have hld : decide (ft d i < ft d (i - 1)) = true := decide_eq_true hls
         go_quiet ((go_at_call 119; exact Calls.quiet_of_same (lessF_c _ _ _)))
         go_wp2
         go_meet
         exact ⟨by rw [HT.out, decide_eq_false (fun hh => absurd hh.2 (by omega))], _, rfl, hid (FZ.out _), hid (OZ.out _)⟩
       · have hld : decide (ft d i < ft d (i - 1)) = false := decide_eq_false hls
         go_quiet ((go_at_call 119; exact Calls.quiet_of_same (lessF_c _ _ _)))
         go_wp2
         go_meet
         exact ⟨by rw [HT.out, decide_eq_true (And.intro hle (by omega))], _, rfl, hid (FZ.out _), hid (OZ.out _)⟩
     · have hled : decide ((i : Int) < (b : Int)) = false := decide_eq_false (by omega)
       go_quiet (fail)
       go_wp2
       go_meet
       exact ⟨by rw [HT.out, decide_eq_false (fun hh => absurd hh.1 (by omega))], _, rfl, hid (FZ.out _), hid (OZ.out _)⟩
   case rest =>
     obtain ⟨rfl, wq, hwq, FQ, OQ⟩ := hcut
     subst hwq
     clear FX OX FZ OZ
     cases T with
     | true =>
       have hT : i < b ∧ ft d (i - 1) ≤ ft d i := of_decide_eq_true HT.out.symm
       have U9 : Hid (Go.Sort.scanSorted ltInt d b (i + 1) = I) := hid (by rw [← sorted_t hT.1 (by omega)]; exact UX.out)
       go_wp2
       go_roundw
       case rel => exact ⟨i + 1, by omega, by omega, by first | rfl | go_num, U9, FQ, OQ⟩
       case measure => simp [intOf] <;> omega
     | false =>
       have hT : ¬ (i < b ∧ ft d (i - 1) ≤ ft d i) := of_decide_eq_false HT.out.symm
       have UI : Hid (i = I) := hid (by have e := UX.out; rw [sorted_f hT] at e; exact e)
       obtain rfl := UI.out
       clear HT hT UX
       by_cases hib : i = b
       · subst hib
         have PT := hid (partialA_t HI.out)
         go_wp2
         go_ret
         exact ⟨⟨true, rfl, fun _ => PT.out⟩, FQ.out, OQ.out⟩
       · have hibI : ¬ (i : Int) = (b : Int) := by omega
         have hibd : ((i : Int) == (b : Int)) = false := by simp; omega
         go_wp2
         go_ret
         exact ⟨⟨false, rfl, fun e => by simp at e⟩, FQ.out, OQ.out⟩
end Go.Proofs.YtihgiemgcmpmmaaGreat
namespace Go.Proofs.YtihgiemgcmpmmaaGreat
open Go.RowKit Go.ChangeShapes Go.WideShapes Go.ChangeAt
set_option linter.unusedVariables false
set_option linter.unusedSimpArgs false
set_option maxRecDepth 100000
set_option maxHeartbeats 4000000 in
theorem len64_40 (n : Nat) (hn : n ≤ 40) (w : World) : Calls Tryz.prog 123 #[.int .u64 n] w fun e w' => (∃ v : Nat, e = .returned (.int .i64 v) ∧ v ≤ 6 ∧ (n = 0 ∨ 2 ^ v ≤ 2 * n)) ∧ w' = w := by
 obtain h | h | h | h | h | h | h | h | h | h | h | h | h | h | h | h | h | h | h | h | h | h | h | h | h | h | h | h | h | h | h | h | h | h | h | h | h | h | h | h | h : n = 0 ∨ n = 1 ∨ n = 2 ∨ n = 3 ∨ n = 4 ∨ n = 5 ∨ n = 6 ∨ n = 7 ∨ n = 8 ∨ n = 9 ∨ n = 10 ∨ n = 11 ∨ n = 12 ∨ n = 13 ∨ n = 14 ∨ n = 15 ∨ n = 16 ∨ n = 17 ∨ n = 18 ∨ n = 19 ∨ n = 20 ∨ n = 21 ∨ n = 22 ∨ n = 23 ∨ n = 24 ∨ n = 25 ∨ n = 26 ∨ n = 27 ∨ n = 28 ∨ n = 29 ∨ n = 30 ∨ n = 31 ∨ n = 32 ∨ n = 33 ∨ n = 34 ∨ n = 35 ∨ n = 36 ∨ n = 37 ∨ n = 38 ∨ n = 39 ∨ n = 40 := by omega
 · subst h
   clear hn
   go_enter Tryz.func123, Tryz.ntmps123
   go_wp2
   go_ret
   exact ⟨⟨0, by kernel_rfl, by omega, by decide⟩, rfl⟩
 · subst h
   clear hn
   go_enter Tryz.func123, Tryz.ntmps123
   go_wp2
   go_ret
   exact ⟨⟨1, by kernel_rfl, by omega, by decide⟩, rfl⟩
 · subst h
   clear hn
   go_enter Tryz.func123, Tryz.ntmps123
   go_wp2
   go_ret
   exact ⟨⟨2, by kernel_rfl, by omega, by decide⟩, rfl⟩
 · subst h
   clear hn
   go_enter Tryz.func123, Tryz.ntmps123
   go_wp2
   go_ret
   exact ⟨⟨2, by kernel_rfl, by omega, by decide⟩, rfl⟩
 · subst h
   clear hn
   go_enter Tryz.func123, Tryz.ntmps123
   go_wp2
   go_ret
   exact ⟨⟨3, by kernel_rfl, by omega, by decide⟩, rfl⟩
 · subst h
   clear hn
   go_enter Tryz.func123, Tryz.ntmps123
   go_wp2
   go_ret
   exact ⟨⟨3, by kernel_rfl, by omega, by decide⟩, rfl⟩
 · subst h
   clear hn
   go_enter Tryz.func123, Tryz.ntmps123
   go_wp2
   go_ret
   exact ⟨⟨3, by kernel_rfl, by omega, by decide⟩, rfl⟩
 · subst h
   clear hn
   go_enter Tryz.func123, Tryz.ntmps123
   go_wp2
   go_ret
   exact ⟨⟨3, by kernel_rfl, by omega, by decide⟩, rfl⟩
 · subst h
   clear hn
   go_enter Tryz.func123, Tryz.ntmps123
   go_wp2
   go_ret
   exact ⟨⟨4, by kernel_rfl, by omega, by decide⟩, rfl⟩
 · subst h
   clear hn
   go_enter Tryz.func123, Tryz.ntmps123
   go_wp2
   go_ret
   exact ⟨⟨4, by kernel_rfl, by omega, by decide⟩, rfl⟩
 · subst h
   clear hn
   go_enter Tryz.func123, Tryz.ntmps123
   go_wp2
   go_ret
   exact ⟨⟨4, by kernel_rfl, by omega, by decide⟩, rfl⟩
 · subst h
   clear hn
   go_enter Tryz.func123, Tryz.ntmps123
   go_wp2
   go_ret
   exact ⟨⟨4, by kernel_rfl, by omega, by decide⟩, rfl⟩
 · subst h
   clear hn
   go_enter Tryz.func123, Tryz.ntmps123
   go_wp2
   go_ret
   exact ⟨⟨4, by kernel_rfl, by omega, by decide⟩, rfl⟩
 · subst h
   clear hn
   go_enter Tryz.func123, Tryz.ntmps123
   go_wp2
   go_ret
   exact ⟨⟨4, by kernel_rfl, by omega, by decide⟩, rfl⟩
 · subst h
   clear hn
   go_enter Tryz.func123, Tryz.ntmps123
   go_wp2
   go_ret
   exact ⟨⟨4, by kernel_rfl, by omega, by decide⟩, rfl⟩
 · subst h
   clear hn
   go_enter Tryz.func123, Tryz.ntmps123
   go_wp2
   go_ret
   exact ⟨⟨4, by kernel_rfl, by omega, by decide⟩, rfl⟩
 · subst h
   clear hn
   go_enter Tryz.func123, Tryz.ntmps123
   go_wp2
   go_ret
   exact ⟨⟨5, by kernel_rfl, by omega, by decide⟩, rfl⟩
 · subst h
   clear hn
   go_enter Tryz.func123, Tryz.ntmps123
   go_wp2
   go_ret
   exact ⟨⟨5, by kernel_rfl, by omega, by decide⟩, rfl⟩
 · subst h
   clear hn
   go_enter Tryz.func123, Tryz.ntmps123
   go_wp2
   go_ret
   exact ⟨⟨5, by kernel_rfl, by omega, by decide⟩, rfl⟩
 · subst h
   clear hn
   go_enter Tryz.func123, Tryz.ntmps123
   go_wp2
   go_ret
   exact ⟨⟨5, by kernel_rfl, by omega, by decide⟩, rfl⟩
 · subst h
   clear hn
   go_enter Tryz.func123, Tryz.ntmps123
   go_wp2
   go_ret
   exact ⟨⟨5, by kernel_rfl, by omega, by decide⟩, rfl⟩
 · subst h
   clear hn
   go_enter Tryz.func123, Tryz.ntmps123
   go_wp2
   go_ret
   exact ⟨⟨5, by kernel_rfl, by omega, by decide⟩, rfl⟩
 · subst h
   clear hn
   go_enter Tryz.func123, Tryz.ntmps123
   go_wp2
   go_ret
   exact ⟨⟨5, by kernel_rfl, by omega, by decide⟩, rfl⟩
 · subst h
   clear hn
   go_enter Tryz.func123, Tryz.ntmps123
   go_wp2
   go_ret
   exact ⟨⟨5, by kernel_rfl, by omega, by decide⟩, rfl⟩
 · subst h
   clear hn
   go_enter Tryz.func123, Tryz.ntmps123
   go_wp2
   go_ret
   exact ⟨⟨5, by kernel_rfl, by omega, by decide⟩, rfl⟩
 · subst h
   clear hn
   go_enter Tryz.func123, Tryz.ntmps123
   go_wp2
   go_ret
   exact ⟨⟨5, by kernel_rfl, by omega, by decide⟩, rfl⟩
 · subst h
   clear hn
   go_enter Tryz.func123, Tryz.ntmps123
   go_wp2
   go_ret
   exact ⟨⟨5, by kernel_rfl, by omega, by decide⟩, rfl⟩
 · subst h
   clear hn
   go_enter Tryz.func123, Tryz.ntmps123
   go_wp2
   go_ret
   exact ⟨⟨5, by kernel_rfl, by omega, by decide⟩, rfl⟩
 · subst h
   clear hn
   go_enter Tryz.func123, Tryz.ntmps123
   go_wp2
   go_ret
   exact ⟨⟨5, by kernel_rfl, by omega, by decide⟩, rfl⟩
 · subst h
   clear hn
   go_enter Tryz.func123, Tryz.ntmps123
   go_wp2
   go_ret
   exact ⟨⟨5, by kernel_rfl, by omega, by decide⟩, rfl⟩
 · subst h
   clear hn
   go_enter Tryz.func123, Tryz.ntmps123
   go_wp2
   go_ret
   exact ⟨⟨5, by kernel_rfl, by omega, by decide⟩, rfl⟩
 · subst h
   clear hn
   go_enter Tryz.func123, Tryz.ntmps123
   go_wp2
   go_ret
   exact ⟨⟨5, by kernel_rfl, by omega, by decide⟩, rfl⟩
 · subst h
   clear hn
   go_enter Tryz.func123, Tryz.ntmps123
   go_wp2
   go_ret
   exact ⟨⟨6, by kernel_rfl, by omega, by decide⟩, rfl⟩
 · subst h
   clear hn
   go_enter Tryz.func123, Tryz.ntmps123
   go_wp2
   go_ret
   exact ⟨⟨6, by kernel_rfl, by omega, by decide⟩, rfl⟩
 · subst h
   clear hn
   go_enter Tryz.func123, Tryz.ntmps123
   go_wp2
   go_ret
   exact ⟨⟨6, by kernel_rfl, by omega, by decide⟩, rfl⟩
 · subst h
   clear hn
   go_enter Tryz.func123, Tryz.ntmps123
   go_wp2
   go_ret
   exact ⟨⟨6, by kernel_rfl, by omega, by decide⟩, rfl⟩
 · subst h
   clear hn
   go_enter Tryz.func123, Tryz.ntmps123
   go_wp2
   go_ret
   exact ⟨⟨6, by kernel_rfl, by omega, by decide⟩, rfl⟩
 · subst h
   clear hn
   go_enter Tryz.func123, Tryz.ntmps123
   go_wp2
   go_ret
   exact ⟨⟨6, by kernel_rfl, by omega, by decide⟩, rfl⟩
 · subst h
   clear hn
   go_enter Tryz.func123, Tryz.ntmps123
   go_wp2
   go_ret
   exact ⟨⟨6, by kernel_rfl, by omega, by decide⟩, rfl⟩
 · subst h
   clear hn
   go_enter Tryz.func123, Tryz.ntmps123
   go_wp2
   go_ret
   exact ⟨⟨6, by kernel_rfl, by omega, by decide⟩, rfl⟩
 · subst h
   clear hn
   go_enter Tryz.func123, Tryz.ntmps123
   go_wp2
   go_ret
   exact ⟨⟨6, by kernel_rfl, by omega, by decide⟩, rfl⟩
theorem len_40 (n : Nat) (hn : n ≤ 40) (w : World) : Calls Tryz.prog 97 #[.int .u64 n] w fun e w' => (∃ v : Nat, e = .returned (.int .i64 v) ∧ v ≤ 6 ∧ (n = 0 ∨ 2 ^ v ≤ 2 * n)) ∧ w' = w := by
 go_enter Tryz.func97, Tryz.ntmps97
 go_wp2_with (go_at_call 123; refine (len64_40 n hn _).mono ?_; rintro _ w1 ⟨⟨v, rfl, hv, hv2⟩, h1⟩; rw [h1])
 go_ret
 exact ⟨⟨_, rfl, hv, hv2⟩, rfl⟩
end Go.Proofs.YtihgiemgcmpmmaaGreat
namespace Go.Proofs.YtihgiemgcmpmmaaGreat
open Go.RowKit Go.ChangeShapes Go.WideShapes Go.ChangeAt
set_option linter.unusedVariables false
set_option linter.unusedSimpArgs false
set_option maxRecDepth 100000
open Go.Sort (ltInt)
theorem and_le (x : Int) (m : Nat) (hm : m < 64) : ∃ o : Nat, bits BinOp.and IntKind.u64 x (m : Int) = (o : Int) ∧ o ≤ m := by
 refine ⟨(BitVec.ofInt 64 x &&& BitVec.ofInt 64 (m : Int)).toNat, ?_, ?_⟩
 · have h : (BitVec.ofInt 64 x &&& BitVec.ofInt 64 (m : Int)).toNat < 2 ^ 64 := BitVec.isLt _
   show IntKind.wrap IntKind.u64 ((BitVec.ofInt 64 x &&& BitVec.ofInt 64 (m : Int)).toNat : Int) = _
   generalize (BitVec.ofInt 64 x &&& BitVec.ofInt 64 (m : Int)).toNat = y at *
   rw [IntKind.wrap_u64]
   omega
 · rw [BitVec.toNat_and]
   refine Nat.le_trans Nat.and_le_right ?_
   rw [BitVec.toNat_ofInt]
   omega
set_option maxHeartbeats 1000000 in
theorem npow_c (n : Nat) (h0 : 1 ≤ n) (hn : n ≤ 40) (w : World) : Calls Tryz.prog 129 #[.int .i64 n] w fun e w' => (∃ m : Nat, e = .returned (.int .u64 m) ∧ 1 ≤ m ∧ m ≤ 2 * n ∧ m ≤ 64) ∧ w' = w := by
 have LC := hid (fun W => len_40 n hn W)
 go_enter Tryz.func129, Tryz.ntmps129
 go_wp2_with (go_at_call 97; refine (LC.out _).mono ?_; rintro _ w1 ⟨⟨v, rfl, hv, hv2⟩, h1⟩; rw [h1]; obtain rfl | rfl | rfl | rfl | rfl | rfl | rfl : v = 0 ∨ v = 1 ∨ v = 2 ∨ v = 3 ∨ v = 4 ∨ v = 5 ∨ v = 6 := (by omega))
 · go_ret
   exact ⟨⟨1, by kernel_rfl, by omega, by omega, by omega⟩, rfl⟩
 · go_ret
   exact ⟨⟨2, by kernel_rfl, by omega, by omega, by omega⟩, rfl⟩
 · go_ret
   exact ⟨⟨4, by kernel_rfl, by omega, by omega, by omega⟩, rfl⟩
 · go_ret
   exact ⟨⟨8, by kernel_rfl, by omega, by omega, by omega⟩, rfl⟩
 · go_ret
   exact ⟨⟨16, by kernel_rfl, by omega, by omega, by omega⟩, rfl⟩
 · go_ret
   exact ⟨⟨32, by kernel_rfl, by omega, by omega, by omega⟩, rfl⟩
 · go_ret
   exact ⟨⟨64, by kernel_rfl, by omega, by omega, by omega⟩, rfl⟩
def Xq (w : World) (q : Nat) (x : Int) : Prop := w.heap[q]? = some (.cells #[.int .u64 x] 185 (0, 0))
theorem Xq.cell {w : World} {q : Nat} {x : Int} (h : Xq w q x) : w.cell? ⟨q, 0, none⟩ = some (.int .u64 x) ∧ w.frozen? ⟨q, 0, none⟩ = false := by
 unfold Xq at h
 constructor
 · simp [World.cell?, h]
 · simp [World.frozen?, h]
theorem Xq.set {w : World} {q : Nat} {x y : Int} (h : Xq w q x) : Xq (w.setCell ⟨q, 0, none⟩ (.int .u64 y)).drew q y := by
 unfold Xq at *
 simp only [World.setCell, World.drew]
 rw [Array.getElem?_modify, if_pos rfl, h]
 rfl
theorem Xq.swp2 {w : World} {q g i j : Nat} {z : Int} {x y : Value} (h : Xq w q z) (hg : ¬ q = g) : Xq ((w.setCell ⟨g, i, none⟩ x).setCell ⟨g, j, none⟩ y).drew q z := by
 unfold Xq at *
 show ((w.setCell ⟨g, i, none⟩ x).setCell ⟨g, j, none⟩ y).heap[q]? = _
 rw [heap_setCell_other _ _ _ _ (by omega), heap_setCell_other _ _ _ _ (by omega)]
 exact h
theorem Xq.lt {w : World} {q : Nat} {x : Int} (h : Xq w q x) : q < w.heap.size := lt_blkC h
theorem Ou.swp2 {w w0 : World} {g q i j : Nat} {x y : Value} (h : Ou (fun k => k = g ∨ k = q) w0 w) : Ou (fun k => k = g ∨ k = q) w0 ((w.setCell ⟨g, i, none⟩ x).setCell ⟨g, j, none⟩ y).drew := ((h.set (.inl rfl)).set (.inl rfl)).drew
set_option maxHeartbeats 1000000 in
theorem xnext_c (q : Nat) (x : Int) (w : World) (h : Xq w q x) : Calls Tryz.prog 130 #[.pointer (some ⟨q, 0, none⟩)] w fun e w' => ∃ y : Int, e = .returned (.int .u64 y) ∧ Xq w' q y ∧ Ou (fun k => k = q) w w' := by
 have H0 := hid h
 have O0 : Hid (Ou (fun k => k = q) w w) := hid (Ou.refl _ _)
 obtain ⟨c1, z1⟩ := h.cell
 clear h
 go_enter Tryz.func130, Tryz.ntmps130
 go_wp2_with fail
 go_region
 generalize bits BinOp.xor IntKind.u64 x _ = y1
 have H1 := hid (H0.out.set (y := y1))
 have O1 := hid ((O0.out.set (o := 0) (v := .int .u64 y1) rfl).drew)
 clear c1 z1 H0 O0
 generalize (World.setCell w _ _).drew = w1 at *
 obtain ⟨c1, z1⟩ := H1.out.cell
 go_wp2_with fail
 go_region
 generalize bits BinOp.xor IntKind.u64 y1 _ = y2
 have H2 := hid (H1.out.set (y := y2))
 have O2 := hid ((O1.out.set (o := 0) (v := .int .u64 y2) rfl).drew)
 clear c1 z1 H1 O1
 generalize (World.setCell w1 _ _).drew = w2 at *
 obtain ⟨c1, z1⟩ := H2.out.cell
 go_wp2_with fail
 go_region
 generalize bits BinOp.xor IntKind.u64 y2 _ = y3
 have H3 := hid (H2.out.set (y := y3))
 have O3 := hid ((O2.out.set (o := 0) (v := .int .u64 y3) rfl).drew)
 clear c1 z1 H2 O2
 generalize (World.setCell w2 _ _).drew = w3 at *
 obtain ⟨c1, z1⟩ := H3.out.cell
 go_wp2
 go_ret
 exact ⟨y3, rfl, H3.out, O3.out⟩
def BpP (g n a b : Nat) (d : Array Int) (w : World) (e : Ending) (w' : World) : Prop := e = .returned (.tuple #[]) ∧ (∃ d', Go.Sort.PermIn a b d d' ∧ Fa w' g n d') ∧ Ou (fun k => k = g) w w'
set_option maxHeartbeats 8000000 in
theorem breakA_c (g n cap a b : Nat) (d : Array Int) (w : World) (h : Fa w g n d) (hn : n ≤ 40) (hcap : n ≤ cap) (hab : a + 12 < b) (hb : b ≤ n) :
   Calls Tryz.prog 115 #[.slice (some ⟨g, 0, none⟩) n cap, .int .i64 a, .int .i64 b] w (BpP g n a b d w) := by
 have hg := h.lt
 have hgq : ¬ g = w.heap.size := by omega
 have hqg : ¬ w.heap.size = g := by omega
 obtain ⟨L, HL⟩ : ∃ L, Hid (L = b - a) := ⟨_, hid rfl⟩
 obtain ⟨Q, HQ⟩ : ∃ Q, Hid (Q = L / 4) := ⟨_, hid rfl⟩
 obtain ⟨p2, Hp2⟩ : ∃ p2, Hid (p2 = Q * 2) := ⟨_, hid rfl⟩
 obtain ⟨p3, Hp3⟩ : ∃ p3, Hid (p3 = a + p2) := ⟨_, hid rfl⟩
 obtain ⟨s0, Hs0⟩ : ∃ s0, Hid (s0 = p3 - 1) := ⟨_, hid rfl⟩
 obtain ⟨s2, Hs2⟩ : ∃ s2, Hid (s2 = p3 + 1) := ⟨_, hid rfl⟩
 have FA := hid (h.out (Ou.of (S := fun _ => False) ((Below.refl w.heap.size w).alloc (Nat.le_refl _) (.cells #[.int .u64 (L : Int)] 185))) id)
 have XA : Hid (Xq (w.alloc (.cells #[.int .u64 (L : Int)] 185)) w.heap.size (L : Int)) := hid (heap_alloc_new _ _)
 have OA : Hid (Ou (fun k => k = g ∨ k = w.heap.size) w (w.alloc (.cells #[.int .u64 (L : Int)] 185))) := hid (Ou.of ((Below.refl w.heap.size w).alloc (Nat.le_refl _) _))
 clear h hg
 have hLI : (b : Int) - (a : Int) = (L : Int) := by have := HL.out; have := HQ.out; have := Hp2.out; have := Hp3.out; have := Hs0.out; have := Hs2.out; omega
 have hQI : (L : Int) / 4 = (Q : Int) := by have := HL.out; have := HQ.out; have := Hp2.out; have := Hp3.out; have := Hs0.out; have := Hs2.out; omega
 have hQT : Int.tdiv (L : Int) 4 = (Q : Int) := by rw [Int.tdiv_eq_ediv_of_nonneg (by have := HL.out; have := HQ.out; have := Hp2.out; have := Hp3.out; have := Hs0.out; have := Hs2.out; omega)]; exact hQI
 have h2I : (Q : Int) * 2 = (p2 : Int) := by have := HL.out; have := HQ.out; have := Hp2.out; have := Hp3.out; have := Hs0.out; have := Hs2.out; omega
 have h3I : (a : Int) + (p2 : Int) = (p3 : Int) := by have := HL.out; have := HQ.out; have := Hp2.out; have := Hp3.out; have := Hs0.out; have := Hs2.out; omega
 have h4I : (p3 : Int) - 1 = (s0 : Int) := by have := HL.out; have := HQ.out; have := Hp2.out; have := Hp3.out; have := Hs0.out; have := Hs2.out; omega
 have h5I : (p3 : Int) + 1 = (s2 : Int) := by have := HL.out; have := HQ.out; have := Hp2.out; have := Hp3.out; have := Hs0.out; have := Hs2.out; omega
 have h8 : (8 : Int) ≤ (L : Int) := by have := HL.out; have := HQ.out; have := Hp2.out; have := Hp3.out; have := Hs0.out; have := Hs2.out; omega
 have hL40 : L ≤ 40 := by have := HL.out; have := HQ.out; have := Hp2.out; have := Hp3.out; have := Hs0.out; have := Hs2.out; omega
 have hL1 : 12 < L := by have := HL.out; have := HQ.out; have := Hp2.out; have := Hp3.out; have := Hs0.out; have := Hs2.out; omega
 have hQ10 : Q ≤ 10 := by have := HL.out; have := HQ.out; have := Hp2.out; have := Hp3.out; have := Hs0.out; have := Hs2.out; omega
 have hp20 : p2 ≤ 20 := by have := HL.out; have := HQ.out; have := Hp2.out; have := Hp3.out; have := Hs0.out; have := Hs2.out; omega
 have hp30 : p3 ≤ 60 := by have := HL.out; have := HQ.out; have := Hp2.out; have := Hp3.out; have := Hs0.out; have := Hs2.out; omega
 have hs : a ≤ s0 ∧ s2 < b ∧ s0 + 2 = s2 := by have := HL.out; have := HQ.out; have := Hp2.out; have := Hp3.out; have := Hs0.out; have := Hs2.out; omega
 have haL : a + L ≤ n := by have := HL.out; have := HQ.out; have := Hp2.out; have := Hp3.out; have := Hs0.out; have := Hs2.out; omega
 have hbL : a + L = b := by have := HL.out; have := HQ.out; have := Hp2.out; have := Hp3.out; have := Hs0.out; have := Hs2.out; omega
 clear HL HQ Hp2 Hp3 Hs0 Hs2
 have NP := hid (fun W => npow_c L (by omega) hL40 W)
 go_enter Tryz.func115, Tryz.ntmps115
 go_wp2_with (go_at_call 129; refine (NP.out _).mono ?_; rintro _ wz ⟨⟨m, rfl, hm1, hm2, hm3⟩, hwz⟩; rw [hwz]; clear hwz wz NP)
 obtain ⟨m1, Hm1⟩ : ∃ m1, Hid (m1 = m - 1) := ⟨_, hid rfl⟩
 have hm1I : (m : Int) - 1 = (m1 : Int) := by have := Hm1.out; omega
 have hm1L : m1 < 2 * L := by have := Hm1.out; omega
 have hm164 : m1 < 64 := by have := Hm1.out; omega
 clear Hm1
 generalize w.alloc (.cells #[.int .u64 (L : Int)] 185) = wA at *
 go_loopw [9] (fun v9 wx => ∃ (i : Nat) (d' : Array Int) (x : Int), s0 ≤ i ∧ i ≤ s0 + 3 ∧ v9 = .int .i64 i ∧ Hid (Fa wx g n d') ∧ Hid (Go.Sort.PermIn a b d d') ∧ Hid (Xq wx w.heap.size x) ∧ Hid (Ou (fun k => k = g ∨ k = w.heap.size) w wx)) (fun i _ => (100 - intOf i).toNat)
 case atStart => exact ⟨s0, d, L, by omega, by omega, by first | rfl | go_num, FA, hid (Go.Sort.permIn_refl _ _ _), XA, OA⟩
 case round =>
   clear FA XA OA
   obtain ⟨i, d', x, hi1, hi2, rfl, FX, PX, XX, OX⟩ := hrel
   by_cases hlt : i ≤ s2
   · have hltI : (i : Int) ≤ (s2 : Int) := by omega
     have hiN : (i : Int) < (n : Int) := by omega
     have XN := hid (xnext_c _ x wr XX.out)
     go_upto_region 8 with (go_at_call 130; refine XN.out.mono ?_; rintro _ w1 ⟨y, rfl, X1, O1⟩; have XY := hid X1; have OO := hid O1; clear X1 O1; obtain ⟨o, ho, ho2⟩ := and_le y m1 hm164; have ho64 : o < 64 := (by omega))
     have FY := hid (FX.out.out OO.out hgq)
     have OY : Hid (Ou (fun k => k = g ∨ k = w.heap.size) w w1) := hid (OX.out.trans (OO.out.mono (fun k hk => .inr hk)))
     clear FX OX XX XN OO
     by_cases hoL : o < L
     · have hod : decide ((L : Int) ≤ (o : Int)) = false := decide_eq_false (by omega)
       obtain ⟨r, Hr⟩ : ∃ r, Hid (r = a + o) := ⟨_, hid rfl⟩
       have hrI : (a : Int) + (o : Int) = (r : Int) := by have := Hr.out; omega
       have hrN : (r : Int) < (n : Int) := by have := Hr.out; omega
       by_cases hir : i = r
       · subst hir
         obtain ⟨c1, z1⟩ := FY.out.cell (j := i) (by have := Hr.out; omega)
         go_wp2_with fail
         go_region
         have F9 := hid (FY.out.swp' (i := i) (j := i) (by have := Hr.out; omega) (by have := Hr.out; omega))
         have O9 := hid (OY.out.swp2 (i := i) (j := i) (x := .int .u32 (ft d' i)) (y := .int .u32 (ft d' i)))
         have X9 := hid (XY.out.swp2 hqg (i := i) (j := i) (x := .int .u32 (ft d' i)) (y := .int .u32 (ft d' i)))
         have P9 := hid (Go.Sort.permIn_trans _ _ _ _ _ PX.out (Go.Sort.swp_permIn d' a b i i (by have := Hr.out; omega) (by have := Hr.out; omega) (by have := Hr.out; omega) (by have := Hr.out; omega) (by have := FY.out.size; omega)))
         clear c1 z1
         go_wp2
         go_roundw
         case rel => exact ⟨i + 1, _, _, by have := Hr.out; omega, by have := Hr.out; omega, by first | rfl | go_num, F9, P9, X9, O9⟩
         case measure => simp [intOf] <;> omega
       · have hri : ¬ r = i := fun e => hir e.symm
         obtain ⟨c1, z1⟩ := FY.out.cell (j := i) (by have := Hr.out; omega)
         obtain ⟨c2, z2⟩ := FY.out.cell (j := r) (by have := Hr.out; omega)
         go_wp2_with fail
         go_region
         have F9 := hid (FY.out.swp' (i := i) (j := r) (by have := Hr.out; omega) (by have := Hr.out; omega))
         have O9 := hid (OY.out.swp2 (i := i) (j := r) (x := .int .u32 (ft d' r)) (y := .int .u32 (ft d' i)))
         have X9 := hid (XY.out.swp2 hqg (i := i) (j := r) (x := .int .u32 (ft d' r)) (y := .int .u32 (ft d' i)))
         have P9 := hid (Go.Sort.permIn_trans _ _ _ _ _ PX.out (Go.Sort.swp_permIn d' a b i r (by have := Hr.out; omega) (by have := Hr.out; omega) (by have := Hr.out; omega) (by have := Hr.out; omega) (by have := FY.out.size; omega)))
         clear c1 z1 c2 z2
         go_wp2
         go_roundw
         case rel => exact ⟨i + 1, _, _, by have := Hr.out; omega, by have := Hr.out; omega, by first | rfl | go_num, F9, P9, X9, O9⟩
         case measure => simp [intOf] <;> omega
     · have hod : (L : Int) ≤ (o : Int) := by omega
       obtain ⟨o2, Ho2⟩ : ∃ o2, Hid (o2 = o - L) := ⟨_, hid rfl⟩
       have ho2I : (o : Int) - (L : Int) = (o2 : Int) := by have := Ho2.out; omega
       obtain ⟨r, Hr⟩ : ∃ r, Hid (r = a + o2) := ⟨_, hid rfl⟩
       have hrI : (a : Int) + (o2 : Int) = (r : Int) := by have := Ho2.out; have := Hr.out; omega
       have hrN : (r : Int) < (n : Int) := by have := Ho2.out; have := Hr.out; omega
       by_cases hir : i = r
       · subst hir
         obtain ⟨c1, z1⟩ := FY.out.cell (j := i) (by have := Ho2.out; have := Hr.out; omega)
         go_wp2_with fail
         go_region
         have F9 := hid (FY.out.swp' (i := i) (j := i) (by have := Ho2.out; have := Hr.out; omega) (by have := Ho2.out; have := Hr.out; omega))
         have O9 := hid (OY.out.swp2 (i := i) (j := i) (x := .int .u32 (ft d' i)) (y := .int .u32 (ft d' i)))
         have X9 := hid (XY.out.swp2 hqg (i := i) (j := i) (x := .int .u32 (ft d' i)) (y := .int .u32 (ft d' i)))
         have P9 := hid (Go.Sort.permIn_trans _ _ _ _ _ PX.out (Go.Sort.swp_permIn d' a b i i (by have := Ho2.out; have := Hr.out; omega) (by have := Ho2.out; have := Hr.out; omega) (by have := Ho2.out; have := Hr.out; omega) (by have := Ho2.out; have := Hr.out; omega) (by have := FY.out.size; omega)))
         clear c1 z1
         go_wp2
         go_roundw
         case rel => exact ⟨i + 1, _, _, by have := Ho2.out; have := Hr.out; omega, by have := Ho2.out; have := Hr.out; omega, by first | rfl | go_num, F9, P9, X9, O9⟩
         case measure => simp [intOf] <;> omega
       · have hri : ¬ r = i := fun e => hir e.symm
         obtain ⟨c1, z1⟩ := FY.out.cell (j := i) (by have := Ho2.out; have := Hr.out; omega)
         obtain ⟨c2, z2⟩ := FY.out.cell (j := r) (by have := Ho2.out; have := Hr.out; omega)
         go_wp2_with fail
         go_region
         have F9 := hid (FY.out.swp' (i := i) (j := r) (by have := Ho2.out; have := Hr.out; omega) (by have := Ho2.out; have := Hr.out; omega))
         have O9 := hid (OY.out.swp2 (i := i) (j := r) (x := .int .u32 (ft d' r)) (y := .int .u32 (ft d' i)))
         have X9 := hid (XY.out.swp2 hqg (i := i) (j := r) (x := .int .u32 (ft d' r)) (y := .int .u32 (ft d' i)))
         have P9 := hid (Go.Sort.permIn_trans _ _ _ _ _ PX.out (Go.Sort.swp_permIn d' a b i r (by have := Ho2.out; have := Hr.out; omega) (by have := Ho2.out; have := Hr.out; omega) (by have := Ho2.out; have := Hr.out; omega) (by have := Ho2.out; have := Hr.out; omega) (by have := FY.out.size; omega)))
         clear c1 z1 c2 z2
         go_wp2
         go_roundw
         case rel => exact ⟨i + 1, _, _, by have := Ho2.out; have := Hr.out; omega, by have := Ho2.out; have := Hr.out; omega, by first | rfl | go_num, F9, P9, X9, O9⟩
         case measure => simp [intOf] <;> omega
   · have hltI : decide ((i : Int) ≤ (s2 : Int)) = false := decide_eq_false (by omega)
     have OE : Hid (Ou (fun k => k = g) w wr) := hid ⟨OX.out.os, OX.out.tape, OX.out.output, OX.out.size, fun k hk hn => OX.out.block k hk (fun e => by omega)⟩
     go_wp2
     exact body_endF (by kernel_rfl) rfl ⟨rfl, ⟨d', PX.out, FX.out⟩, OE.out⟩
end Go.Proofs.YtihgiemgcmpmmaaGreat
