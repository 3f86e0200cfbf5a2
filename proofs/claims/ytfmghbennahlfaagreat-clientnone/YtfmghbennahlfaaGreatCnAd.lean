/-
  
-/
import Derived.Test.YtfmghbennahlfaaGreatCnAa
import Derived.ChangeArms
import Derived.ChangeOld
import Derived.Below
import Derived.Deep.RegionHeld3
import Derived.Deep.LoopGhost
import Derived.Deep.RegionWith
import Derived.BigQuiet
import Derived.Deep.QuietTactic
import Derived.Maps.RangeWalk
import Derived.Maps.OwnSet
import Derived.Stop.BytesEq
import Derived.Laws.Rows
import Derived.Deep.MidRow
namespace Go.Proofs.YtfmghbennahlfaaGreat
open Go.RowKit Go.ChangeShapes Go.WideShapes Go.ChangeAt
set_option linter.unusedVariables false
set_option linter.unusedSimpArgs false
set_option maxRecDepth 100000
structure Ou (S : Nat → Prop) (w w' : World) : Prop where
 os : w'.os = w.os
 tape : w'.tape = w.tape
 output : w'.output = w.output
 size : w.heap.size ≤ w'.heap.size
 block : ∀ k, k < w.heap.size → ¬ S k → w'.heap[k]? = w.heap[k]?
theorem Ou.refl (S : Nat → Prop) (w : World) : Ou S w w := ⟨rfl, rfl, rfl, Nat.le_refl _, fun _ _ _ => rfl⟩
theorem Ou.trans {S : Nat → Prop} {a b c : World} (h : Ou S a b) (k : Ou S b c) : Ou S a c :=
 ⟨k.os.trans h.os, k.tape.trans h.tape, k.output.trans h.output, Nat.le_trans h.size k.size, fun i hi hS => (k.block i (Nat.lt_of_lt_of_le hi h.size) hS).trans (h.block i hi hS)⟩
theorem Ou.mono {S T : Nat → Prop} {a b : World} (h : Ou S a b) (k : ∀ i, S i → T i) : Ou T a b := ⟨h.os, h.tape, h.output, h.size, fun i hi hS => h.block i hi fun e => hS (k i e)⟩
theorem Ou.of {S : Nat → Prop} {w w' : World} (h : Below w.heap.size w w') : Ou S w w' := ⟨h.os, h.tape, h.output, h.size, fun i hi _ => h.block i hi⟩
theorem Ou.below {S : Nat → Prop} {w w' : World} {B : Nat} (h : Ou S w w') (hB : B ≤ w.heap.size) (hS : ∀ k, S k → B ≤ k) : Below B w w' :=
 ⟨h.os, h.tape, h.output, h.size, fun i hi => h.block i (by omega) (fun e => by have := hS i e; omega)⟩
theorem Ou.alloc {S : Nat → Prop} {a w : World} (h : Ou S a w) (o : Obj) : Ou S a (w.alloc o) :=
 h.trans (Ou.of ((Below.refl _ _).alloc (Nat.le_refl _) o))
theorem Ou.drew {S : Nat → Prop} {a w : World} (h : Ou S a w) : Ou S a w.drew := ⟨h.os, h.tape, h.output, h.size, h.block⟩
theorem Ou.set {S : Nat → Prop} {a w : World} (h : Ou S a w) {g o : Nat} {v : Value} (hS : S g) : Ou S a (w.setCell ⟨g, o, none⟩ v) :=
 h.trans ⟨rfl, rfl, rfl, by simp [World.setCell], fun k hk hn => heap_setCell_other _ _ _ _ (fun e => hn (e ▸ hS))⟩
theorem lt_blkC {w : World} {g : Nat} {o : Obj} (h : w.heap[g]? = some o) : g < w.heap.size := by
 have := (Array.getElem?_eq_some_iff.1 h).1; exact this
theorem body_endF {P : Program} {fn : Func} {R : Ending → World → Prop} {a : Act} {w : World} (hr : fn.results = #[]) (hd : a.defers = []) (hR : R (.returned (.tuple #[])) w) : bodyPost P fn R .normal a w :=
 bodyPost_end (v := .tuple #[]) (by simp [results, hr, go_sem]) hd hR
def FidsAt (w : World) (g n : Nat) (f : Nat → Int) : Prop := ∃ cs : Array Value, w.heap[g]? = some (.cells cs 35 (0, 0)) ∧ n ≤ cs.size ∧ ∀ j, j < n → cs[j]? = some (.int .u32 (f j))
theorem FidsAt.out {S : Nat → Prop} {w w' : World} {g n : Nat} {f : Nat → Int} (h : FidsAt w g n f) (ho : Ou S w w') (hg : ¬ S g) : FidsAt w' g n f := by
 obtain ⟨cs, h1, h2, h3⟩ := h
 exact ⟨cs, by rw [ho.block g (lt_blkC h1) hg]; exact h1, h2, h3⟩
theorem FidsAt.lt {w : World} {g n : Nat} {f : Nat → Int} (h : FidsAt w g n f) : g < w.heap.size := by obtain ⟨cs, h1, _⟩ := h; exact lt_blkC h1
theorem FidsAt.cell {w : World} {g n : Nat} {f : Nat → Int} (h : FidsAt w g n f) {j : Nat} (hj : j < n) : w.cell? ⟨g, j, none⟩ = some (.int .u32 (f j)) ∧ w.frozen? ⟨g, j, none⟩ = false := by
 obtain ⟨cs, h1, h2, h3⟩ := h
 constructor
 · have := h3 j hj
   simp [World.cell?, h1, this]
 · simp [World.frozen?, h1]
theorem FidsAt.set {w : World} {g n : Nat} {f : Nat → Int} (h : FidsAt w g n f) {j : Nat} (hj : j < n) (x : Int) : FidsAt (w.setCell ⟨g, j, none⟩ (.int .u32 x)) g n (fun k => if k = j then x else f k) := by
 obtain ⟨cs, h1, h2, h3⟩ := h
 refine ⟨cs.setIfInBounds j (.int .u32 x), ?_, by simp [h2], fun k hk => ?_⟩
 · simp only [World.setCell]
   rw [Array.getElem?_modify, if_pos rfl, h1]
   rfl
 · by_cases e : k = j
   · subst e; simp [Nat.lt_of_lt_of_le hk h2]
   · rw [Array.getElem?_setIfInBounds_ne (by omega), h3 k hk]; simp [e]
theorem FidsAt.drew {w : World} {g n : Nat} {f : Nat → Int} (h : FidsAt w g n f) : FidsAt w.drew g n f := h
theorem heap_drewN (w : World) (k : Nat) : (w.drewN k).heap = w.heap := rfl
theorem FidsAt.drewN {w : World} {g n : Nat} {f : Nat → Int} (h : FidsAt w g n f) (k : Nat) : FidsAt (w.drewN k) g n f := by
 unfold FidsAt at *; rw [heap_drewN]; exact h
theorem Ou.drewN {S : Nat → Prop} {a w : World} (h : Ou S a w) (k : Nat) : Ou S a (w.drewN k) := ⟨h.os, h.tape, h.output, h.size, h.block⟩
theorem FidsAt.ext {w : World} {g n : Nat} {f f' : Nat → Int} (h : FidsAt w g n f) (e : ∀ j, j < n → f' j = f j) : FidsAt w g n f' := by
 obtain ⟨cs, h1, h2, h3⟩ := h
 exact ⟨cs, h1, h2, fun j hj => by rw [h3 j hj, e j hj]⟩
def swF (f : Nat → Int) (j : Nat) : Nat → Int := fun k => if k = j then f (j - 1) else if k = j - 1 then f j else f k
def SameF (n : Nat) (f g : Nat → Int) : Prop := (∀ x, (∃ k, k < n ∧ f k = x) ↔ ∃ k, k < n ∧ g k = x) ∧ ∀ a b, a < n → b < n → g a = g b → a = b
theorem swF_same {n : Nat} {f0 f : Nat → Int} (h : SameF n f0 f) {j : Nat} (h0 : 0 < j) (hj : j < n) : SameF n f0 (swF f j) := by
 obtain ⟨h1, h2⟩ := h
 have e1 : swF f j j = f (j - 1) := by unfold swF; rw [if_pos rfl]
 have e2 : swF f j (j - 1) = f j := by unfold swF; rw [if_neg (by omega), if_pos rfl]
 have e3 : ∀ k, k ≠ j → k ≠ j - 1 → swF f j k = f k := fun k q1 q2 => by unfold swF; rw [if_neg q1, if_neg q2]
 refine ⟨fun x => ?_, fun a b ha hb hab => ?_⟩
 · rw [h1 x]
   constructor
   · rintro ⟨k, hk, rfl⟩
     by_cases q1 : k = j
     · exact ⟨j - 1, by omega, by rw [e2, q1]⟩
     · by_cases q2 : k = j - 1
       · exact ⟨j, hj, by rw [e1, q2]⟩
       · exact ⟨k, hk, e3 k q1 q2⟩
   · rintro ⟨k, hk, rfl⟩
     by_cases q1 : k = j
     · exact ⟨j - 1, by omega, by rw [q1, e1]⟩
     · by_cases q2 : k = j - 1
       · exact ⟨j, hj, by rw [q2, e2]⟩
       · exact ⟨k, hk, (e3 k q1 q2).symm⟩
 · by_cases p1 : a = j
   · by_cases q1 : b = j
     · omega
     · by_cases q2 : b = j - 1
       · rw [p1, q2, e1, e2] at hab; have := h2 _ _ (by omega) hj hab; omega
       · rw [p1, e1, e3 b q1 q2] at hab; have := h2 _ _ (by omega) hb hab; omega
   · by_cases p2 : a = j - 1
     · by_cases q1 : b = j
       · rw [p2, q1, e1, e2] at hab; have := h2 _ _ hj (by omega) hab; omega
       · by_cases q2 : b = j - 1
         · omega
         · rw [p2, e2, e3 b q1 q2] at hab; have := h2 _ _ hj hb hab; omega
     · by_cases q1 : b = j
       · rw [q1, e1, e3 a p1 p2] at hab; have := h2 _ _ ha (by omega) hab; omega
       · by_cases q2 : b = j - 1
         · rw [q2, e2, e3 a p1 p2] at hab; have := h2 _ _ ha hj hab; omega
         · rw [e3 a p1 p2, e3 b q1 q2] at hab; exact h2 _ _ ha hb hab
def UpF (n : Nat) (f : Nat → Int) : Prop := ∀ a b, a < b → b < n → f a ≤ f b
def NearF (i j : Nat) (f : Nat → Int) : Prop := (∀ a b, a < b → b ≤ i → a ≠ j → b ≠ j → f a ≤ f b) ∧ ∀ b, j < b → b ≤ i → f j ≤ f b
theorem near_start {i : Nat} {f : Nat → Int} (h : UpF i f) : NearF i i f := ⟨fun a b h1 h2 h3 h4 => h a b h1 (by omega), fun b h1 h2 => by omega⟩
theorem near_end {i j : Nat} {f : Nat → Int} (h : NearF i j f) (hj : j ≤ i) (he : j = 0 ∨ f (j - 1) ≤ f j) : UpF (i + 1) f := by
 intro a b h1 h2
 by_cases p : a = j
 · rw [p]; exact h.2 b (by omega) (by omega)
 · by_cases q : b = j
   · rw [q]
     rcases he with he | he
     · omega
     · by_cases r : a = j - 1
       · rw [r]; exact he
       · have := h.1 a (j - 1) (by omega) (by omega) p (by omega)
         omega
   · exact h.1 a b h1 (by omega) p q
theorem near_step {i j : Nat} {f : Nat → Int} (h : NearF i j f) (h0 : 0 < j) (hj : j ≤ i) (hlt : f j < f (j - 1)) : NearF i (j - 1) (swF f j) := by
 have e1 : swF f j j = f (j - 1) := by unfold swF; rw [if_pos rfl]
 have e2 : swF f j (j - 1) = f j := by unfold swF; rw [if_neg (by omega), if_pos rfl]
 have e3 : ∀ k, k ≠ j → k ≠ j - 1 → swF f j k = f k := fun k q1 q2 => by unfold swF; rw [if_neg q1, if_neg q2]
 refine ⟨fun a b h1 h2 h3 h4 => ?_, fun b h1 h2 => ?_⟩
 · by_cases p : a = j
   · rw [p, e1, e3 b (by omega) h4]; exact h.1 (j - 1) b (by omega) h2 (by omega) (by omega)
   · by_cases q : b = j
     · rw [q, e1, e3 a p h3]; exact h.1 a (j - 1) (by omega) (by omega) p (by omega)
     · rw [e3 a p h3, e3 b q h4]; exact h.1 a b h1 h2 p q
 · rw [e2]
   by_cases q : b = j
   · rw [q, e1]; omega
   · rw [e3 b q (by omega)]; exact h.2 b (by omega) h2
set_option maxHeartbeats 400000 in
theorem nanF_c (a : Int) (w : World) : Calls Tryz.prog 213 #[.int .u32 a] w fun e w' => e = .returned (.bool false) ∧ w' = w := by
 have hb : (a != a) = false := by simp
 go_enter Tryz.func213, Tryz.ntmps213
 go_wp2
 go_ret
 exact ⟨rfl, rfl⟩
set_option maxHeartbeats 400000 in
theorem lessF_c (a b : Int) (w : World) : Calls Tryz.prog 333 #[.int .u32 a, .int .u32 b] w fun e w' => e = .returned (.bool (decide (a < b))) ∧ w' = w := by
 go_enter Tryz.func333, Tryz.ntmps333
 go_wp2_with (go_at_call 213; refine (nanF_c _ _).mono ?_; rintro _ w1 ⟨rfl, h1⟩; rw [h1])
 go_ret
 exact ⟨rfl, rfl⟩
set_option maxHeartbeats 4000000 in
theorem insertF_c (g n cap : Nat) (f0 : Nat → Int) (w : World) (h : FidsAt w g n f0) (hinj : ∀ a b, a < n → b < n → f0 a = f0 b → a = b) (hn : n ≤ 12) (hcap : n ≤ cap) :
   Calls Tryz.prog 327 #[.slice (some ⟨g, 0, none⟩) n cap, .int .i64 0, .int .i64 n] w fun e w' => e = .returned (.tuple #[]) ∧ ∃ f, FidsAt w' g n f ∧ SameF n f0 f ∧ UpF n f ∧ Ou (fun k => k = g) w w' := by
 have H0 := hid h
 have S0 : Hid (SameF n f0 f0) := hid ⟨fun x => Iff.rfl, hinj⟩
 clear h hinj
 go_enter Tryz.func327, Tryz.ntmps327
 go_wp2
 go_loopw [6] (fun v6 wr => ∃ (i : Nat) (f : Nat → Int), 1 ≤ i ∧ (i ≤ n ∨ i = 1) ∧ v6 = .int .i64 i ∧ Hid (FidsAt wr g n f) ∧ Hid (SameF n f0 f) ∧ Hid (UpF i f) ∧ Hid (Ou (fun k => k = g) w wr)) (fun i _ => (13 - intOf i).toNat)
 case atStart => exact ⟨1, f0, by omega, by omega, rfl, H0, S0, hid (fun a b h1 h2 => by omega), hid (Ou.refl _ _)⟩
 case round =>
   obtain ⟨i, f, hi1, hin, rfl, FX, SX, UX, OX⟩ := hrel
   obtain ⟨wo, hwo⟩ : ∃ wo, wo = wr := ⟨_, rfl⟩
   subst hwo
   by_cases hlt : i < n
   · have hltI : (i : Int) < (n : Int) := by omega
     have NS := hid (near_start UX.out)
     go_wp2
     go_loopw [7] (fun v7 wx => ∃ (j : Nat) (f' : Nat → Int), j ≤ i ∧ v7 = .int .i64 j ∧ Hid (FidsAt wx g n f') ∧ Hid (SameF n f0 f') ∧ Hid (NearF i j f') ∧ Hid (Ou (fun k => k = g) w wx)) (fun j _ => (intOf j).toNat)
     case atStart => exact ⟨i, f, by omega, rfl, FX, SX, NS, OX⟩
     case round =>
       obtain ⟨j, f', hj, rfl, FY, SY, NY, OY⟩ := hrel
       by_cases h0 : 0 < j
       · have h0I : (0 : Int) < (j : Int) := by omega
         have hjn : (j : Int) < (n : Int) := by omega
         have hj1 : (j : Int) - 1 = ((j - 1 : Nat) : Int) := by omega
         have hj1n : ((j - 1 : Nat) : Int) < (n : Int) := by omega
         obtain ⟨c1, z1⟩ := FY.out.cell (j := j) (by omega)
         obtain ⟨c2, z2⟩ := FY.out.cell (j := j - 1) (by omega)
         by_cases hls : f' j < f' (j - 1)
         · have hld : decide (f' j < f' (j - 1)) = true := decide_eq_true hls
           have FZ : Hid (∀ k, FidsAt (wr.drewN k) g n f') := hid (fun k => FidsAt.drewN FY.out k)
           have OZ : Hid (∀ k, Ou (fun k => k = g) w (wr.drewN k)) := hid (fun k => OY.out.drewN k)
           go_wp2_with fail
           go_quiet ((go_at_call 333; exact Calls.quiet_of_same (lessF_c _ _ _)))
           go_wp2_with fail
           have FW := hid (FZ.out nq)
           have OW := hid (OZ.out nq)
           generalize wr.drewN nq = W at *
           obtain ⟨c1', z1'⟩ := FW.out.cell (j := j) (by omega)
           obtain ⟨c2', z2'⟩ := FW.out.cell (j := j - 1) (by omega)
           clear c1 c2 z1 z2 FZ OZ
           have hjne : ¬ j = j - 1 := by omega
           have hjne' : ¬ j - 1 = j := by omega
           go_region
           have F9 : Hid (FidsAt ((W.setCell ⟨g, j, none⟩ (.int .u32 (f' (j - 1)))).setCell ⟨g, j - 1, none⟩ (.int .u32 (f' j))).drew g n (swF f' j)) := hid (((FW.out.set (j := j) (by omega) (f' (j - 1))).set (j := j - 1) (by omega) (f' j)).drew.ext (fun k hk => by
             unfold swF
             by_cases q1 : k = j
             · rw [if_pos q1, if_neg (by omega), if_pos q1]
             · rw [if_neg q1]
               by_cases q2 : k = j - 1
               · rw [if_pos q2, if_pos q2]
               · rw [if_neg q2, if_neg q2, if_neg q1]))
           have O9 : Hid (Ou (fun k => k = g) w ((W.setCell ⟨g, j, none⟩ (.int .u32 (f' (j - 1)))).setCell ⟨g, j - 1, none⟩ (.int .u32 (f' j))).drew) := hid ((OW.out.set rfl).set rfl).drew
           have S9 := hid (swF_same SY.out (j := j) h0 (by omega))
           have N9 := hid (near_step NY.out h0 hj hls)
           clear c1' c2' z1' z2'
           go_wp2
           go_roundw
           case rel => exact ⟨j - 1, swF f' j, by omega, by first | rfl | go_num, F9, S9, N9, O9⟩
           case measure => simp [intOf]; omega
         · have hld : decide (f' j < f' (j - 1)) = false := decide_eq_false hls
           have UE := hid (near_end NY.out hj (.inr (by omega)))
           have FZ : Hid (∀ k, FidsAt (wr.drewN k) g n f') := hid (fun k => FidsAt.drewN FY.out k)
           have OZ : Hid (∀ k, Ou (fun k => k = g) w (wr.drewN k)) := hid (fun k => OY.out.drewN k)
           go_wp2_with fail
           go_quiet ((go_at_call 333; exact Calls.quiet_of_same (lessF_c _ _ _)))
           go_wp2
           go_roundw
           case rel => exact ⟨i + 1, f', by omega, by omega, by go_num, hid (FZ.out _), SY, UE, hid (OZ.out _)⟩
           case measure => simp [intOf]; omega
       · obtain rfl : j = 0 := by omega
         have UE := hid (near_end NY.out hj (.inl rfl))
         have FZ : Hid (∀ k, FidsAt (wr.drewN k) g n f') := hid (fun k => FidsAt.drewN FY.out k)
         have OZ : Hid (∀ k, Ou (fun k => k = g) w (wr.drewN k)) := hid (fun k => OY.out.drewN k)
         have hd0 : decide ((0 : Int) < ((0 : Nat) : Int)) = false := rfl
         go_wp2_with fail
         go_quiet (fail)
         go_wp2
         go_roundw
         case rel => exact ⟨i + 1, f', by omega, by omega, by go_num, hid (FZ.out _), SY, UE, hid (OZ.out _)⟩
         case measure => simp [intOf]; omega
   · have hltI : ¬ (i : Int) < (n : Int) := by omega
     have hltd : decide ((i : Int) < (n : Int)) = false := decide_eq_false hltI
     have UE : Hid (UpF n f) := hid (fun a b h1 h2 => UX.out a b h1 (by omega))
     go_wp2
     exact body_endF (by kernel_rfl) rfl ⟨rfl, f, FX.out, SX.out, UE.out, OX.out⟩
set_option maxHeartbeats 1000000 in
theorem len64_c (n : Nat) (hn : n ≤ 12) (w : World) : Calls Tryz.prog 273 #[.int .u64 n] w fun e w' => (∃ v : Int, e = .returned (.int .i64 v)) ∧ w' = w := by
 have h1 : ¬ (4294967296 : Int) ≤ (n : Int) := by omega
 have h2 : ¬ (65536 : Int) ≤ (n : Int) := by omega
 have h3 : ¬ (256 : Int) ≤ (n : Int) := by omega
 have h4 : (n : Int) < 256 := by omega
 obtain h | h | h | h | h | h | h | h | h | h | h | h | h : n = 0 ∨ n = 1 ∨ n = 2 ∨ n = 3 ∨ n = 4 ∨ n = 5 ∨ n = 6 ∨ n = 7 ∨ n = 8 ∨ n = 9 ∨ n = 10 ∨ n = 11 ∨ n = 12 := by omega
 all_goals (
   subst h
   clear h1 h2 h3 h4
   go_enter Tryz.func273, Tryz.ntmps273
   go_wp2
   go_ret
   exact ⟨⟨_, rfl⟩, rfl⟩)
set_option maxHeartbeats 1000000 in
theorem len_c (n : Nat) (hn : n ≤ 12) (w : World) : Calls Tryz.prog 211 #[.int .u64 n] w fun e w' => (∃ v : Int, e = .returned (.int .i64 v)) ∧ w' = w := by
 go_enter Tryz.func211, Tryz.ntmps211
 go_wp2_with (go_at_call 273; refine (len64_c n hn _).mono ?_; rintro _ w1 ⟨⟨v, rfl⟩, h1⟩; rw [h1])
 go_ret
 exact ⟨⟨_, rfl⟩, rfl⟩
def SortedTo (w : World) (g n : Nat) (f0 : Nat → Int) (e : Ending) (w' : World) : Prop := e = .returned (.tuple #[]) ∧ ∃ f, FidsAt w' g n f ∧ SameF n f0 f ∧ UpF n f ∧ Ou (fun k => k = g) w w'
set_option maxHeartbeats 1000000 in
theorem pdqF_c (g n cap : Nat) (f0 : Nat → Int) (lim : Int) (w : World) (h : FidsAt w g n f0) (hinj : ∀ a b, a < n → b < n → f0 a = f0 b → a = b) (hn : n ≤ 12) (hcap : n ≤ cap) :
   Calls Tryz.prog 300 #[.slice (some ⟨g, 0, none⟩) n cap, .int .i64 0, .int .i64 n, .int .i64 lim] w (SortedTo w g n f0) := by
 have IC := hid (insertF_c g n cap f0 w h hinj hn hcap)
 have hnI : (n : Int) ≤ 12 := by omega
 clear h hinj
 go_enter Tryz.func300, Tryz.ntmps300
 go_wp2
 refine wp_loop_rounds 1 ?_
 rw [rounds_succ]
 go_wp2_with (go_at_call 327; refine IC.out.mono ?_; rintro _ w1 ⟨rfl, hr⟩)
 exact bodyPost_ret (v := .tuple #[]) (by simp [results, Tryz.results300, go_sem]) rfl ⟨rfl, by first | exact hr | rfl⟩
set_option maxHeartbeats 1000000 in
theorem sortF_c (g n cap : Nat) (f0 : Nat → Int) (w : World) (h : FidsAt w g n f0) (hinj : ∀ a b, a < n → b < n → f0 a = f0 b → a = b) (hn : n ≤ 12) (hcap : n ≤ cap) :
   Calls Tryz.prog 241 #[.slice (some ⟨g, 0, none⟩) n cap] w (SortedTo w g n f0) := by
 have PC : Hid (∀ v, Calls Tryz.prog 300 #[.slice (some ⟨g, 0, none⟩) n cap, .int .i64 0, .int .i64 n, .int .i64 v] w (SortedTo w g n f0)) := hid (fun v => pdqF_c g n cap f0 v w h hinj hn hcap)
 clear h hinj
 go_enter Tryz.func241, Tryz.ntmps241
 go_wp2_with (first
   | (go_at_call 211; refine (len_c n hn _).mono ?_; rintro _ w1 ⟨⟨v, rfl⟩, h1⟩; rw [h1])
   | (go_at_call 300; refine (PC.out _).mono ?_; rintro _ w2 ⟨rfl, hr⟩))
 exact body_endF (by kernel_rfl) rfl ⟨rfl, by first | exact hr | rfl⟩
set_option maxHeartbeats 1000000 in
theorem insertF_nil (a : Option Addr) (cap : Nat) (w : World) : Calls Tryz.prog 327 #[.slice a 0 cap, .int .i64 0, .int .i64 0] w fun e w' => e = .returned (.tuple #[]) ∧ w' = w := by
 go_enter Tryz.func327, Tryz.ntmps327
 go_wp2
 refine wp_loop_rounds 1 ?_
 rw [rounds_succ]
 go_wp2
 exact body_endF (by kernel_rfl) rfl ⟨rfl, rfl⟩
set_option maxHeartbeats 1000000 in
theorem pdqF_nil (a : Option Addr) (cap : Nat) (v : Int) (w : World) : Calls Tryz.prog 300 #[.slice a 0 cap, .int .i64 0, .int .i64 0, .int .i64 v] w fun e w' => e = .returned (.tuple #[]) ∧ w' = w := by
 go_enter Tryz.func300, Tryz.ntmps300
 go_wp2
 refine wp_loop_rounds 1 ?_
 rw [rounds_succ]
 go_wp2_with (go_at_call 327; refine (insertF_nil a cap w).mono ?_; rintro _ w1 ⟨rfl, hr⟩)
 exact bodyPost_ret (v := .tuple #[]) (by simp [results, Tryz.results300, go_sem]) rfl ⟨rfl, by first | exact hr | rfl⟩
set_option maxHeartbeats 1000000 in
theorem sortF_nil (a : Option Addr) (cap : Nat) (w : World) : Calls Tryz.prog 241 #[.slice a 0 cap] w fun e w' => e = .returned (.tuple #[]) ∧ w' = w := by
 have LC : Hid (∀ W, Calls Tryz.prog 211 #[.int .u64 0] W fun e w' => (∃ v : Int, e = .returned (.int .i64 v)) ∧ w' = W) := hid (fun W => len_c 0 (by omega) W)
 go_enter Tryz.func241, Tryz.ntmps241
 go_wp2_with (first
   | (go_at_call 211; refine (LC.out _).mono ?_; rintro _ w1 ⟨⟨v, rfl⟩, h1⟩; rw [h1])
   | (go_at_call 300; refine (pdqF_nil a cap _ w).mono ?_; rintro _ w2 ⟨rfl, hr⟩))
 exact body_endF (by kernel_rfl) rfl ⟨rfl, by first | exact hr | rfl⟩
end Go.Proofs.YtfmghbennahlfaaGreat
namespace Go.Proofs.YtfmghbennahlfaaGreat
open Go.RowKit Go.ChangeShapes Go.WideShapes Go.ChangeAt Go.Maps
set_option linter.unusedVariables false
set_option linter.unusedSimpArgs false
set_option maxRecDepth 100000
structure Enc (α : Type) where
 enc : α → Value
 rd : Value → Option (DataW α × List MemPlace)
 wr : ∀ a, rd (enc a) = some (.held a, [])
 inv : ∀ {v z}, rd v = some z → ∃ a, v = enc a ∧ z = (.held a, [])
def numR : Value → Option (DataW Int × List MemPlace)
 | .int .i64 x => some (.held x, [])
 | _ => none
def numE : Enc Int := ⟨fun x => .int .i64 x, numR, fun _ => rfl, fun {v z} h => by
 unfold numR at h
 split at h
 · cases h; exact ⟨_, rfl, rfl⟩
 · cases h⟩
abbrev Ob := Int × Bool
def obL : List Value → Option (DataW Ob × List MemPlace)
 | [.int .u64 x, .bool d] => some (.held (x, d), [])
 | _ => none
def obR : Value → Option (DataW Ob × List MemPlace)
 | .agg cs => obL cs.toList
 | _ => none
def obE : Enc Ob := ⟨fun o => .agg #[.int .u64 o.1, .bool o.2], obR, fun _ => rfl, fun {v z} h => by
 unfold obR at h
 split at h
 · rename_i cs
   unfold obL at h
   split at h
   · rename_i x d e
     cases h
     refine ⟨(x, d), ?_, rfl⟩
     congr 1
     apply Array.toList_inj.1
     rw [e]
   · cases h
 · cases h⟩
theorem lawF : Keyed Tryz.prog 35 := int_keyed Tryz.underlying35
def kyF (i : Int) : Lit := .int .u32 i
theorem kyF_ne {i j : Int} (h : j ≠ i) : kyF j ≠ kyF i := fun e => h (by unfold kyF at e; cases e; rfl)
theorem keyF {i : Int} (h0 : 0 ≤ i) (h1 : i < 4294967296) : keyOf Tryz.prog 35 (.int .u32 i) = some (kyF i) :=
 keyOf_int_mk Tryz.underlying35 (by simp [Lit.wf, IntKind.min, IntKind.max, IntKind.signed, IntKind.bits]; omega)
theorem same_kyF {i j : Int} : (kyF i).sameKey (kyF j) = decide (i = j) := by simp [kyF, Lit.sameKey]
theorem keyLitF (i : Int) : WideAt.IsKeyLit (kyF i) := by unfold kyF; trivial
section
variable {α : Type}
def lookF (D : DataW α) (i : Int) : Option α :=
 if Maps.has D (kyF i) = true then (match D.atKey (kyF i) .nil with | .held s => some s | _ => none) else none
def updF (f : Int → Option α) (i : Int) (v : Option α) : Int → Option α := fun j => if j = i then v else f j
theorem entriesF (E : Enc α) {w : World} {b n : Nat} {D : DataW α} (h : w.ownsMap Tryz.prog 35 E.rd b n D) :
   ∃ es, D = .map es ∧ es.Pairwise (fun p q => p.1 ≠ q.1) ∧ (∀ p ∈ es, ∃ i s, p = (kyF i, .held s) ∧ 0 ≤ i ∧ i < 4294967296) := by
 obtain ⟨es0, e0, hpw, _⟩ := h.entries lawF
 refine ⟨es0, e0, hpw, ?_⟩
 obtain ⟨es, clock, hb, F, hs, hD⟩ := h
 rw [e0] at hD
 cases hD
 intro p hp
 rw [mem_sorted, List.mem_map] at hp
 obtain ⟨x, hx, rfl⟩ := hp
 obtain ⟨y, hy⟩ := F.reads x hx
 rw [WideElems.rg_of hy]
 have k1 := WideElems.rd_key hy
 obtain ⟨z, hz, e2⟩ := WideElems.rd_val hy
 obtain ⟨i, _, e3, hw⟩ := Maps.keyOf_int_inv Tryz.underlying35 k1
 obtain ⟨s, h2, h3⟩ := E.inv hz
 refine ⟨i, s, ?_, ?_⟩
 · obtain ⟨y1, y2⟩ := y
   simp only at e2 e3
   rw [e3, e2, h3]
   rfl
 · have := bd_u32 hw
   omega
theorem findF : ∀ {es : List (Lit × DataW α)}, es.Pairwise (fun p q => p.1 ≠ q.1) → ∀ {i : Int} {s : α}, (kyF i, DataW.held s) ∈ es → es.find? (fun p => p.1.sameKey (kyF i)) = some (kyF i, DataW.held s)
 | [], _, i, s, hm => by cases hm
 | x :: l, hp, i, s, hm => by
   rw [List.pairwise_cons] at hp
   rcases List.mem_cons.1 hm with rfl | hm'
   · simp [List.find?_cons, same_kyF]
   · have hne : x.1 ≠ kyF i := hp.1 _ hm'
     rw [List.find?_cons, Maps.sameKey_ne hne]
     exact findF hp.2 hm'
theorem has_memF {es : List (Lit × DataW α)} {i : Int} {s : α} (hm : (kyF i, DataW.held s) ∈ es) : Maps.has (.map es) (kyF i) = true := by
 rw [Maps.has_eq, List.any_eq_true]; exact ⟨_, hm, by simp [same_kyF]⟩
theorem at_memF {es : List (Lit × DataW α)} (hp : es.Pairwise (fun p q => p.1 ≠ q.1)) {i : Int} {s : α} (hm : (kyF i, DataW.held s) ∈ es) (z : DataW α) : DataW.atKey (.map es) (kyF i) z = .held s := by
 simp [DataW.atKey, findF hp hm]
theorem look_memF {es : List (Lit × DataW α)} (hp : es.Pairwise (fun p q => p.1 ≠ q.1)) {i : Int} {s : α} (hm : (kyF i, DataW.held s) ∈ es) : lookF (.map es) i = some s := by
 unfold lookF
 rw [if_pos (has_memF hm), at_memF hp hm]
theorem look_noneF {D : DataW α} {i : Int} (h : Maps.has D (kyF i) = false) : lookF D i = none := by unfold lookF; rw [if_neg (by simp [h])]
theorem look_atF (E : Enc α) {w : World} {b n : Nat} {D : DataW α} (h : w.ownsMap Tryz.prog 35 E.rd b n D) (i : Int) (z : α) : D.atKey (kyF i) (.held z) = .held ((lookF D i).getD z) ∧ Maps.has D (kyF i) = (lookF D i).isSome ∧ ∀ s, lookF D i = some s → 0 ≤ i ∧ i < 4294967296 := by
 obtain ⟨es, e, hp, hs⟩ := entriesF E h
 subst e
 cases hh : Maps.has (.map es) (kyF i) with
 | false => rw [Maps.atKey_of_not_has hh, look_noneF hh]; exact ⟨rfl, rfl, fun s e => by cases e⟩
 | true =>
   rw [Maps.has_eq, List.any_eq_true] at hh
   obtain ⟨p, hp1, hp2⟩ := hh
   obtain ⟨j, s, rfl, hj⟩ := hs p hp1
   rw [same_kyF] at hp2
   simp at hp2
   subst hp2
   rw [look_memF hp hp1, at_memF hp hp1]
   exact ⟨rfl, rfl, fun _ _ => hj⟩
theorem Maps.has_eq_look_of {E : Enc α} {w : World} {b n : Nat} {D : DataW α} (h : w.ownsMap Tryz.prog 35 E.rd b n D) (i : Int) : Maps.has D (kyF i) = (lookF D i).isSome := by
 cases hl : lookF D i with
 | none =>
   cases hh : Maps.has D (kyF i) with
   | false => rfl
   | true =>
     exfalso
     obtain ⟨es, e, hp, hs⟩ := entriesF E h
     subst e
     rw [Maps.has_eq, List.any_eq_true] at hh
     obtain ⟨p, hp1, hp2⟩ := hh
     obtain ⟨j, s, rfl, hj⟩ := hs p hp1
     rw [same_kyF] at hp2
     simp at hp2
     subst hp2
     rw [look_memF hp hp1] at hl
     cases hl
 | some s => have := (look_atF E h i s).2.1; rw [hl] at this; exact this
theorem look_putF {D : DataW α} (h : Maps.IsMap D) (i : Int) (s : α) (j : Int) : lookF (D.put (kyF i) (.held s)) j = updF (lookF D) i (some s) j := by
 unfold updF
 by_cases hj : j = i
 · subst hj
   rw [if_pos rfl]
   unfold lookF
   rw [Maps.has_put_same h (keyLitF _), if_pos rfl, Maps.atKey_put_same h (keyLitF _)]
 · rw [if_neg hj]
   unfold lookF
   rw [Maps.has_put_other (kyF_ne hj), Maps.atKey_put_other (kyF_ne hj)]
theorem look_delF {D : DataW α} (i : Int) (j : Int) : lookF (D.del (kyF i)) j = updF (lookF D) i none j := by
 unfold updF
 by_cases hj : j = i
 · subst hj
   rw [if_pos rfl, look_noneF Maps.has_del_same]
 · rw [if_neg hj]
   unfold lookF
   rw [Maps.has_del_other (kyF_ne hj), Maps.atKey_del_other (kyF_ne hj)]
def IsFm (E : Enc α) (w : World) (b m : Nat) (f : Int → Option α) : Prop := ∃ D, w.ownsMap Tryz.prog 35 E.rd b m D ∧ Maps.size D = m ∧ ∀ i, f i = lookF D i
theorem IsFm.lt {E : Enc α} {w : World} {b m : Nat} {f : Int → Option α} (h : IsFm E w b m f) : b < w.heap.size := by obtain ⟨D, ho, _⟩ := h; exact ho.lt
theorem IsFm.out {E : Enc α} {S : Nat → Prop} {w w' : World} {b m : Nat} {f : Int → Option α} (h : IsFm E w b m f) (ho : Ou S w w') (hS : ¬ S b) : IsFm E w' b m f := by
 have hl := h.lt
 obtain ⟨D, ⟨es, clock, hb, r⟩, hf⟩ := h
 exact ⟨D, ⟨es, clock, by rw [ho.block b hl hS]; exact hb, r⟩, hf⟩
theorem IsFm.keys {E : Enc α} {w : World} {b m : Nat} {f : Int → Option α} (h : IsFm E w b m f) {i : Int} {s : α} (hi : f i = some s) : 0 ≤ i ∧ i < 4294967296 := by
 obtain ⟨D, ho, _, hf⟩ := h
 exact (look_atF E ho i s).2.2 s (by rw [← hf i]; exact hi)
theorem IsFm.made (E : Enc α) (w : World) : IsFm E (w.alloc (.map #[] 0)) w.heap.size 0 (fun _ => none) :=
 ⟨.map [], World.ownsMap_made w Tryz.prog 35 E.rd, rfl, fun i => by simp [lookF, Maps.has]⟩
theorem Ou.turned {S : Nat → Prop} {w w' : World} {b : Nat} (h : w.mapTurned w' b) (hS : S b) : Ou S w w' :=
 have g := h.grown
 ⟨g.os, g.tape, g.output, g.size, fun i hi hn => g.block i hi (fun e => by cases e; exact hn hS)⟩
def addN (f : Int → Option α) (i : Int) (m : Nat) : Nat := if (f i).isSome then m else m + 1
def delN (f : Int → Option α) (i : Int) (m : Nat) : Nat := if (f i).isSome then m - 1 else m
theorem IsFm.look {E : Enc α} {w : World} {b m : Nat} {f : Int → Option α} (h : IsFm E w b m f) {tm te : TypeId} (ht : Tryz.prog.underlying tm = some (.map 35 te)) {z : α} (hz : ∀ w, (zeroValue te).run Tryz.prog w = .ok (E.enc z) w) {i : Int} (h0 : 0 ≤ i) (h1 : i < 4294967296) :
   (Instr.lookup tm (.map (some b)) (.int .u32 i) false).run Tryz.prog w = .ok (E.enc ((f i).getD z)) w := by
 obtain ⟨D, ho, _, hf⟩ := h
 obtain ⟨v, ps, hrun, hv⟩ := ho.lookup lawF ht (hz w) (E.wr z) (keyF h0 h1)
 obtain ⟨e1, _⟩ := look_atF E ho i z
 rw [e1] at hv
 obtain ⟨s, rfl, e3⟩ := E.inv hv
 cases e3
 rw [hf i]
 exact hrun
theorem IsFm.lookOk {E : Enc α} {w : World} {b m : Nat} {f : Int → Option α} (h : IsFm E w b m f) {tm te : TypeId} (ht : Tryz.prog.underlying tm = some (.map 35 te)) {z : α} (hz : ∀ w, (zeroValue te).run Tryz.prog w = .ok (E.enc z) w) {i : Int} (h0 : 0 ≤ i) (h1 : i < 4294967296) :
   (Instr.lookup tm (.map (some b)) (.int .u32 i) true).run Tryz.prog w = .ok (.tuple #[E.enc ((f i).getD z), .bool (f i).isSome]) w := by
 obtain ⟨D, ho, _, hf⟩ := h
 obtain ⟨v, ps, hrun, hv⟩ := ho.look_ok lawF ht (hz w) (E.wr z) (keyF h0 h1)
 obtain ⟨e1, e2, _⟩ := look_atF E ho i z
 rw [e1] at hv
 rw [e2] at hrun
 obtain ⟨s, rfl, e3⟩ := E.inv hv
 cases e3
 rw [hf i]
 exact hrun
theorem IsFm.len {E : Enc α} {w : World} {b m : Nat} {f : Int → Option α} (h : IsFm E w b m f) {tm te : TypeId} (ht : Tryz.prog.underlying tm = some (.map 35 te)) (ty : TypeId) : (Builtin.len_ #[tm] ty #[.map (some b)]).run Tryz.prog w = .ok (.int .i64 (m : Int)) w := by
 obtain ⟨D, ho, hs, hf⟩ := h
 have := ho.len ht ty
 rw [hs] at this
 exact this
theorem own_size {E : Enc α} {w : World} {b n : Nat} {D : DataW α} (h : w.ownsMap Tryz.prog 35 E.rd b n D) : w.ownsMap Tryz.prog 35 E.rd b (Maps.size D) D := by
 obtain ⟨es, clock, hb, F, hs, rfl⟩ := h
 exact ⟨es, clock, hb, F, by simp [Maps.size, length_sorted], rfl⟩
theorem IsFm.store {E : Enc α} {w : World} {b m : Nat} {f : Int → Option α} (h : IsFm E w b m f) (hm : m < 1000) {tm te : TypeId} (ht : Tryz.prog.underlying tm = some (.map 35 te)) {i : Int} (h0 : 0 ≤ i) (h1 : i < 4294967296) (s : α) :
   ∃ w', (Instr.mapUpdate tm (.map (some b)) (.int .u32 i) (E.enc s)).run Tryz.prog w = .ok () w' ∧ IsFm E w' b (addN f i m) (updF f i (some s)) ∧ w.mapTurned w' b := by
 obtain ⟨D, ho, hs, hf⟩ := h
 obtain ⟨w', hrun, ho', ht'⟩ := ho.store lawF ht (by unfold maxLen; omega) (keyF h0 h1) (E.wr s)
 refine ⟨w', hrun, ⟨D.put (kyF i) (.held s), ?_, ?_, fun j => ?_⟩, ht'⟩
 · have e : Maps.size (D.put (kyF i) (.held s)) = addN f i m := by
     rw [Maps.size_put (ho.tidy lawF)]
     unfold addN
     rw [(look_atF E ho i s).2.1, ← hf i, hs]
   rw [← e]
   exact own_size ho'
 · rw [Maps.size_put (ho.tidy lawF)]
   unfold addN
   rw [(look_atF E ho i s).2.1, ← hf i, hs]
 · rw [look_putF ho.isMap]; unfold updF; rw [hf]
theorem IsFm.drop {E : Enc α} {w : World} {b m : Nat} {f : Int → Option α} (h : IsFm E w b m f) {tm te : TypeId} (ht : Tryz.prog.underlying tm = some (.map 35 te)) {i : Int} (h0 : 0 ≤ i) (h1 : i < 4294967296) (ty : TypeId) :
   ∃ w', (Builtin.delete_ #[tm, 35] ty #[.map (some b), .int .u32 i]).run Tryz.prog w = .ok (.tuple #[]) w' ∧ IsFm E w' b (delN f i m) (updF f i none) ∧ w.mapTurned w' b := by
 obtain ⟨D, ho, hs, hf⟩ := h
 obtain ⟨w', hrun, ho', ht'⟩ := ho.drop lawF ht (keyF h0 h1) ty
 have e : Maps.size (D.del (kyF i)) = delN f i m := by
   have e1 := Maps.size_del (k := kyF i) (ho.tidy lawF)
   unfold delN
   cases hh : (f i).isSome with
   | true =>
     have h2 : Maps.has D (kyF i) = true := by
       rw [Maps.has_eq_look_of (E := E) ho i, ← hf i]; exact hh
     rw [h2] at e1
     simp at e1 ⊢
     omega
   | false =>
     have h2 : Maps.has D (kyF i) = false := by
       rw [Maps.has_eq_look_of (E := E) ho i, ← hf i]; exact hh
     rw [h2] at e1
     simp at e1 ⊢
     omega
 refine ⟨w', hrun, ⟨D.del (kyF i), ?_, e, fun j => ?_⟩, ht'⟩
 · rw [← e]; exact own_size ho'
 · rw [look_delF]; unfold updF; rw [hf]
end
end Go.Proofs.YtfmghbennahlfaaGreat
