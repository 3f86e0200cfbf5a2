/-
  Rows of fids; they are sorted (at most twelve).
-/
import Derived.Test.YtilcbkejmpfnfabCalls
import Derived.ChangeArms
import Derived.ChangeOld
import Derived.Below
import Derived.Deep.RegionHeld3
import Derived.Deep.LoopGhost
import Derived.Deep.RegionWith
import Derived.BigQuiet
import Derived.Deep.QuietTactic
namespace Go.Proofs.Ytilcbkejmpfnfab
open Go.RowKit Go.ChangeShapes Go.WideShapes Go.ChangeAt
set_option linter.unusedVariables false
set_option linter.unusedSimpArgs false
set_option maxRecDepth 100000
/-- All blocks that were there, but for those of S, are as they were. -/
structure Ou (S : Nat → Prop) (w w' : World) : Prop where
  os : w'.os = w.os
  tape : w'.tape = w.tape
  output : w'.output = w.output
  size : w.heap.size ≤ w'.heap.size
  block : ∀ k, k < w.heap.size → ¬ S k → w'.heap[k]? = w.heap[k]?
theorem Ou.refl (S : Nat → Prop) (w : World) : Ou S w w := ⟨rfl, rfl, rfl, Nat.le_refl _, fun _ _ _ => rfl⟩
theorem Ou.trans {S : Nat → Prop} {a b c : World} (h : Ou S a b) (k : Ou S b c) : Ou S a c :=
  ⟨k.os.trans h.os, k.tape.trans h.tape, k.output.trans h.output, Nat.le_trans h.size k.size, fun i hi hS => (k.block i (Nat.lt_of_lt_of_le hi h.size) hS).trans (h.block i hi hS)⟩
theorem Ou.mono {S T : Nat → Prop} {a b : World} (h : Ou S a b) (k : ∀ i, S i → T i) : Ou T a b := ⟨h.os, h.tape, h.output, h.size, fun i hi hS => h.block i hi fun e => hS (k i e)⟩
theorem Ou.of {S : Nat → Prop} {w w' : World} (h : Below w.heap.size w w') : Ou S w w' := ⟨h.os, h.tape, h.output, h.size, fun i hi _ => h.block i hi⟩
theorem Ou.below {S : Nat → Prop} {w w' : World} {B : Nat} (h : Ou S w w') (hB : B ≤ w.heap.size) (hS : ∀ k, S k → B ≤ k) : Below B w w' :=
  ⟨h.os, h.tape, h.output, h.size, fun i hi => h.block i (by omega) (fun e => by have := hS i e; omega)⟩
theorem Ou.alloc {S : Nat → Prop} {a w : World} (h : Ou S a w) (o : Obj) : Ou S a (w.alloc o) :=
  h.trans (Ou.of ((Below.refl _ _).alloc (Nat.le_refl _) o))
theorem Ou.drew {S : Nat → Prop} {a w : World} (h : Ou S a w) : Ou S a w.drew := ⟨h.os, h.tape, h.output, h.size, h.block⟩
theorem Ou.set {S : Nat → Prop} {a w : World} (h : Ou S a w) {g o : Nat} {v : Value} (hS : S g) : Ou S a (w.setCell ⟨g, o, none⟩ v) :=
  h.trans ⟨rfl, rfl, rfl, by simp [World.setCell], fun k hk hn => heap_setCell_other _ _ _ _ (fun e => hn (e ▸ hS))⟩
theorem lt_blkC {w : World} {g : Nat} {o : Obj} (h : w.heap[g]? = some o) : g < w.heap.size := by
  have := (Array.getElem?_eq_some_iff.1 h).1; exact this
theorem body_endF {P : Program} {fn : Func} {R : Ending → World → Prop} {a : Act} {w : World} (hr : fn.results = #[]) (hd : a.defers = []) (hR : R (.returned (.tuple #[])) w) : bodyPost P fn R .normal a w :=
  bodyPost_end (v := .tuple #[]) (by simp [results, hr, go_sem]) hd hR
/-- A row of fids in block g: the first n of them are those of f. -/
def FidsAt (w : World) (g n : Nat) (f : Nat → Int) : Prop := ∃ cs : Array Value, w.heap[g]? = some (.cells cs 28 (0, 0)) ∧ n ≤ cs.size ∧ ∀ j, j < n → cs[j]? = some (.int .u32 (f j))
theorem FidsAt.out {S : Nat → Prop} {w w' : World} {g n : Nat} {f : Nat → Int} (h : FidsAt w g n f) (ho : Ou S w w') (hg : ¬ S g) : FidsAt w' g n f := by
  obtain ⟨cs, h1, h2, h3⟩ := h
  exact ⟨cs, by rw [ho.block g (lt_blkC h1) hg]; exact h1, h2, h3⟩
theorem FidsAt.lt {w : World} {g n : Nat} {f : Nat → Int} (h : FidsAt w g n f) : g < w.heap.size := by obtain ⟨cs, h1, _⟩ := h; exact lt_blkC h1
theorem FidsAt.cell {w : World} {g n : Nat} {f : Nat → Int} (h : FidsAt w g n f) {j : Nat} (hj : j < n) : w.cell? ⟨g, j, none⟩ = some (.int .u32 (f j)) ∧ w.frozen? ⟨g, j, none⟩ = false := by
  obtain ⟨cs, h1, h2, h3⟩ := h
  constructor
  · have := h3 j hj
    simp [World.cell?, h1, this]
  · simp [World.frozen?, h1]
theorem FidsAt.set {w : World} {g n : Nat} {f : Nat → Int} (h : FidsAt w g n f) {j : Nat} (hj : j < n) (x : Int) : FidsAt (w.setCell ⟨g, j, none⟩ (.int .u32 x)) g n (fun k => if k = j then x else f k) := by
  obtain ⟨cs, h1, h2, h3⟩ := h
  refine ⟨cs.setIfInBounds j (.int .u32 x), ?_, by simp [h2], fun k hk => ?_⟩
  · simp only [World.setCell]
    rw [Array.getElem?_modify, if_pos rfl, h1]
    rfl
  · by_cases e : k = j
    · subst e; simp [Nat.lt_of_lt_of_le hk h2]
    · rw [Array.getElem?_setIfInBounds_ne (by omega), h3 k hk]; simp [e]
theorem FidsAt.drew {w : World} {g n : Nat} {f : Nat → Int} (h : FidsAt w g n f) : FidsAt w.drew g n f := h
theorem heap_drewN (w : World) (k : Nat) : (w.drewN k).heap = w.heap := rfl
theorem FidsAt.drewN {w : World} {g n : Nat} {f : Nat → Int} (h : FidsAt w g n f) (k : Nat) : FidsAt (w.drewN k) g n f := by
  unfold FidsAt at *; rw [heap_drewN]; exact h
theorem Ou.drewN {S : Nat → Prop} {a w : World} (h : Ou S a w) (k : Nat) : Ou S a (w.drewN k) := ⟨h.os, h.tape, h.output, h.size, h.block⟩
theorem FidsAt.ext {w : World} {g n : Nat} {f f' : Nat → Int} (h : FidsAt w g n f) (e : ∀ j, j < n → f' j = f j) : FidsAt w g n f' := by
  obtain ⟨cs, h1, h2, h3⟩ := h
  exact ⟨cs, h1, h2, fun j hj => by rw [h3 j hj, e j hj]⟩
/-- Two that stand side by side change places. -/
def swF (f : Nat → Int) (j : Nat) : Nat → Int := fun k => if k = j then f (j - 1) else if k = j - 1 then f j else f k
/-- The same fids, each once. -/
def SameF (n : Nat) (f g : Nat → Int) : Prop := (∀ x, (∃ k, k < n ∧ f k = x) ↔ ∃ k, k < n ∧ g k = x) ∧ ∀ a b, a < n → b < n → g a = g b → a = b
theorem swF_same {n : Nat} {f0 f : Nat → Int} (h : SameF n f0 f) {j : Nat} (h0 : 0 < j) (hj : j < n) : SameF n f0 (swF f j) := by
  obtain ⟨h1, h2⟩ := h
  have e1 : swF f j j = f (j - 1) := by unfold swF; rw [if_pos rfl]
  have e2 : swF f j (j - 1) = f j := by unfold swF; rw [if_neg (by omega), if_pos rfl]
  have e3 : ∀ k, k ≠ j → k ≠ j - 1 → swF f j k = f k := fun k q1 q2 => by unfold swF; rw [if_neg q1, if_neg q2]
  refine ⟨fun x => ?_, fun a b ha hb hab => ?_⟩
  · rw [h1 x]
    constructor
    · rintro ⟨k, hk, rfl⟩
      by_cases q1 : k = j
      · exact ⟨j - 1, by omega, by rw [e2, q1]⟩
      · by_cases q2 : k = j - 1
        · exact ⟨j, hj, by rw [e1, q2]⟩
        · exact ⟨k, hk, e3 k q1 q2⟩
    · rintro ⟨k, hk, rfl⟩
      by_cases q1 : k = j
      · exact ⟨j - 1, by omega, by rw [q1, e1]⟩
      · by_cases q2 : k = j - 1
        · exact ⟨j, hj, by rw [q2, e2]⟩
        · exact ⟨k, hk, (e3 k q1 q2).symm⟩
  · by_cases p1 : a = j
    · by_cases q1 : b = j
      · omega
      · by_cases q2 : b = j - 1
        · rw [p1, q2, e1, e2] at hab; have := h2 _ _ (by omega) hj hab; omega
        · rw [p1, e1, e3 b q1 q2] at hab; have := h2 _ _ (by omega) hb hab; omega
    · by_cases p2 : a = j - 1
      · by_cases q1 : b = j
        · rw [p2, q1, e1, e2] at hab; have := h2 _ _ hj (by omega) hab; omega
        · by_cases q2 : b = j - 1
          · omega
          · rw [p2, e2, e3 b q1 q2] at hab; have := h2 _ _ hj hb hab; omega
      · by_cases q1 : b = j
        · rw [q1, e1, e3 a p1 p2] at hab; have := h2 _ _ ha (by omega) hab; omega
        · by_cases q2 : b = j - 1
          · rw [q2, e2, e3 a p1 p2] at hab; have := h2 _ _ ha hj hab; omega
          · rw [e3 a p1 p2, e3 b q1 q2] at hab; exact h2 _ _ ha hb hab
/-- The first ones rise. -/
def UpF (n : Nat) (f : Nat → Int) : Prop := ∀ a b, a < b → b < n → f a ≤ f b
/-- The first ones rise, but for the j-th, which is no greater than what stands behind it. -/
def NearF (i j : Nat) (f : Nat → Int) : Prop := (∀ a b, a < b → b ≤ i → a ≠ j → b ≠ j → f a ≤ f b) ∧ ∀ b, j < b → b ≤ i → f j ≤ f b
theorem near_start {i : Nat} {f : Nat → Int} (h : UpF i f) : NearF i i f := ⟨fun a b h1 h2 h3 h4 => h a b h1 (by omega), fun b h1 h2 => by omega⟩
theorem near_end {i j : Nat} {f : Nat → Int} (h : NearF i j f) (hj : j ≤ i) (he : j = 0 ∨ f (j - 1) ≤ f j) : UpF (i + 1) f := by
  intro a b h1 h2
  by_cases p : a = j
  · rw [p]; exact h.2 b (by omega) (by omega)
  · by_cases q : b = j
    · rw [q]
      rcases he with he | he
      · omega
      · by_cases r : a = j - 1
        · rw [r]; exact he
        · have := h.1 a (j - 1) (by omega) (by omega) p (by omega)
          omega
    · exact h.1 a b h1 (by omega) p q
theorem near_step {i j : Nat} {f : Nat → Int} (h : NearF i j f) (h0 : 0 < j) (hj : j ≤ i) (hlt : f j < f (j - 1)) : NearF i (j - 1) (swF f j) := by
  have e1 : swF f j j = f (j - 1) := by unfold swF; rw [if_pos rfl]
  have e2 : swF f j (j - 1) = f j := by unfold swF; rw [if_neg (by omega), if_pos rfl]
  have e3 : ∀ k, k ≠ j → k ≠ j - 1 → swF f j k = f k := fun k q1 q2 => by unfold swF; rw [if_neg q1, if_neg q2]
  refine ⟨fun a b h1 h2 h3 h4 => ?_, fun b h1 h2 => ?_⟩
  · by_cases p : a = j
    · rw [p, e1, e3 b (by omega) h4]; exact h.1 (j - 1) b (by omega) h2 (by omega) (by omega)
    · by_cases q : b = j
      · rw [q, e1, e3 a p h3]; exact h.1 a (j - 1) (by omega) (by omega) p (by omega)
      · rw [e3 a p h3, e3 b q h4]; exact h.1 a b h1 h2 p q
  · rw [e2]
    by_cases q : b = j
    · rw [q, e1]; omega
    · rw [e3 b q (by omega)]; exact h.2 b (by omega) h2
set_option maxHeartbeats 400000 in
theorem nanF_c (a : Int) (w : World) : Calls Try.prog 22 #[.int .u32 a] w fun e w' => e = .returned (.bool false) ∧ w' = w := by
  have hb : (a != a) = false := by simp
  go_enter Try.func22, Try.ntmps22
  go_wp2
  go_ret
  exact ⟨rfl, rfl⟩
set_option maxHeartbeats 400000 in
theorem lessF_c (a b : Int) (w : World) : Calls Try.prog 55 #[.int .u32 a, .int .u32 b] w fun e w' => e = .returned (.bool (decide (a < b))) ∧ w' = w := by
  go_enter Try.func55, Try.ntmps55
  go_wp2_with (go_at_call 22; refine (nanF_c _ _).mono ?_; rintro _ w1 ⟨rfl, h1⟩; rw [h1])
  go_ret
  exact ⟨rfl, rfl⟩
set_option maxHeartbeats 4000000 in
theorem insertF_c (g n cap : Nat) (f0 : Nat → Int) (w : World) (h : FidsAt w g n f0) (hinj : ∀ a b, a < n → b < n → f0 a = f0 b → a = b) (hn : n ≤ 12) (hcap : n ≤ cap) :
    Calls Try.prog 49 #[.slice (some ⟨g, 0, none⟩) n cap, .int .i64 0, .int .i64 n] w fun e w' => e = .returned (.tuple #[]) ∧ ∃ f, FidsAt w' g n f ∧ SameF n f0 f ∧ UpF n f ∧ Ou (fun k => k = g) w w' := by
  have H0 := hid h
  have S0 : Hid (SameF n f0 f0) := hid ⟨fun x => Iff.rfl, hinj⟩
  clear h hinj
  go_enter Try.func49, Try.ntmps49
  go_wp2
  go_loopw [6] (fun v6 wr => ∃ (i : Nat) (f : Nat → Int), 1 ≤ i ∧ (i ≤ n ∨ i = 1) ∧ v6 = .int .i64 i ∧ Hid (FidsAt wr g n f) ∧ Hid (SameF n f0 f) ∧ Hid (UpF i f) ∧ Hid (Ou (fun k => k = g) w wr)) (fun i _ => (13 - intOf i).toNat)
  case atStart => exact ⟨1, f0, by omega, by omega, rfl, H0, S0, hid (fun a b h1 h2 => by omega), hid (Ou.refl _ _)⟩
  case round =>
    obtain ⟨i, f, hi1, hin, rfl, FX, SX, UX, OX⟩ := hrel
    obtain ⟨wo, hwo⟩ : ∃ wo, wo = wr := ⟨_, rfl⟩
    subst hwo
    by_cases hlt : i < n
    · have hltI : (i : Int) < (n : Int) := by omega
      have NS := hid (near_start UX.out)
      go_wp2
      go_loopw [7] (fun v7 wx => ∃ (j : Nat) (f' : Nat → Int), j ≤ i ∧ v7 = .int .i64 j ∧ Hid (FidsAt wx g n f') ∧ Hid (SameF n f0 f') ∧ Hid (NearF i j f') ∧ Hid (Ou (fun k => k = g) w wx)) (fun j _ => (intOf j).toNat)
      case atStart => exact ⟨i, f, by omega, rfl, FX, SX, NS, OX⟩
      case round =>
        obtain ⟨j, f', hj, rfl, FY, SY, NY, OY⟩ := hrel
        by_cases h0 : 0 < j
        · have h0I : (0 : Int) < (j : Int) := by omega
          have hjn : (j : Int) < (n : Int) := by omega
          have hj1 : (j : Int) - 1 = ((j - 1 : Nat) : Int) := by omega
          have hj1n : ((j - 1 : Nat) : Int) < (n : Int) := by omega
          obtain ⟨c1, z1⟩ := FY.out.cell (j := j) (by omega)
          obtain ⟨c2, z2⟩ := FY.out.cell (j := j - 1) (by omega)
          by_cases hls : f' j < f' (j - 1)
          · have hld : decide (f' j < f' (j - 1)) = true := decide_eq_true hls
            have FZ : Hid (∀ k, FidsAt (wr.drewN k) g n f') := hid (fun k => FidsAt.drewN FY.out k)
            have OZ : Hid (∀ k, Ou (fun k => k = g) w (wr.drewN k)) := hid (fun k => OY.out.drewN k)
            go_wp2_with fail
            go_quiet ((go_at_call 55; exact Calls.quiet_of_same (lessF_c _ _ _)))
            go_wp2_with fail
            have FW := hid (FZ.out nq)
            have OW := hid (OZ.out nq)
            generalize wr.drewN nq = W at *
            obtain ⟨c1', z1'⟩ := FW.out.cell (j := j) (by omega)
            obtain ⟨c2', z2'⟩ := FW.out.cell (j := j - 1) (by omega)
            clear c1 c2 z1 z2 FZ OZ
            have hjne : ¬ j = j - 1 := by omega
            have hjne' : ¬ j - 1 = j := by omega
            go_region
            have F9 : Hid (FidsAt ((W.setCell ⟨g, j, none⟩ (.int .u32 (f' (j - 1)))).setCell ⟨g, j - 1, none⟩ (.int .u32 (f' j))).drew g n (swF f' j)) := hid (((FW.out.set (j := j) (by omega) (f' (j - 1))).set (j := j - 1) (by omega) (f' j)).drew.ext (fun k hk => by
              unfold swF
              by_cases q1 : k = j
              · rw [if_pos q1, if_neg (by omega), if_pos q1]
              · rw [if_neg q1]
                by_cases q2 : k = j - 1
                · rw [if_pos q2, if_pos q2]
                · rw [if_neg q2, if_neg q2, if_neg q1]))
            have O9 : Hid (Ou (fun k => k = g) w ((W.setCell ⟨g, j, none⟩ (.int .u32 (f' (j - 1)))).setCell ⟨g, j - 1, none⟩ (.int .u32 (f' j))).drew) := hid ((OW.out.set rfl).set rfl).drew
            have S9 := hid (swF_same SY.out (j := j) h0 (by omega))
            have N9 := hid (near_step NY.out h0 hj hls)
            clear c1' c2' z1' z2'
            go_wp2
            go_roundw
            case rel => exact ⟨j - 1, swF f' j, by omega, by first | rfl | go_num, F9, S9, N9, O9⟩
            case measure => simp [intOf]; omega
          · have hld : decide (f' j < f' (j - 1)) = false := decide_eq_false hls
            have UE := hid (near_end NY.out hj (.inr (by omega)))
            have FZ : Hid (∀ k, FidsAt (wr.drewN k) g n f') := hid (fun k => FidsAt.drewN FY.out k)
            have OZ : Hid (∀ k, Ou (fun k => k = g) w (wr.drewN k)) := hid (fun k => OY.out.drewN k)
            go_wp2_with fail
            go_quiet ((go_at_call 55; exact Calls.quiet_of_same (lessF_c _ _ _)))
            go_wp2
            go_roundw
            case rel => exact ⟨i + 1, f', by omega, by omega, by go_num, hid (FZ.out _), SY, UE, hid (OZ.out _)⟩
            case measure => simp [intOf]; omega
        · obtain rfl : j = 0 := by omega
          have UE := hid (near_end NY.out hj (.inl rfl))
          have FZ : Hid (∀ k, FidsAt (wr.drewN k) g n f') := hid (fun k => FidsAt.drewN FY.out k)
          have OZ : Hid (∀ k, Ou (fun k => k = g) w (wr.drewN k)) := hid (fun k => OY.out.drewN k)
          have hd0 : decide ((0 : Int) < ((0 : Nat) : Int)) = false := rfl
          go_wp2_with fail
          go_quiet (fail)
          go_wp2
          go_roundw
          case rel => exact ⟨i + 1, f', by omega, by omega, by go_num, hid (FZ.out _), SY, UE, hid (OZ.out _)⟩
          case measure => simp [intOf]; omega
    · have hltI : ¬ (i : Int) < (n : Int) := by omega
      have hltd : decide ((i : Int) < (n : Int)) = false := decide_eq_false hltI
      have UE : Hid (UpF n f) := hid (fun a b h1 h2 => UX.out a b h1 (by omega))
      go_wp2
      exact body_endF (by kernel_rfl) rfl ⟨rfl, f, FX.out, SX.out, UE.out, OX.out⟩
set_option maxHeartbeats 1000000 in
theorem len64_c (n : Nat) (hn : n ≤ 12) (w : World) : Calls Try.prog 36 #[.int .u64 n] w fun e w' => (∃ v : Int, e = .returned (.int .i64 v)) ∧ w' = w := by
  have h1 : ¬ (4294967296 : Int) ≤ (n : Int) := by omega
  have h2 : ¬ (65536 : Int) ≤ (n : Int) := by omega
  have h3 : ¬ (256 : Int) ≤ (n : Int) := by omega
  have h4 : (n : Int) < 256 := by omega
  obtain h | h | h | h | h | h | h | h | h | h | h | h | h : n = 0 ∨ n = 1 ∨ n = 2 ∨ n = 3 ∨ n = 4 ∨ n = 5 ∨ n = 6 ∨ n = 7 ∨ n = 8 ∨ n = 9 ∨ n = 10 ∨ n = 11 ∨ n = 12 := by omega
  all_goals (
    subst h
    clear h1 h2 h3 h4
    go_enter Try.func36, Try.ntmps36
    go_wp2
    go_ret
    exact ⟨⟨_, rfl⟩, rfl⟩)
set_option maxHeartbeats 1000000 in
theorem len_c (n : Nat) (hn : n ≤ 12) (w : World) : Calls Try.prog 20 #[.int .u64 n] w fun e w' => (∃ v : Int, e = .returned (.int .i64 v)) ∧ w' = w := by
  go_enter Try.func20, Try.ntmps20
  go_wp2_with (go_at_call 36; refine (len64_c n hn _).mono ?_; rintro _ w1 ⟨⟨v, rfl⟩, h1⟩; rw [h1])
  go_ret
  exact ⟨⟨_, rfl⟩, rfl⟩
def SortedTo (w : World) (g n : Nat) (f0 : Nat → Int) (e : Ending) (w' : World) : Prop := e = .returned (.tuple #[]) ∧ ∃ f, FidsAt w' g n f ∧ SameF n f0 f ∧ UpF n f ∧ Ou (fun k => k = g) w w'
set_option maxHeartbeats 1000000 in
theorem pdqF_c (g n cap : Nat) (f0 : Nat → Int) (lim : Int) (w : World) (h : FidsAt w g n f0) (hinj : ∀ a b, a < n → b < n → f0 a = f0 b → a = b) (hn : n ≤ 12) (hcap : n ≤ cap) :
    Calls Try.prog 47 #[.slice (some ⟨g, 0, none⟩) n cap, .int .i64 0, .int .i64 n, .int .i64 lim] w (SortedTo w g n f0) := by
  have IC := hid (insertF_c g n cap f0 w h hinj hn hcap)
  have hnI : (n : Int) ≤ 12 := by omega
  clear h hinj
  go_enter Try.func47, Try.ntmps47
  go_wp2
  refine wp_loop_rounds 1 ?_
  rw [rounds_succ]
  go_wp2_with (go_at_call 49; refine IC.out.mono ?_; rintro _ w1 ⟨rfl, hr⟩)
  exact bodyPost_ret (v := .tuple #[]) (by simp [results, Try.results47, go_sem]) rfl ⟨rfl, by first | exact hr | rfl⟩
set_option maxHeartbeats 1000000 in
theorem sortF_c (g n cap : Nat) (f0 : Nat → Int) (w : World) (h : FidsAt w g n f0) (hinj : ∀ a b, a < n → b < n → f0 a = f0 b → a = b) (hn : n ≤ 12) (hcap : n ≤ cap) :
    Calls Try.prog 39 #[.slice (some ⟨g, 0, none⟩) n cap] w (SortedTo w g n f0) := by
  have PC : Hid (∀ v, Calls Try.prog 47 #[.slice (some ⟨g, 0, none⟩) n cap, .int .i64 0, .int .i64 n, .int .i64 v] w (SortedTo w g n f0)) := hid (fun v => pdqF_c g n cap f0 v w h hinj hn hcap)
  clear h hinj
  go_enter Try.func39, Try.ntmps39
  go_wp2_with (first
    | (go_at_call 20; refine (len_c n hn _).mono ?_; rintro _ w1 ⟨⟨v, rfl⟩, h1⟩; rw [h1])
    | (go_at_call 47; refine (PC.out _).mono ?_; rintro _ w2 ⟨rfl, hr⟩))
  exact body_endF (by kernel_rfl) rfl ⟨rfl, by first | exact hr | rfl⟩
set_option maxHeartbeats 1000000 in
theorem insertF_nil (a : Option Addr) (cap : Nat) (w : World) : Calls Try.prog 49 #[.slice a 0 cap, .int .i64 0, .int .i64 0] w fun e w' => e = .returned (.tuple #[]) ∧ w' = w := by
  go_enter Try.func49, Try.ntmps49
  go_wp2
  refine wp_loop_rounds 1 ?_
  rw [rounds_succ]
  go_wp2
  exact body_endF (by kernel_rfl) rfl ⟨rfl, rfl⟩
set_option maxHeartbeats 1000000 in
theorem pdqF_nil (a : Option Addr) (cap : Nat) (v : Int) (w : World) : Calls Try.prog 47 #[.slice a 0 cap, .int .i64 0, .int .i64 0, .int .i64 v] w fun e w' => e = .returned (.tuple #[]) ∧ w' = w := by
  go_enter Try.func47, Try.ntmps47
  go_wp2
  refine wp_loop_rounds 1 ?_
  rw [rounds_succ]
  go_wp2_with (go_at_call 49; refine (insertF_nil a cap w).mono ?_; rintro _ w1 ⟨rfl, hr⟩)
  exact bodyPost_ret (v := .tuple #[]) (by simp [results, Try.results47, go_sem]) rfl ⟨rfl, by first | exact hr | rfl⟩
set_option maxHeartbeats 1000000 in
theorem sortF_nil (a : Option Addr) (cap : Nat) (w : World) : Calls Try.prog 39 #[.slice a 0 cap] w fun e w' => e = .returned (.tuple #[]) ∧ w' = w := by
  have LC : Hid (∀ W, Calls Try.prog 20 #[.int .u64 0] W fun e w' => (∃ v : Int, e = .returned (.int .i64 v)) ∧ w' = W) := hid (fun W => len_c 0 (by omega) W)
  go_enter Try.func39, Try.ntmps39
  go_wp2_with (first
    | (go_at_call 20; refine (LC.out _).mono ?_; rintro _ w1 ⟨⟨v, rfl⟩, h1⟩; rw [h1])
    | (go_at_call 47; refine (pdqF_nil a cap _ w).mono ?_; rintro _ w2 ⟨rfl, hr⟩))
  exact body_endF (by kernel_rfl) rfl ⟨rfl, by first | exact hr | rfl⟩
end Go.Proofs.Ytilcbkejmpfnfab
