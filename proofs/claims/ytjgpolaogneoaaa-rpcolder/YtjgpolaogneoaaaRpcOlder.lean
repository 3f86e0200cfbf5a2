/-
  For every two epochs and every two numbers: what is of an elder epoch, or of an elder call, is not taken; nothing of the number 0 is.
-/
import Derived.Test.YtjgpolaogneoaaaRLv
namespace Go.Proofs.Ytjgpolaogneoaaa
open Go.RowKit Go.ChangeShapes Go.WideShapes Go.ChangeAt
open Go.ChangeMaps (open_string shut_string)
set_option linter.unusedVariables false
set_option linter.unusedSimpArgs false
set_option maxRecDepth 100000
def TwoAt (w : World) (B : Nat) (x y : Int) : Prop := w.heap[B]? = some (.cells #[.int .u32 x, .int .u32 y] 51 (0, 0))
theorem TwoAt.cells {w : World} {B : Nat} {x y : Int} (h : TwoAt w B x y) : w.cell? ⟨B, 0, none⟩ = some (.int .u32 x) ∧ w.cell? ⟨B, 1, none⟩ = some (.int .u32 y) := by
  unfold TwoAt at h
  refine ⟨?_, ?_⟩
  all_goals simp [World.cell?, h]
theorem TwoAt.out {S : Nat → Prop} {w w' : World} {g : Nat} {x y : Int} (h : TwoAt w g x y) (ho : Ou S w w') (hS : ¬ S g) : TwoAt w' g x y := by
  unfold TwoAt at *; rw [ho.block g (lt_blkC h) hS]; exact h
theorem TwoAt.later {w w' : World} {g : Nat} {x y : Int} (h : TwoAt w g x y) (hb : Below w.heap.size w w') : TwoAt w' g x y := h.out (S := fun _ => False) (Ou.of hb) id
theorem TwoAt.lt {w : World} {g : Nat} {x y : Int} (h : TwoAt w g x y) : g < w.heap.size := lt_blkC h
abbrev K00 : Nat → Tk := fun _ => ⟨0, 0, 0, ⟨#[]⟩⟩
theorem wf_upd (e s : Int) (he : 0 ≤ e ∧ e < 4294967296) (hs : 0 ≤ s ∧ s < 4294967296) (i : Nat) : (updK K00 1 ⟨1, e, s, ⟨#[]⟩⟩ i).Wf := by
  unfold updK
  by_cases hi : i = 1
  · rw [if_pos hi]
    exact ⟨(show (0 : Int) ≤ 1 ∧ (1 : Int) ≤ 2 by decide), he, hs, (show (⟨#[]⟩ : ByteArray).size ≤ 16384 by decide)⟩
  · rw [if_neg hi]
    exact wft0 i
theorem age_lt (e0 e1 s0 s1 : Int) : decide (orF (cmpF e0 e1) (cmpF s0 s1) < 0) = (decide (e0 < e1) || (e1 == e0 && decide (s0 < s1))) := by
  unfold orF cmpF
  by_cases h1 : e0 < e1
  · simp [h1]
  · by_cases h2 : e1 < e0
    · have h3 : ¬ e1 = e0 := by omega
      simp [h1, h2, h3]
    · have h3 : e1 = e0 := by omega
      subst h3
      by_cases h4 : s0 < s1
      · simp [h4]
      · by_cases h5 : s1 < s0
        · simp [h4, h5]
        · simp [h4, h5]
theorem asks1 (e s : Int) (b : ByteArray) (hb : b.size ≤ 16384) : asksB ⟨1, 1, 0, e, s, b⟩ = (s != 0) := by
  unfold asksB Fr.rightB
  simp [hb]
theorem older_take {w : World} {g : Nat} {F : Nat → Tk} (h : IsK w g F) (hF : ∀ i, (F i).Wf) (hst : (F 1).st ≠ 2) (e s : Int) (b : ByteArray) (hb : b.size ≤ 16384) (he : 0 ≤ e ∧ e < 4294967296) (hs : 0 ≤ s ∧ s < 4294967296) (ok : Bool) (hok : (s != 0 && newerB (F 1) ⟨1, 1, 0, e, s, b⟩) = ok) :
    Calls Try.prog 17 #[pC g, .agg #[.int .u8 1, .int .u8 1, .int .u8 0, .int .u32 e, .int .u32 s, .string b]] w fun x w' => ∃ t, x = .returned (.tuple #[.string t, .bool ok, .agg #[.int .u8 0, .int .u8 0, .int .u8 0, .int .u32 0, .int .u32 0, .string ⟨#[]⟩], .bool false]) ∧ IsK w' g (if ok then updK F 1 ⟨1, e, s, ⟨#[]⟩⟩ else F) ∧ Ou (fun k => k = g) w w' := by
  have e1 : ktOk F ⟨1, 1, 0, e, s, b⟩ = ok := by
    rw [← hok, ← asks1 e s b hb]; rfl
  have e2 : ktIs F ⟨1, 1, 0, e, s, b⟩ = false := by
    show (_ && _ && decide ((F 1).st = 2) && _) = false
    rw [decide_eq_false hst]; simp
  refine (ktake_c h hF ⟨1, 1, 0, e, s, b⟩ ⟨(show (0 : Int) ≤ 1 ∧ (1 : Int) < 256 by decide), (show (0 : Int) ≤ 1 ∧ (1 : Int) < 256 by decide), (show (0 : Int) ≤ 0 ∧ (0 : Int) < 256 by decide), he, hs⟩ (by unfold maxLen; simp only; omega)).mono ?_
  rintro x w' ⟨h1, h2, h3⟩
  refine ⟨ktBody F ⟨1, 1, 0, e, s, b⟩, ?_, ?_, h3⟩
  · rw [h1, e1, e2]
    unfold ktPk
    rw [e2]
    rfl
  · unfold ktS at h2
    rw [e1] at h2
    exact h2
set_option maxHeartbeats 4000000 in
theorem older_nna (e0 e1 s0 s1 : Int) (w : World) (he0 : 0 ≤ e0 ∧ e0 < 4294967296) (he1 : 0 ≤ e1 ∧ e1 < 4294967296) (hs0 : 0 ≤ s0 ∧ s0 < 4294967296) (hs1 : 0 ≤ s1 ∧ s1 < 4294967296) (h0 : (s0 != 0) = true) (h1 : (s1 != 0) = true) (hc : e0 < e1) :
    Calls Try.prog 6 #[.agg #[.int .u32 e0, .int .u32 e1], .agg #[.int .u32 s0, .int .u32 s1]] w fun x w' => x = .returned (.bool true) ∧ Below w.heap.size w w' := by
  have bz : (s0 == 0) = false := by exact beq_eq_false_iff_ne.2 (bne_iff_ne.1 h0)
  have OK2 : Hid ((s1 != 0 && newerB ((if true then updK K00 1 ⟨1, e0, s0, ⟨#[]⟩⟩ else K00) 1) ⟨1, 1, 0, e1, s1, ⟨#[98]⟩⟩) = true) := by
    show _ = _
    rw [h1]
    show (true && (decide ((1 : Int) = 0) || decide (orF (cmpF e0 e1) (cmpF s0 s1) < 0))) = true
    rw [age_lt]
    simp [hc]
  have OK1 : Hid ((s0 != 0 && newerB (K00 1) ⟨1, 1, 0, e0, s0, ⟨#[97]⟩⟩) = true) := by show _ = _; rw [h0]; rfl
  have WF2 : Hid (∀ i, ((if true then updK K00 1 ⟨1, e0, s0, ⟨#[]⟩⟩ else K00) i).Wf) := fun i => by
    exact wf_upd e0 s0 he0 hs0 i
  have ST2 : Hid (((if true then updK K00 1 ⟨1, e0, s0, ⟨#[]⟩⟩ else K00) 1).st ≠ 2) := by show _ ≠ _; show (1 : Int) ≠ 2; decide
  have b1 : Below w.heap.size w (w.alloc (.cells #[.int .u32 e0, .int .u32 e1] 51)) := (Below.refl _ _).alloc (Nat.le_refl _) _
  have t1 : TwoAt (w.alloc (.cells #[.int .u32 e0, .int .u32 e1] 51)) w.heap.size e0 e1 := heap_alloc_new w _
  have b2 : Below (w.alloc (.cells #[.int .u32 e0, .int .u32 e1] 51)).heap.size (w.alloc (.cells #[.int .u32 e0, .int .u32 e1] 51)) ((w.alloc (.cells #[.int .u32 e0, .int .u32 e1] 51)).alloc (.cells #[.int .u32 s0, .int .u32 s1] 51)) := (Below.refl _ _).alloc (Nat.le_refl _) _
  have t2 : TwoAt ((w.alloc (.cells #[.int .u32 e0, .int .u32 e1] 51)).alloc (.cells #[.int .u32 s0, .int .u32 s1] 51)) (w.heap.size + 1) s0 s1 := by
    have e0' : (w.alloc (.cells #[.int .u32 e0, .int .u32 e1] 51)).heap.size = w.heap.size + 1 := by simp
    rw [← e0']
    exact heap_alloc_new _ _
  have X0 := hid (t1.later b2)
  have Y0 := hid t2
  have B0 : Hid (Below w.heap.size w ((w.alloc (.cells #[.int .u32 e0, .int .u32 e1] 51)).alloc (.cells #[.int .u32 s0, .int .u32 s1] 51))) := hid (b1.trans (b2.mono b1.size))
  clear b1 b2 t1 t2
  go_enter Try.func6, Try.ntmps6
  go_wp2_with fail
  generalize ((w.alloc (.cells #[.int .u32 e0, .int .u32 e1] 51)).alloc (.cells #[.int .u32 s0, .int .u32 s1] 51)) = W0 at *
  refine (newCallee_c W0).mono ?_
  rintro _ w1 ⟨rfl, hK1, hb1⟩
  have l0 : w.heap.size + 1 < W0.heap.size := Y0.out.lt
  have l1 : W0.heap.size < w1.heap.size := hK1.lt
  have X1 := hid (X0.out.later hb1)
  have Y1 := hid (Y0.out.later hb1)
  obtain ⟨x0, x1⟩ := X1.out.cells
  obtain ⟨y0, y1⟩ := Y1.out.cells
  have B1 := hid (B0.out.trans (hb1.mono B0.out.size))
  have b3 : Below w1.heap.size w1 (w1.alloc (.cells #[.int .u8 1, .int .u8 1, .int .u8 0, .int .u32 e0, .int .u32 s0, .string ⟨#[97]⟩] 39)) := (Below.refl _ _).alloc (Nat.le_refl _) _
  have b4 : Below w1.heap.size w1 ((w1.alloc (.cells #[.int .u8 1, .int .u8 1, .int .u8 0, .int .u32 e0, .int .u32 s0, .string ⟨#[97]⟩] 39)).alloc (.cells #[.int .u8 1, .int .u8 1, .int .u8 0, .int .u32 e1, .int .u32 s1, .string ⟨#[98]⟩] 39)) := b3.alloc (by simp) _
  have P4 : Hid (PkAt ((w1.alloc (.cells #[.int .u8 1, .int .u8 1, .int .u8 0, .int .u32 e0, .int .u32 s0, .string ⟨#[97]⟩] 39)).alloc (.cells #[.int .u8 1, .int .u8 1, .int .u8 0, .int .u32 e1, .int .u32 s1, .string ⟨#[98]⟩] 39)) (w1.heap.size + 1) ⟨1, 1, 0, e1, s1, ⟨#[98]⟩⟩) := by
    show PkAt _ _ _
    have e0' : (w1.alloc (.cells #[.int .u8 1, .int .u8 1, .int .u8 0, .int .u32 e0, .int .u32 s0, .string ⟨#[97]⟩] 39)).heap.size = w1.heap.size + 1 := by simp
    rw [← e0']
    exact PkAt.new _ ⟨1, 1, 0, e1, s1, ⟨#[98]⟩⟩
  have KT := hid (older_take (hK1.later b4) wft0 (by decide) e0 s0 ⟨#[97]⟩ (by decide) he0 hs0 _ OK1.out)
  have X4 := hid (X1.out.later b4)
  have Y4 := hid (Y1.out.later b4)
  have B4 := hid (B1.out.trans (b4.mono B1.out.size))
  have l4 : w1.heap.size + 2 ≤ ((w1.alloc (.cells #[.int .u8 1, .int .u8 1, .int .u8 0, .int .u32 e0, .int .u32 s0, .string ⟨#[97]⟩] 39)).alloc (.cells #[.int .u8 1, .int .u8 1, .int .u8 0, .int .u32 e1, .int .u32 s1, .string ⟨#[98]⟩] 39)).heap.size := by simp
  have aw10 : w.heap.size < w1.heap.size := by omega
  have nw10 : ¬ w.heap.size = w1.heap.size := by omega
  have aw11 : w.heap.size + 1 < w1.heap.size := by omega
  have nw11 : ¬ w.heap.size + 1 = w1.heap.size := by omega
  clear hK1 hb1 X0 Y0 B0 b3 b4 B1
  go_wp2_with fail
  generalize ((w1.alloc (.cells #[.int .u8 1, .int .u8 1, .int .u8 0, .int .u32 e0, .int .u32 s0, .string ⟨#[97]⟩] 39)).alloc (.cells #[.int .u8 1, .int .u8 1, .int .u8 0, .int .u32 e1, .int .u32 s1, .string ⟨#[98]⟩] 39)) = W4 at *
  refine KT.out.mono ?_
  rintro _ w5 ⟨tx1, rfl, hK5, ho5⟩
  have l5 := ho5.size
  have b6 : Below w5.heap.size w5 (w5.alloc (.cells #[.int .u8 0, .int .u8 0, .int .u8 0, .int .u32 0, .int .u32 0, .string ⟨#[]⟩] 39)) := (Below.refl _ _).alloc (Nat.le_refl _) _
  have X6 := hid ((X4.out.out ho5 (by omega)).later b6)
  have Y6 := hid ((Y4.out.out ho5 (by omega)).later b6)
  have P6 := hid ((P4.out.out ho5 (by omega)).later b6)
  have b5 := B4.out.trans (ho5.below B4.out.size (fun k e => by omega))
  have B6 := hid (b5.trans (b6.mono b5.size))
  have KT2 := hid (older_take (hK5.later b6) WF2.out ST2.out e1 s1 ⟨#[98]⟩ (by decide) he1 hs1 _ OK2.out)
  have l6 := b6.size
  clear x0 x1 y0 y1
  obtain ⟨y0, y1⟩ := Y6.out.cells
  obtain ⟨q0, q1, q2, q3, q4, q5, _⟩ := P6.out.cells
  simp only at q0 q1 q2 q3 q4 q5
  have aw50 : w.heap.size < w5.heap.size := by omega
  have nw50 : ¬ w.heap.size = w5.heap.size := by omega
  have aw51 : w.heap.size + 1 < w5.heap.size := by omega
  have nw51 : ¬ w.heap.size + 1 = w5.heap.size := by omega
  have aw52 : w1.heap.size + 1 < w5.heap.size := by omega
  have nw52 : ¬ w1.heap.size + 1 = w5.heap.size := by omega
  clear KT hK5 ho5 X4 Y4 P4 B4 b5 b6
  go_wp2_with fail
  generalize (w5.alloc (.cells #[.int .u8 0, .int .u8 0, .int .u8 0, .int .u32 0, .int .u32 0, .string ⟨#[]⟩] 39)) = W6 at *
  refine KT2.out.mono ?_
  rintro _ w7 ⟨tx2, rfl, hK7, ho7⟩
  have X7 := hid (X6.out.out ho7 (by omega))
  have Y7 := hid (Y6.out.out ho7 (by omega))
  have B7 := hid (B6.out.trans (ho7.below B6.out.size (fun k e => by omega)))
  have l7 := ho7.size
  have aw7 : w.heap.size < w7.heap.size := by omega
  have bw7 : w.heap.size + 1 < w7.heap.size := by omega
  have cw7 : ¬ w.heap.size = w7.heap.size := by omega
  have dw7 : ¬ w.heap.size + 1 = w7.heap.size := by omega
  clear y0 y1 q0 q1 q2 q3 q4 q5 hK7 ho7 KT2
  obtain ⟨x0, x1⟩ := X7.out.cells
  obtain ⟨y0, y1⟩ := Y7.out.cells
  go_wp2_with fail
  have b8 : Below w7.heap.size w7 (w7.alloc (.cells #[.int .u8 0, .int .u8 0, .int .u8 0, .int .u32 0, .int .u32 0, .string ⟨#[]⟩] 39)) := (Below.refl _ _).alloc (Nat.le_refl _) _
  have X8 := hid (X7.out.later b8)
  have Y8 := hid (Y7.out.later b8)
  have B8 := hid (B7.out.trans (b8.mono B7.out.size))
  clear b8
  generalize (w7.alloc (.cells #[.int .u8 0, .int .u8 0, .int .u8 0, .int .u32 0, .int .u32 0, .string ⟨#[]⟩] 39)) = W8 at *
  refine (rlive_c _).mono ?_
  rintro _ w9 ⟨rfl, hb9⟩
  obtain ⟨y0, y1⟩ := (Y8.out.later hb9).cells
  go_wp2
  go_ret
  exact ⟨rfl, B8.out.trans (hb9.mono B8.out.size)⟩
set_option maxHeartbeats 4000000 in
theorem older_nnb (e0 e1 s0 s1 : Int) (w : World) (he0 : 0 ≤ e0 ∧ e0 < 4294967296) (he1 : 0 ≤ e1 ∧ e1 < 4294967296) (hs0 : 0 ≤ s0 ∧ s0 < 4294967296) (hs1 : 0 ≤ s1 ∧ s1 < 4294967296) (h0 : (s0 != 0) = true) (h1 : (s1 != 0) = true) (hc : ¬ e0 < e1) (hd : (e1 == e0) = true) (hx : s0 < s1) :
    Calls Try.prog 6 #[.agg #[.int .u32 e0, .int .u32 e1], .agg #[.int .u32 s0, .int .u32 s1]] w fun x w' => x = .returned (.bool true) ∧ Below w.heap.size w w' := by
  have bz : (s0 == 0) = false := by exact beq_eq_false_iff_ne.2 (bne_iff_ne.1 h0)
  have hcd : decide (e0 < e1) = false := decide_eq_false hc
  have OK2 : Hid ((s1 != 0 && newerB ((if true then updK K00 1 ⟨1, e0, s0, ⟨#[]⟩⟩ else K00) 1) ⟨1, 1, 0, e1, s1, ⟨#[98]⟩⟩) = true) := by
    show _ = _
    rw [h1]
    show (true && (decide ((1 : Int) = 0) || decide (orF (cmpF e0 e1) (cmpF s0 s1) < 0))) = true
    rw [age_lt]
    simp [hc, hd, hx]
  have OK1 : Hid ((s0 != 0 && newerB (K00 1) ⟨1, 1, 0, e0, s0, ⟨#[97]⟩⟩) = true) := by show _ = _; rw [h0]; rfl
  have WF2 : Hid (∀ i, ((if true then updK K00 1 ⟨1, e0, s0, ⟨#[]⟩⟩ else K00) i).Wf) := fun i => by
    exact wf_upd e0 s0 he0 hs0 i
  have ST2 : Hid (((if true then updK K00 1 ⟨1, e0, s0, ⟨#[]⟩⟩ else K00) 1).st ≠ 2) := by show _ ≠ _; show (1 : Int) ≠ 2; decide
  have b1 : Below w.heap.size w (w.alloc (.cells #[.int .u32 e0, .int .u32 e1] 51)) := (Below.refl _ _).alloc (Nat.le_refl _) _
  have t1 : TwoAt (w.alloc (.cells #[.int .u32 e0, .int .u32 e1] 51)) w.heap.size e0 e1 := heap_alloc_new w _
  have b2 : Below (w.alloc (.cells #[.int .u32 e0, .int .u32 e1] 51)).heap.size (w.alloc (.cells #[.int .u32 e0, .int .u32 e1] 51)) ((w.alloc (.cells #[.int .u32 e0, .int .u32 e1] 51)).alloc (.cells #[.int .u32 s0, .int .u32 s1] 51)) := (Below.refl _ _).alloc (Nat.le_refl _) _
  have t2 : TwoAt ((w.alloc (.cells #[.int .u32 e0, .int .u32 e1] 51)).alloc (.cells #[.int .u32 s0, .int .u32 s1] 51)) (w.heap.size + 1) s0 s1 := by
    have e0' : (w.alloc (.cells #[.int .u32 e0, .int .u32 e1] 51)).heap.size = w.heap.size + 1 := by simp
    rw [← e0']
    exact heap_alloc_new _ _
  have X0 := hid (t1.later b2)
  have Y0 := hid t2
  have B0 : Hid (Below w.heap.size w ((w.alloc (.cells #[.int .u32 e0, .int .u32 e1] 51)).alloc (.cells #[.int .u32 s0, .int .u32 s1] 51))) := hid (b1.trans (b2.mono b1.size))
  clear b1 b2 t1 t2
  go_enter Try.func6, Try.ntmps6
  go_wp2_with fail
  generalize ((w.alloc (.cells #[.int .u32 e0, .int .u32 e1] 51)).alloc (.cells #[.int .u32 s0, .int .u32 s1] 51)) = W0 at *
  refine (newCallee_c W0).mono ?_
  rintro _ w1 ⟨rfl, hK1, hb1⟩
  have l0 : w.heap.size + 1 < W0.heap.size := Y0.out.lt
  have l1 : W0.heap.size < w1.heap.size := hK1.lt
  have X1 := hid (X0.out.later hb1)
  have Y1 := hid (Y0.out.later hb1)
  obtain ⟨x0, x1⟩ := X1.out.cells
  obtain ⟨y0, y1⟩ := Y1.out.cells
  have B1 := hid (B0.out.trans (hb1.mono B0.out.size))
  have b3 : Below w1.heap.size w1 (w1.alloc (.cells #[.int .u8 1, .int .u8 1, .int .u8 0, .int .u32 e0, .int .u32 s0, .string ⟨#[97]⟩] 39)) := (Below.refl _ _).alloc (Nat.le_refl _) _
  have b4 : Below w1.heap.size w1 ((w1.alloc (.cells #[.int .u8 1, .int .u8 1, .int .u8 0, .int .u32 e0, .int .u32 s0, .string ⟨#[97]⟩] 39)).alloc (.cells #[.int .u8 1, .int .u8 1, .int .u8 0, .int .u32 e1, .int .u32 s1, .string ⟨#[98]⟩] 39)) := b3.alloc (by simp) _
  have P4 : Hid (PkAt ((w1.alloc (.cells #[.int .u8 1, .int .u8 1, .int .u8 0, .int .u32 e0, .int .u32 s0, .string ⟨#[97]⟩] 39)).alloc (.cells #[.int .u8 1, .int .u8 1, .int .u8 0, .int .u32 e1, .int .u32 s1, .string ⟨#[98]⟩] 39)) (w1.heap.size + 1) ⟨1, 1, 0, e1, s1, ⟨#[98]⟩⟩) := by
    show PkAt _ _ _
    have e0' : (w1.alloc (.cells #[.int .u8 1, .int .u8 1, .int .u8 0, .int .u32 e0, .int .u32 s0, .string ⟨#[97]⟩] 39)).heap.size = w1.heap.size + 1 := by simp
    rw [← e0']
    exact PkAt.new _ ⟨1, 1, 0, e1, s1, ⟨#[98]⟩⟩
  have KT := hid (older_take (hK1.later b4) wft0 (by decide) e0 s0 ⟨#[97]⟩ (by decide) he0 hs0 _ OK1.out)
  have X4 := hid (X1.out.later b4)
  have Y4 := hid (Y1.out.later b4)
  have B4 := hid (B1.out.trans (b4.mono B1.out.size))
  have l4 : w1.heap.size + 2 ≤ ((w1.alloc (.cells #[.int .u8 1, .int .u8 1, .int .u8 0, .int .u32 e0, .int .u32 s0, .string ⟨#[97]⟩] 39)).alloc (.cells #[.int .u8 1, .int .u8 1, .int .u8 0, .int .u32 e1, .int .u32 s1, .string ⟨#[98]⟩] 39)).heap.size := by simp
  have aw10 : w.heap.size < w1.heap.size := by omega
  have nw10 : ¬ w.heap.size = w1.heap.size := by omega
  have aw11 : w.heap.size + 1 < w1.heap.size := by omega
  have nw11 : ¬ w.heap.size + 1 = w1.heap.size := by omega
  clear hK1 hb1 X0 Y0 B0 b3 b4 B1
  go_wp2_with fail
  generalize ((w1.alloc (.cells #[.int .u8 1, .int .u8 1, .int .u8 0, .int .u32 e0, .int .u32 s0, .string ⟨#[97]⟩] 39)).alloc (.cells #[.int .u8 1, .int .u8 1, .int .u8 0, .int .u32 e1, .int .u32 s1, .string ⟨#[98]⟩] 39)) = W4 at *
  refine KT.out.mono ?_
  rintro _ w5 ⟨tx1, rfl, hK5, ho5⟩
  have l5 := ho5.size
  have b6 : Below w5.heap.size w5 (w5.alloc (.cells #[.int .u8 0, .int .u8 0, .int .u8 0, .int .u32 0, .int .u32 0, .string ⟨#[]⟩] 39)) := (Below.refl _ _).alloc (Nat.le_refl _) _
  have X6 := hid ((X4.out.out ho5 (by omega)).later b6)
  have Y6 := hid ((Y4.out.out ho5 (by omega)).later b6)
  have P6 := hid ((P4.out.out ho5 (by omega)).later b6)
  have b5 := B4.out.trans (ho5.below B4.out.size (fun k e => by omega))
  have B6 := hid (b5.trans (b6.mono b5.size))
  have KT2 := hid (older_take (hK5.later b6) WF2.out ST2.out e1 s1 ⟨#[98]⟩ (by decide) he1 hs1 _ OK2.out)
  have l6 := b6.size
  clear x0 x1 y0 y1
  obtain ⟨y0, y1⟩ := Y6.out.cells
  obtain ⟨q0, q1, q2, q3, q4, q5, _⟩ := P6.out.cells
  simp only at q0 q1 q2 q3 q4 q5
  have aw50 : w.heap.size < w5.heap.size := by omega
  have nw50 : ¬ w.heap.size = w5.heap.size := by omega
  have aw51 : w.heap.size + 1 < w5.heap.size := by omega
  have nw51 : ¬ w.heap.size + 1 = w5.heap.size := by omega
  have aw52 : w1.heap.size + 1 < w5.heap.size := by omega
  have nw52 : ¬ w1.heap.size + 1 = w5.heap.size := by omega
  clear KT hK5 ho5 X4 Y4 P4 B4 b5 b6
  go_wp2_with fail
  generalize (w5.alloc (.cells #[.int .u8 0, .int .u8 0, .int .u8 0, .int .u32 0, .int .u32 0, .string ⟨#[]⟩] 39)) = W6 at *
  refine KT2.out.mono ?_
  rintro _ w7 ⟨tx2, rfl, hK7, ho7⟩
  have X7 := hid (X6.out.out ho7 (by omega))
  have Y7 := hid (Y6.out.out ho7 (by omega))
  have B7 := hid (B6.out.trans (ho7.below B6.out.size (fun k e => by omega)))
  have l7 := ho7.size
  have aw7 : w.heap.size < w7.heap.size := by omega
  have bw7 : w.heap.size + 1 < w7.heap.size := by omega
  have cw7 : ¬ w.heap.size = w7.heap.size := by omega
  have dw7 : ¬ w.heap.size + 1 = w7.heap.size := by omega
  clear y0 y1 q0 q1 q2 q3 q4 q5 hK7 ho7 KT2
  obtain ⟨x0, x1⟩ := X7.out.cells
  obtain ⟨y0, y1⟩ := Y7.out.cells
  go_wp2_with fail
  have b8 : Below w7.heap.size w7 (w7.alloc (.cells #[.int .u8 0, .int .u8 0, .int .u8 0, .int .u32 0, .int .u32 0, .string ⟨#[]⟩] 39)) := (Below.refl _ _).alloc (Nat.le_refl _) _
  have X8 := hid (X7.out.later b8)
  have Y8 := hid (Y7.out.later b8)
  have B8 := hid (B7.out.trans (b8.mono B7.out.size))
  clear b8
  generalize (w7.alloc (.cells #[.int .u8 0, .int .u8 0, .int .u8 0, .int .u32 0, .int .u32 0, .string ⟨#[]⟩] 39)) = W8 at *
  refine (rlive_c _).mono ?_
  rintro _ w9 ⟨rfl, hb9⟩
  obtain ⟨y0, y1⟩ := (Y8.out.later hb9).cells
  go_wp2
  go_ret
  exact ⟨rfl, B8.out.trans (hb9.mono B8.out.size)⟩
set_option maxHeartbeats 4000000 in
theorem older_nnc (e0 e1 s0 s1 : Int) (w : World) (he0 : 0 ≤ e0 ∧ e0 < 4294967296) (he1 : 0 ≤ e1 ∧ e1 < 4294967296) (hs0 : 0 ≤ s0 ∧ s0 < 4294967296) (hs1 : 0 ≤ s1 ∧ s1 < 4294967296) (h0 : (s0 != 0) = true) (h1 : (s1 != 0) = true) (hc : ¬ e0 < e1) (hd : (e1 == e0) = true) (hx : ¬ s0 < s1) :
    Calls Try.prog 6 #[.agg #[.int .u32 e0, .int .u32 e1], .agg #[.int .u32 s0, .int .u32 s1]] w fun x w' => x = .returned (.bool true) ∧ Below w.heap.size w w' := by
  have bz : (s0 == 0) = false := by exact beq_eq_false_iff_ne.2 (bne_iff_ne.1 h0)
  have hcd : decide (e0 < e1) = false := decide_eq_false hc
  have hxd : decide (s0 < s1) = false := decide_eq_false hx
  have OK2 : Hid ((s1 != 0 && newerB ((if true then updK K00 1 ⟨1, e0, s0, ⟨#[]⟩⟩ else K00) 1) ⟨1, 1, 0, e1, s1, ⟨#[98]⟩⟩) = false) := by
    show _ = _
    rw [h1]
    show (true && (decide ((1 : Int) = 0) || decide (orF (cmpF e0 e1) (cmpF s0 s1) < 0))) = false
    rw [age_lt]
    simp [hc, hd, hx]
  have OK1 : Hid ((s0 != 0 && newerB (K00 1) ⟨1, 1, 0, e0, s0, ⟨#[97]⟩⟩) = true) := by show _ = _; rw [h0]; rfl
  have WF2 : Hid (∀ i, ((if true then updK K00 1 ⟨1, e0, s0, ⟨#[]⟩⟩ else K00) i).Wf) := fun i => by
    exact wf_upd e0 s0 he0 hs0 i
  have ST2 : Hid (((if true then updK K00 1 ⟨1, e0, s0, ⟨#[]⟩⟩ else K00) 1).st ≠ 2) := by show _ ≠ _; show (1 : Int) ≠ 2; decide
  have b1 : Below w.heap.size w (w.alloc (.cells #[.int .u32 e0, .int .u32 e1] 51)) := (Below.refl _ _).alloc (Nat.le_refl _) _
  have t1 : TwoAt (w.alloc (.cells #[.int .u32 e0, .int .u32 e1] 51)) w.heap.size e0 e1 := heap_alloc_new w _
  have b2 : Below (w.alloc (.cells #[.int .u32 e0, .int .u32 e1] 51)).heap.size (w.alloc (.cells #[.int .u32 e0, .int .u32 e1] 51)) ((w.alloc (.cells #[.int .u32 e0, .int .u32 e1] 51)).alloc (.cells #[.int .u32 s0, .int .u32 s1] 51)) := (Below.refl _ _).alloc (Nat.le_refl _) _
  have t2 : TwoAt ((w.alloc (.cells #[.int .u32 e0, .int .u32 e1] 51)).alloc (.cells #[.int .u32 s0, .int .u32 s1] 51)) (w.heap.size + 1) s0 s1 := by
    have e0' : (w.alloc (.cells #[.int .u32 e0, .int .u32 e1] 51)).heap.size = w.heap.size + 1 := by simp
    rw [← e0']
    exact heap_alloc_new _ _
  have X0 := hid (t1.later b2)
  have Y0 := hid t2
  have B0 : Hid (Below w.heap.size w ((w.alloc (.cells #[.int .u32 e0, .int .u32 e1] 51)).alloc (.cells #[.int .u32 s0, .int .u32 s1] 51))) := hid (b1.trans (b2.mono b1.size))
  clear b1 b2 t1 t2
  go_enter Try.func6, Try.ntmps6
  go_wp2_with fail
  generalize ((w.alloc (.cells #[.int .u32 e0, .int .u32 e1] 51)).alloc (.cells #[.int .u32 s0, .int .u32 s1] 51)) = W0 at *
  refine (newCallee_c W0).mono ?_
  rintro _ w1 ⟨rfl, hK1, hb1⟩
  have l0 : w.heap.size + 1 < W0.heap.size := Y0.out.lt
  have l1 : W0.heap.size < w1.heap.size := hK1.lt
  have X1 := hid (X0.out.later hb1)
  have Y1 := hid (Y0.out.later hb1)
  obtain ⟨x0, x1⟩ := X1.out.cells
  obtain ⟨y0, y1⟩ := Y1.out.cells
  have B1 := hid (B0.out.trans (hb1.mono B0.out.size))
  have b3 : Below w1.heap.size w1 (w1.alloc (.cells #[.int .u8 1, .int .u8 1, .int .u8 0, .int .u32 e0, .int .u32 s0, .string ⟨#[97]⟩] 39)) := (Below.refl _ _).alloc (Nat.le_refl _) _
  have b4 : Below w1.heap.size w1 ((w1.alloc (.cells #[.int .u8 1, .int .u8 1, .int .u8 0, .int .u32 e0, .int .u32 s0, .string ⟨#[97]⟩] 39)).alloc (.cells #[.int .u8 1, .int .u8 1, .int .u8 0, .int .u32 e1, .int .u32 s1, .string ⟨#[98]⟩] 39)) := b3.alloc (by simp) _
  have P4 : Hid (PkAt ((w1.alloc (.cells #[.int .u8 1, .int .u8 1, .int .u8 0, .int .u32 e0, .int .u32 s0, .string ⟨#[97]⟩] 39)).alloc (.cells #[.int .u8 1, .int .u8 1, .int .u8 0, .int .u32 e1, .int .u32 s1, .string ⟨#[98]⟩] 39)) (w1.heap.size + 1) ⟨1, 1, 0, e1, s1, ⟨#[98]⟩⟩) := by
    show PkAt _ _ _
    have e0' : (w1.alloc (.cells #[.int .u8 1, .int .u8 1, .int .u8 0, .int .u32 e0, .int .u32 s0, .string ⟨#[97]⟩] 39)).heap.size = w1.heap.size + 1 := by simp
    rw [← e0']
    exact PkAt.new _ ⟨1, 1, 0, e1, s1, ⟨#[98]⟩⟩
  have KT := hid (older_take (hK1.later b4) wft0 (by decide) e0 s0 ⟨#[97]⟩ (by decide) he0 hs0 _ OK1.out)
  have X4 := hid (X1.out.later b4)
  have Y4 := hid (Y1.out.later b4)
  have B4 := hid (B1.out.trans (b4.mono B1.out.size))
  have l4 : w1.heap.size + 2 ≤ ((w1.alloc (.cells #[.int .u8 1, .int .u8 1, .int .u8 0, .int .u32 e0, .int .u32 s0, .string ⟨#[97]⟩] 39)).alloc (.cells #[.int .u8 1, .int .u8 1, .int .u8 0, .int .u32 e1, .int .u32 s1, .string ⟨#[98]⟩] 39)).heap.size := by simp
  have aw10 : w.heap.size < w1.heap.size := by omega
  have nw10 : ¬ w.heap.size = w1.heap.size := by omega
  have aw11 : w.heap.size + 1 < w1.heap.size := by omega
  have nw11 : ¬ w.heap.size + 1 = w1.heap.size := by omega
  clear hK1 hb1 X0 Y0 B0 b3 b4 B1
  go_wp2_with fail
  generalize ((w1.alloc (.cells #[.int .u8 1, .int .u8 1, .int .u8 0, .int .u32 e0, .int .u32 s0, .string ⟨#[97]⟩] 39)).alloc (.cells #[.int .u8 1, .int .u8 1, .int .u8 0, .int .u32 e1, .int .u32 s1, .string ⟨#[98]⟩] 39)) = W4 at *
  refine KT.out.mono ?_
  rintro _ w5 ⟨tx1, rfl, hK5, ho5⟩
  have l5 := ho5.size
  have b6 : Below w5.heap.size w5 (w5.alloc (.cells #[.int .u8 0, .int .u8 0, .int .u8 0, .int .u32 0, .int .u32 0, .string ⟨#[]⟩] 39)) := (Below.refl _ _).alloc (Nat.le_refl _) _
  have X6 := hid ((X4.out.out ho5 (by omega)).later b6)
  have Y6 := hid ((Y4.out.out ho5 (by omega)).later b6)
  have P6 := hid ((P4.out.out ho5 (by omega)).later b6)
  have b5 := B4.out.trans (ho5.below B4.out.size (fun k e => by omega))
  have B6 := hid (b5.trans (b6.mono b5.size))
  have KT2 := hid (older_take (hK5.later b6) WF2.out ST2.out e1 s1 ⟨#[98]⟩ (by decide) he1 hs1 _ OK2.out)
  have l6 := b6.size
  clear x0 x1 y0 y1
  obtain ⟨y0, y1⟩ := Y6.out.cells
  obtain ⟨q0, q1, q2, q3, q4, q5, _⟩ := P6.out.cells
  simp only at q0 q1 q2 q3 q4 q5
  have aw50 : w.heap.size < w5.heap.size := by omega
  have nw50 : ¬ w.heap.size = w5.heap.size := by omega
  have aw51 : w.heap.size + 1 < w5.heap.size := by omega
  have nw51 : ¬ w.heap.size + 1 = w5.heap.size := by omega
  have aw52 : w1.heap.size + 1 < w5.heap.size := by omega
  have nw52 : ¬ w1.heap.size + 1 = w5.heap.size := by omega
  clear KT hK5 ho5 X4 Y4 P4 B4 b5 b6
  go_wp2_with fail
  generalize (w5.alloc (.cells #[.int .u8 0, .int .u8 0, .int .u8 0, .int .u32 0, .int .u32 0, .string ⟨#[]⟩] 39)) = W6 at *
  refine KT2.out.mono ?_
  rintro _ w7 ⟨tx2, rfl, hK7, ho7⟩
  have X7 := hid (X6.out.out ho7 (by omega))
  have Y7 := hid (Y6.out.out ho7 (by omega))
  have B7 := hid (B6.out.trans (ho7.below B6.out.size (fun k e => by omega)))
  have l7 := ho7.size
  have aw7 : w.heap.size < w7.heap.size := by omega
  have bw7 : w.heap.size + 1 < w7.heap.size := by omega
  have cw7 : ¬ w.heap.size = w7.heap.size := by omega
  have dw7 : ¬ w.heap.size + 1 = w7.heap.size := by omega
  clear y0 y1 q0 q1 q2 q3 q4 q5 hK7 ho7 KT2
  obtain ⟨x0, x1⟩ := X7.out.cells
  obtain ⟨y0, y1⟩ := Y7.out.cells
  go_wp2_with fail
  have b8 : Below w7.heap.size w7 (w7.alloc (.cells #[.int .u8 0, .int .u8 0, .int .u8 0, .int .u32 0, .int .u32 0, .string ⟨#[]⟩] 39)) := (Below.refl _ _).alloc (Nat.le_refl _) _
  have X8 := hid (X7.out.later b8)
  have Y8 := hid (Y7.out.later b8)
  have B8 := hid (B7.out.trans (b8.mono B7.out.size))
  clear b8
  generalize (w7.alloc (.cells #[.int .u8 0, .int .u8 0, .int .u8 0, .int .u32 0, .int .u32 0, .string ⟨#[]⟩] 39)) = W8 at *
  refine (rlive_c _).mono ?_
  rintro _ w9 ⟨rfl, hb9⟩
  obtain ⟨y0, y1⟩ := (Y8.out.later hb9).cells
  go_wp2
  go_ret
  exact ⟨rfl, B8.out.trans (hb9.mono B8.out.size)⟩
set_option maxHeartbeats 4000000 in
theorem older_nnd (e0 e1 s0 s1 : Int) (w : World) (he0 : 0 ≤ e0 ∧ e0 < 4294967296) (he1 : 0 ≤ e1 ∧ e1 < 4294967296) (hs0 : 0 ≤ s0 ∧ s0 < 4294967296) (hs1 : 0 ≤ s1 ∧ s1 < 4294967296) (h0 : (s0 != 0) = true) (h1 : (s1 != 0) = true) (hc : ¬ e0 < e1) (hd : (e1 == e0) = false) :
    Calls Try.prog 6 #[.agg #[.int .u32 e0, .int .u32 e1], .agg #[.int .u32 s0, .int .u32 s1]] w fun x w' => x = .returned (.bool true) ∧ Below w.heap.size w w' := by
  have bz : (s0 == 0) = false := by exact beq_eq_false_iff_ne.2 (bne_iff_ne.1 h0)
  have hcd : decide (e0 < e1) = false := decide_eq_false hc
  have OK2 : Hid ((s1 != 0 && newerB ((if true then updK K00 1 ⟨1, e0, s0, ⟨#[]⟩⟩ else K00) 1) ⟨1, 1, 0, e1, s1, ⟨#[98]⟩⟩) = false) := by
    show _ = _
    rw [h1]
    show (true && (decide ((1 : Int) = 0) || decide (orF (cmpF e0 e1) (cmpF s0 s1) < 0))) = false
    rw [age_lt]
    simp [hc, hd]
  have OK1 : Hid ((s0 != 0 && newerB (K00 1) ⟨1, 1, 0, e0, s0, ⟨#[97]⟩⟩) = true) := by show _ = _; rw [h0]; rfl
  have WF2 : Hid (∀ i, ((if true then updK K00 1 ⟨1, e0, s0, ⟨#[]⟩⟩ else K00) i).Wf) := fun i => by
    exact wf_upd e0 s0 he0 hs0 i
  have ST2 : Hid (((if true then updK K00 1 ⟨1, e0, s0, ⟨#[]⟩⟩ else K00) 1).st ≠ 2) := by show _ ≠ _; show (1 : Int) ≠ 2; decide
  have b1 : Below w.heap.size w (w.alloc (.cells #[.int .u32 e0, .int .u32 e1] 51)) := (Below.refl _ _).alloc (Nat.le_refl _) _
  have t1 : TwoAt (w.alloc (.cells #[.int .u32 e0, .int .u32 e1] 51)) w.heap.size e0 e1 := heap_alloc_new w _
  have b2 : Below (w.alloc (.cells #[.int .u32 e0, .int .u32 e1] 51)).heap.size (w.alloc (.cells #[.int .u32 e0, .int .u32 e1] 51)) ((w.alloc (.cells #[.int .u32 e0, .int .u32 e1] 51)).alloc (.cells #[.int .u32 s0, .int .u32 s1] 51)) := (Below.refl _ _).alloc (Nat.le_refl _) _
  have t2 : TwoAt ((w.alloc (.cells #[.int .u32 e0, .int .u32 e1] 51)).alloc (.cells #[.int .u32 s0, .int .u32 s1] 51)) (w.heap.size + 1) s0 s1 := by
    have e0' : (w.alloc (.cells #[.int .u32 e0, .int .u32 e1] 51)).heap.size = w.heap.size + 1 := by simp
    rw [← e0']
    exact heap_alloc_new _ _
  have X0 := hid (t1.later b2)
  have Y0 := hid t2
  have B0 : Hid (Below w.heap.size w ((w.alloc (.cells #[.int .u32 e0, .int .u32 e1] 51)).alloc (.cells #[.int .u32 s0, .int .u32 s1] 51))) := hid (b1.trans (b2.mono b1.size))
  clear b1 b2 t1 t2
  go_enter Try.func6, Try.ntmps6
  go_wp2_with fail
  generalize ((w.alloc (.cells #[.int .u32 e0, .int .u32 e1] 51)).alloc (.cells #[.int .u32 s0, .int .u32 s1] 51)) = W0 at *
  refine (newCallee_c W0).mono ?_
  rintro _ w1 ⟨rfl, hK1, hb1⟩
  have l0 : w.heap.size + 1 < W0.heap.size := Y0.out.lt
  have l1 : W0.heap.size < w1.heap.size := hK1.lt
  have X1 := hid (X0.out.later hb1)
  have Y1 := hid (Y0.out.later hb1)
  obtain ⟨x0, x1⟩ := X1.out.cells
  obtain ⟨y0, y1⟩ := Y1.out.cells
  have B1 := hid (B0.out.trans (hb1.mono B0.out.size))
  have b3 : Below w1.heap.size w1 (w1.alloc (.cells #[.int .u8 1, .int .u8 1, .int .u8 0, .int .u32 e0, .int .u32 s0, .string ⟨#[97]⟩] 39)) := (Below.refl _ _).alloc (Nat.le_refl _) _
  have b4 : Below w1.heap.size w1 ((w1.alloc (.cells #[.int .u8 1, .int .u8 1, .int .u8 0, .int .u32 e0, .int .u32 s0, .string ⟨#[97]⟩] 39)).alloc (.cells #[.int .u8 1, .int .u8 1, .int .u8 0, .int .u32 e1, .int .u32 s1, .string ⟨#[98]⟩] 39)) := b3.alloc (by simp) _
  have P4 : Hid (PkAt ((w1.alloc (.cells #[.int .u8 1, .int .u8 1, .int .u8 0, .int .u32 e0, .int .u32 s0, .string ⟨#[97]⟩] 39)).alloc (.cells #[.int .u8 1, .int .u8 1, .int .u8 0, .int .u32 e1, .int .u32 s1, .string ⟨#[98]⟩] 39)) (w1.heap.size + 1) ⟨1, 1, 0, e1, s1, ⟨#[98]⟩⟩) := by
    show PkAt _ _ _
    have e0' : (w1.alloc (.cells #[.int .u8 1, .int .u8 1, .int .u8 0, .int .u32 e0, .int .u32 s0, .string ⟨#[97]⟩] 39)).heap.size = w1.heap.size + 1 := by simp
    rw [← e0']
    exact PkAt.new _ ⟨1, 1, 0, e1, s1, ⟨#[98]⟩⟩
  have KT := hid (older_take (hK1.later b4) wft0 (by decide) e0 s0 ⟨#[97]⟩ (by decide) he0 hs0 _ OK1.out)
  have X4 := hid (X1.out.later b4)
  have Y4 := hid (Y1.out.later b4)
  have B4 := hid (B1.out.trans (b4.mono B1.out.size))
  have l4 : w1.heap.size + 2 ≤ ((w1.alloc (.cells #[.int .u8 1, .int .u8 1, .int .u8 0, .int .u32 e0, .int .u32 s0, .string ⟨#[97]⟩] 39)).alloc (.cells #[.int .u8 1, .int .u8 1, .int .u8 0, .int .u32 e1, .int .u32 s1, .string ⟨#[98]⟩] 39)).heap.size := by simp
  have aw10 : w.heap.size < w1.heap.size := by omega
  have nw10 : ¬ w.heap.size = w1.heap.size := by omega
  have aw11 : w.heap.size + 1 < w1.heap.size := by omega
  have nw11 : ¬ w.heap.size + 1 = w1.heap.size := by omega
  clear hK1 hb1 X0 Y0 B0 b3 b4 B1
  go_wp2_with fail
  generalize ((w1.alloc (.cells #[.int .u8 1, .int .u8 1, .int .u8 0, .int .u32 e0, .int .u32 s0, .string ⟨#[97]⟩] 39)).alloc (.cells #[.int .u8 1, .int .u8 1, .int .u8 0, .int .u32 e1, .int .u32 s1, .string ⟨#[98]⟩] 39)) = W4 at *
  refine KT.out.mono ?_
  rintro _ w5 ⟨tx1, rfl, hK5, ho5⟩
  have l5 := ho5.size
  have b6 : Below w5.heap.size w5 (w5.alloc (.cells #[.int .u8 0, .int .u8 0, .int .u8 0, .int .u32 0, .int .u32 0, .string ⟨#[]⟩] 39)) := (Below.refl _ _).alloc (Nat.le_refl _) _
  have X6 := hid ((X4.out.out ho5 (by omega)).later b6)
  have Y6 := hid ((Y4.out.out ho5 (by omega)).later b6)
  have P6 := hid ((P4.out.out ho5 (by omega)).later b6)
  have b5 := B4.out.trans (ho5.below B4.out.size (fun k e => by omega))
  have B6 := hid (b5.trans (b6.mono b5.size))
  have KT2 := hid (older_take (hK5.later b6) WF2.out ST2.out e1 s1 ⟨#[98]⟩ (by decide) he1 hs1 _ OK2.out)
  have l6 := b6.size
  clear x0 x1 y0 y1
  obtain ⟨y0, y1⟩ := Y6.out.cells
  obtain ⟨q0, q1, q2, q3, q4, q5, _⟩ := P6.out.cells
  simp only at q0 q1 q2 q3 q4 q5
  have aw50 : w.heap.size < w5.heap.size := by omega
  have nw50 : ¬ w.heap.size = w5.heap.size := by omega
  have aw51 : w.heap.size + 1 < w5.heap.size := by omega
  have nw51 : ¬ w.heap.size + 1 = w5.heap.size := by omega
  have aw52 : w1.heap.size + 1 < w5.heap.size := by omega
  have nw52 : ¬ w1.heap.size + 1 = w5.heap.size := by omega
  clear KT hK5 ho5 X4 Y4 P4 B4 b5 b6
  go_wp2_with fail
  generalize (w5.alloc (.cells #[.int .u8 0, .int .u8 0, .int .u8 0, .int .u32 0, .int .u32 0, .string ⟨#[]⟩] 39)) = W6 at *
  refine KT2.out.mono ?_
  rintro _ w7 ⟨tx2, rfl, hK7, ho7⟩
  have X7 := hid (X6.out.out ho7 (by omega))
  have Y7 := hid (Y6.out.out ho7 (by omega))
  have B7 := hid (B6.out.trans (ho7.below B6.out.size (fun k e => by omega)))
  have l7 := ho7.size
  have aw7 : w.heap.size < w7.heap.size := by omega
  have bw7 : w.heap.size + 1 < w7.heap.size := by omega
  have cw7 : ¬ w.heap.size = w7.heap.size := by omega
  have dw7 : ¬ w.heap.size + 1 = w7.heap.size := by omega
  clear y0 y1 q0 q1 q2 q3 q4 q5 hK7 ho7 KT2
  obtain ⟨x0, x1⟩ := X7.out.cells
  obtain ⟨y0, y1⟩ := Y7.out.cells
  go_wp2_with fail
  have b8 : Below w7.heap.size w7 (w7.alloc (.cells #[.int .u8 0, .int .u8 0, .int .u8 0, .int .u32 0, .int .u32 0, .string ⟨#[]⟩] 39)) := (Below.refl _ _).alloc (Nat.le_refl _) _
  have X8 := hid (X7.out.later b8)
  have Y8 := hid (Y7.out.later b8)
  have B8 := hid (B7.out.trans (b8.mono B7.out.size))
  clear b8
  generalize (w7.alloc (.cells #[.int .u8 0, .int .u8 0, .int .u8 0, .int .u32 0, .int .u32 0, .string ⟨#[]⟩] 39)) = W8 at *
  refine (rlive_c _).mono ?_
  rintro _ w9 ⟨rfl, hb9⟩
  obtain ⟨y0, y1⟩ := (Y8.out.later hb9).cells
  go_wp2
  go_ret
  exact ⟨rfl, B8.out.trans (hb9.mono B8.out.size)⟩
set_option maxHeartbeats 4000000 in
theorem older_nza (e0 e1 s0 s1 : Int) (w : World) (he0 : 0 ≤ e0 ∧ e0 < 4294967296) (he1 : 0 ≤ e1 ∧ e1 < 4294967296) (hs0 : 0 ≤ s0 ∧ s0 < 4294967296) (hs1 : 0 ≤ s1 ∧ s1 < 4294967296) (h0 : (s0 != 0) = true) (h1 : (s1 != 0) = false) (hc : e0 < e1) :
    Calls Try.prog 6 #[.agg #[.int .u32 e0, .int .u32 e1], .agg #[.int .u32 s0, .int .u32 s1]] w fun x w' => x = .returned (.bool true) ∧ Below w.heap.size w w' := by
  have bz : (s0 == 0) = false := by exact beq_eq_false_iff_ne.2 (bne_iff_ne.1 h0)
  have OK2 : Hid ((s1 != 0 && newerB ((if true then updK K00 1 ⟨1, e0, s0, ⟨#[]⟩⟩ else K00) 1) ⟨1, 1, 0, e1, s1, ⟨#[98]⟩⟩) = false) := by show _ = _; rw [h1]; rfl
  have OK1 : Hid ((s0 != 0 && newerB (K00 1) ⟨1, 1, 0, e0, s0, ⟨#[97]⟩⟩) = true) := by show _ = _; rw [h0]; rfl
  have WF2 : Hid (∀ i, ((if true then updK K00 1 ⟨1, e0, s0, ⟨#[]⟩⟩ else K00) i).Wf) := fun i => by
    exact wf_upd e0 s0 he0 hs0 i
  have ST2 : Hid (((if true then updK K00 1 ⟨1, e0, s0, ⟨#[]⟩⟩ else K00) 1).st ≠ 2) := by show _ ≠ _; show (1 : Int) ≠ 2; decide
  have b1 : Below w.heap.size w (w.alloc (.cells #[.int .u32 e0, .int .u32 e1] 51)) := (Below.refl _ _).alloc (Nat.le_refl _) _
  have t1 : TwoAt (w.alloc (.cells #[.int .u32 e0, .int .u32 e1] 51)) w.heap.size e0 e1 := heap_alloc_new w _
  have b2 : Below (w.alloc (.cells #[.int .u32 e0, .int .u32 e1] 51)).heap.size (w.alloc (.cells #[.int .u32 e0, .int .u32 e1] 51)) ((w.alloc (.cells #[.int .u32 e0, .int .u32 e1] 51)).alloc (.cells #[.int .u32 s0, .int .u32 s1] 51)) := (Below.refl _ _).alloc (Nat.le_refl _) _
  have t2 : TwoAt ((w.alloc (.cells #[.int .u32 e0, .int .u32 e1] 51)).alloc (.cells #[.int .u32 s0, .int .u32 s1] 51)) (w.heap.size + 1) s0 s1 := by
    have e0' : (w.alloc (.cells #[.int .u32 e0, .int .u32 e1] 51)).heap.size = w.heap.size + 1 := by simp
    rw [← e0']
    exact heap_alloc_new _ _
  have X0 := hid (t1.later b2)
  have Y0 := hid t2
  have B0 : Hid (Below w.heap.size w ((w.alloc (.cells #[.int .u32 e0, .int .u32 e1] 51)).alloc (.cells #[.int .u32 s0, .int .u32 s1] 51))) := hid (b1.trans (b2.mono b1.size))
  clear b1 b2 t1 t2
  go_enter Try.func6, Try.ntmps6
  go_wp2_with fail
  generalize ((w.alloc (.cells #[.int .u32 e0, .int .u32 e1] 51)).alloc (.cells #[.int .u32 s0, .int .u32 s1] 51)) = W0 at *
  refine (newCallee_c W0).mono ?_
  rintro _ w1 ⟨rfl, hK1, hb1⟩
  have l0 : w.heap.size + 1 < W0.heap.size := Y0.out.lt
  have l1 : W0.heap.size < w1.heap.size := hK1.lt
  have X1 := hid (X0.out.later hb1)
  have Y1 := hid (Y0.out.later hb1)
  obtain ⟨x0, x1⟩ := X1.out.cells
  obtain ⟨y0, y1⟩ := Y1.out.cells
  have B1 := hid (B0.out.trans (hb1.mono B0.out.size))
  have b3 : Below w1.heap.size w1 (w1.alloc (.cells #[.int .u8 1, .int .u8 1, .int .u8 0, .int .u32 e0, .int .u32 s0, .string ⟨#[97]⟩] 39)) := (Below.refl _ _).alloc (Nat.le_refl _) _
  have b4 : Below w1.heap.size w1 ((w1.alloc (.cells #[.int .u8 1, .int .u8 1, .int .u8 0, .int .u32 e0, .int .u32 s0, .string ⟨#[97]⟩] 39)).alloc (.cells #[.int .u8 1, .int .u8 1, .int .u8 0, .int .u32 e1, .int .u32 s1, .string ⟨#[98]⟩] 39)) := b3.alloc (by simp) _
  have P4 : Hid (PkAt ((w1.alloc (.cells #[.int .u8 1, .int .u8 1, .int .u8 0, .int .u32 e0, .int .u32 s0, .string ⟨#[97]⟩] 39)).alloc (.cells #[.int .u8 1, .int .u8 1, .int .u8 0, .int .u32 e1, .int .u32 s1, .string ⟨#[98]⟩] 39)) (w1.heap.size + 1) ⟨1, 1, 0, e1, s1, ⟨#[98]⟩⟩) := by
    show PkAt _ _ _
    have e0' : (w1.alloc (.cells #[.int .u8 1, .int .u8 1, .int .u8 0, .int .u32 e0, .int .u32 s0, .string ⟨#[97]⟩] 39)).heap.size = w1.heap.size + 1 := by simp
    rw [← e0']
    exact PkAt.new _ ⟨1, 1, 0, e1, s1, ⟨#[98]⟩⟩
  have KT := hid (older_take (hK1.later b4) wft0 (by decide) e0 s0 ⟨#[97]⟩ (by decide) he0 hs0 _ OK1.out)
  have X4 := hid (X1.out.later b4)
  have Y4 := hid (Y1.out.later b4)
  have B4 := hid (B1.out.trans (b4.mono B1.out.size))
  have l4 : w1.heap.size + 2 ≤ ((w1.alloc (.cells #[.int .u8 1, .int .u8 1, .int .u8 0, .int .u32 e0, .int .u32 s0, .string ⟨#[97]⟩] 39)).alloc (.cells #[.int .u8 1, .int .u8 1, .int .u8 0, .int .u32 e1, .int .u32 s1, .string ⟨#[98]⟩] 39)).heap.size := by simp
  have aw10 : w.heap.size < w1.heap.size := by omega
  have nw10 : ¬ w.heap.size = w1.heap.size := by omega
  have aw11 : w.heap.size + 1 < w1.heap.size := by omega
  have nw11 : ¬ w.heap.size + 1 = w1.heap.size := by omega
  clear hK1 hb1 X0 Y0 B0 b3 b4 B1
  go_wp2_with fail
  generalize ((w1.alloc (.cells #[.int .u8 1, .int .u8 1, .int .u8 0, .int .u32 e0, .int .u32 s0, .string ⟨#[97]⟩] 39)).alloc (.cells #[.int .u8 1, .int .u8 1, .int .u8 0, .int .u32 e1, .int .u32 s1, .string ⟨#[98]⟩] 39)) = W4 at *
  refine KT.out.mono ?_
  rintro _ w5 ⟨tx1, rfl, hK5, ho5⟩
  have l5 := ho5.size
  have b6 : Below w5.heap.size w5 (w5.alloc (.cells #[.int .u8 0, .int .u8 0, .int .u8 0, .int .u32 0, .int .u32 0, .string ⟨#[]⟩] 39)) := (Below.refl _ _).alloc (Nat.le_refl _) _
  have X6 := hid ((X4.out.out ho5 (by omega)).later b6)
  have Y6 := hid ((Y4.out.out ho5 (by omega)).later b6)
  have P6 := hid ((P4.out.out ho5 (by omega)).later b6)
  have b5 := B4.out.trans (ho5.below B4.out.size (fun k e => by omega))
  have B6 := hid (b5.trans (b6.mono b5.size))
  have KT2 := hid (older_take (hK5.later b6) WF2.out ST2.out e1 s1 ⟨#[98]⟩ (by decide) he1 hs1 _ OK2.out)
  have l6 := b6.size
  clear x0 x1 y0 y1
  obtain ⟨y0, y1⟩ := Y6.out.cells
  obtain ⟨q0, q1, q2, q3, q4, q5, _⟩ := P6.out.cells
  simp only at q0 q1 q2 q3 q4 q5
  have aw50 : w.heap.size < w5.heap.size := by omega
  have nw50 : ¬ w.heap.size = w5.heap.size := by omega
  have aw51 : w.heap.size + 1 < w5.heap.size := by omega
  have nw51 : ¬ w.heap.size + 1 = w5.heap.size := by omega
  have aw52 : w1.heap.size + 1 < w5.heap.size := by omega
  have nw52 : ¬ w1.heap.size + 1 = w5.heap.size := by omega
  clear KT hK5 ho5 X4 Y4 P4 B4 b5 b6
  go_wp2_with fail
  generalize (w5.alloc (.cells #[.int .u8 0, .int .u8 0, .int .u8 0, .int .u32 0, .int .u32 0, .string ⟨#[]⟩] 39)) = W6 at *
  refine KT2.out.mono ?_
  rintro _ w7 ⟨tx2, rfl, hK7, ho7⟩
  have X7 := hid (X6.out.out ho7 (by omega))
  have Y7 := hid (Y6.out.out ho7 (by omega))
  have B7 := hid (B6.out.trans (ho7.below B6.out.size (fun k e => by omega)))
  have l7 := ho7.size
  have aw7 : w.heap.size < w7.heap.size := by omega
  have bw7 : w.heap.size + 1 < w7.heap.size := by omega
  have cw7 : ¬ w.heap.size = w7.heap.size := by omega
  have dw7 : ¬ w.heap.size + 1 = w7.heap.size := by omega
  clear y0 y1 q0 q1 q2 q3 q4 q5 hK7 ho7 KT2
  obtain ⟨x0, x1⟩ := X7.out.cells
  obtain ⟨y0, y1⟩ := Y7.out.cells
  go_wp2_with fail
  have b8 : Below w7.heap.size w7 (w7.alloc (.cells #[.int .u8 0, .int .u8 0, .int .u8 0, .int .u32 0, .int .u32 0, .string ⟨#[]⟩] 39)) := (Below.refl _ _).alloc (Nat.le_refl _) _
  have X8 := hid (X7.out.later b8)
  have Y8 := hid (Y7.out.later b8)
  have B8 := hid (B7.out.trans (b8.mono B7.out.size))
  clear b8
  generalize (w7.alloc (.cells #[.int .u8 0, .int .u8 0, .int .u8 0, .int .u32 0, .int .u32 0, .string ⟨#[]⟩] 39)) = W8 at *
  refine (rlive_c _).mono ?_
  rintro _ w9 ⟨rfl, hb9⟩
  obtain ⟨y0, y1⟩ := (Y8.out.later hb9).cells
  go_wp2
  go_ret
  exact ⟨rfl, B8.out.trans (hb9.mono B8.out.size)⟩
set_option maxHeartbeats 4000000 in
theorem older_nzb (e0 e1 s0 s1 : Int) (w : World) (he0 : 0 ≤ e0 ∧ e0 < 4294967296) (he1 : 0 ≤ e1 ∧ e1 < 4294967296) (hs0 : 0 ≤ s0 ∧ s0 < 4294967296) (hs1 : 0 ≤ s1 ∧ s1 < 4294967296) (h0 : (s0 != 0) = true) (h1 : (s1 != 0) = false) (hc : ¬ e0 < e1) (hd : (e1 == e0) = true) (hx : s0 < s1) :
    Calls Try.prog 6 #[.agg #[.int .u32 e0, .int .u32 e1], .agg #[.int .u32 s0, .int .u32 s1]] w fun x w' => x = .returned (.bool true) ∧ Below w.heap.size w w' := by
  have bz : (s0 == 0) = false := by exact beq_eq_false_iff_ne.2 (bne_iff_ne.1 h0)
  have hcd : decide (e0 < e1) = false := decide_eq_false hc
  have OK2 : Hid ((s1 != 0 && newerB ((if true then updK K00 1 ⟨1, e0, s0, ⟨#[]⟩⟩ else K00) 1) ⟨1, 1, 0, e1, s1, ⟨#[98]⟩⟩) = false) := by show _ = _; rw [h1]; rfl
  have OK1 : Hid ((s0 != 0 && newerB (K00 1) ⟨1, 1, 0, e0, s0, ⟨#[97]⟩⟩) = true) := by show _ = _; rw [h0]; rfl
  have WF2 : Hid (∀ i, ((if true then updK K00 1 ⟨1, e0, s0, ⟨#[]⟩⟩ else K00) i).Wf) := fun i => by
    exact wf_upd e0 s0 he0 hs0 i
  have ST2 : Hid (((if true then updK K00 1 ⟨1, e0, s0, ⟨#[]⟩⟩ else K00) 1).st ≠ 2) := by show _ ≠ _; show (1 : Int) ≠ 2; decide
  have b1 : Below w.heap.size w (w.alloc (.cells #[.int .u32 e0, .int .u32 e1] 51)) := (Below.refl _ _).alloc (Nat.le_refl _) _
  have t1 : TwoAt (w.alloc (.cells #[.int .u32 e0, .int .u32 e1] 51)) w.heap.size e0 e1 := heap_alloc_new w _
  have b2 : Below (w.alloc (.cells #[.int .u32 e0, .int .u32 e1] 51)).heap.size (w.alloc (.cells #[.int .u32 e0, .int .u32 e1] 51)) ((w.alloc (.cells #[.int .u32 e0, .int .u32 e1] 51)).alloc (.cells #[.int .u32 s0, .int .u32 s1] 51)) := (Below.refl _ _).alloc (Nat.le_refl _) _
  have t2 : TwoAt ((w.alloc (.cells #[.int .u32 e0, .int .u32 e1] 51)).alloc (.cells #[.int .u32 s0, .int .u32 s1] 51)) (w.heap.size + 1) s0 s1 := by
    have e0' : (w.alloc (.cells #[.int .u32 e0, .int .u32 e1] 51)).heap.size = w.heap.size + 1 := by simp
    rw [← e0']
    exact heap_alloc_new _ _
  have X0 := hid (t1.later b2)
  have Y0 := hid t2
  have B0 : Hid (Below w.heap.size w ((w.alloc (.cells #[.int .u32 e0, .int .u32 e1] 51)).alloc (.cells #[.int .u32 s0, .int .u32 s1] 51))) := hid (b1.trans (b2.mono b1.size))
  clear b1 b2 t1 t2
  go_enter Try.func6, Try.ntmps6
  go_wp2_with fail
  generalize ((w.alloc (.cells #[.int .u32 e0, .int .u32 e1] 51)).alloc (.cells #[.int .u32 s0, .int .u32 s1] 51)) = W0 at *
  refine (newCallee_c W0).mono ?_
  rintro _ w1 ⟨rfl, hK1, hb1⟩
  have l0 : w.heap.size + 1 < W0.heap.size := Y0.out.lt
  have l1 : W0.heap.size < w1.heap.size := hK1.lt
  have X1 := hid (X0.out.later hb1)
  have Y1 := hid (Y0.out.later hb1)
  obtain ⟨x0, x1⟩ := X1.out.cells
  obtain ⟨y0, y1⟩ := Y1.out.cells
  have B1 := hid (B0.out.trans (hb1.mono B0.out.size))
  have b3 : Below w1.heap.size w1 (w1.alloc (.cells #[.int .u8 1, .int .u8 1, .int .u8 0, .int .u32 e0, .int .u32 s0, .string ⟨#[97]⟩] 39)) := (Below.refl _ _).alloc (Nat.le_refl _) _
  have b4 : Below w1.heap.size w1 ((w1.alloc (.cells #[.int .u8 1, .int .u8 1, .int .u8 0, .int .u32 e0, .int .u32 s0, .string ⟨#[97]⟩] 39)).alloc (.cells #[.int .u8 1, .int .u8 1, .int .u8 0, .int .u32 e1, .int .u32 s1, .string ⟨#[98]⟩] 39)) := b3.alloc (by simp) _
  have P4 : Hid (PkAt ((w1.alloc (.cells #[.int .u8 1, .int .u8 1, .int .u8 0, .int .u32 e0, .int .u32 s0, .string ⟨#[97]⟩] 39)).alloc (.cells #[.int .u8 1, .int .u8 1, .int .u8 0, .int .u32 e1, .int .u32 s1, .string ⟨#[98]⟩] 39)) (w1.heap.size + 1) ⟨1, 1, 0, e1, s1, ⟨#[98]⟩⟩) := by
    show PkAt _ _ _
    have e0' : (w1.alloc (.cells #[.int .u8 1, .int .u8 1, .int .u8 0, .int .u32 e0, .int .u32 s0, .string ⟨#[97]⟩] 39)).heap.size = w1.heap.size + 1 := by simp
    rw [← e0']
    exact PkAt.new _ ⟨1, 1, 0, e1, s1, ⟨#[98]⟩⟩
  have KT := hid (older_take (hK1.later b4) wft0 (by decide) e0 s0 ⟨#[97]⟩ (by decide) he0 hs0 _ OK1.out)
  have X4 := hid (X1.out.later b4)
  have Y4 := hid (Y1.out.later b4)
  have B4 := hid (B1.out.trans (b4.mono B1.out.size))
  have l4 : w1.heap.size + 2 ≤ ((w1.alloc (.cells #[.int .u8 1, .int .u8 1, .int .u8 0, .int .u32 e0, .int .u32 s0, .string ⟨#[97]⟩] 39)).alloc (.cells #[.int .u8 1, .int .u8 1, .int .u8 0, .int .u32 e1, .int .u32 s1, .string ⟨#[98]⟩] 39)).heap.size := by simp
  have aw10 : w.heap.size < w1.heap.size := by omega
  have nw10 : ¬ w.heap.size = w1.heap.size := by omega
  have aw11 : w.heap.size + 1 < w1.heap.size := by omega
  have nw11 : ¬ w.heap.size + 1 = w1.heap.size := by omega
  clear hK1 hb1 X0 Y0 B0 b3 b4 B1
  go_wp2_with fail
  generalize ((w1.alloc (.cells #[.int .u8 1, .int .u8 1, .int .u8 0, .int .u32 e0, .int .u32 s0, .string ⟨#[97]⟩] 39)).alloc (.cells #[.int .u8 1, .int .u8 1, .int .u8 0, .int .u32 e1, .int .u32 s1, .string ⟨#[98]⟩] 39)) = W4 at *
  refine KT.out.mono ?_
  rintro _ w5 ⟨tx1, rfl, hK5, ho5⟩
  have l5 := ho5.size
  have b6 : Below w5.heap.size w5 (w5.alloc (.cells #[.int .u8 0, .int .u8 0, .int .u8 0, .int .u32 0, .int .u32 0, .string ⟨#[]⟩] 39)) := (Below.refl _ _).alloc (Nat.le_refl _) _
  have X6 := hid ((X4.out.out ho5 (by omega)).later b6)
  have Y6 := hid ((Y4.out.out ho5 (by omega)).later b6)
  have P6 := hid ((P4.out.out ho5 (by omega)).later b6)
  have b5 := B4.out.trans (ho5.below B4.out.size (fun k e => by omega))
  have B6 := hid (b5.trans (b6.mono b5.size))
  have KT2 := hid (older_take (hK5.later b6) WF2.out ST2.out e1 s1 ⟨#[98]⟩ (by decide) he1 hs1 _ OK2.out)
  have l6 := b6.size
  clear x0 x1 y0 y1
  obtain ⟨y0, y1⟩ := Y6.out.cells
  obtain ⟨q0, q1, q2, q3, q4, q5, _⟩ := P6.out.cells
  simp only at q0 q1 q2 q3 q4 q5
  have aw50 : w.heap.size < w5.heap.size := by omega
  have nw50 : ¬ w.heap.size = w5.heap.size := by omega
  have aw51 : w.heap.size + 1 < w5.heap.size := by omega
  have nw51 : ¬ w.heap.size + 1 = w5.heap.size := by omega
  have aw52 : w1.heap.size + 1 < w5.heap.size := by omega
  have nw52 : ¬ w1.heap.size + 1 = w5.heap.size := by omega
  clear KT hK5 ho5 X4 Y4 P4 B4 b5 b6
  go_wp2_with fail
  generalize (w5.alloc (.cells #[.int .u8 0, .int .u8 0, .int .u8 0, .int .u32 0, .int .u32 0, .string ⟨#[]⟩] 39)) = W6 at *
  refine KT2.out.mono ?_
  rintro _ w7 ⟨tx2, rfl, hK7, ho7⟩
  have X7 := hid (X6.out.out ho7 (by omega))
  have Y7 := hid (Y6.out.out ho7 (by omega))
  have B7 := hid (B6.out.trans (ho7.below B6.out.size (fun k e => by omega)))
  have l7 := ho7.size
  have aw7 : w.heap.size < w7.heap.size := by omega
  have bw7 : w.heap.size + 1 < w7.heap.size := by omega
  have cw7 : ¬ w.heap.size = w7.heap.size := by omega
  have dw7 : ¬ w.heap.size + 1 = w7.heap.size := by omega
  clear y0 y1 q0 q1 q2 q3 q4 q5 hK7 ho7 KT2
  obtain ⟨x0, x1⟩ := X7.out.cells
  obtain ⟨y0, y1⟩ := Y7.out.cells
  go_wp2_with fail
  have b8 : Below w7.heap.size w7 (w7.alloc (.cells #[.int .u8 0, .int .u8 0, .int .u8 0, .int .u32 0, .int .u32 0, .string ⟨#[]⟩] 39)) := (Below.refl _ _).alloc (Nat.le_refl _) _
  have X8 := hid (X7.out.later b8)
  have Y8 := hid (Y7.out.later b8)
  have B8 := hid (B7.out.trans (b8.mono B7.out.size))
  clear b8
  generalize (w7.alloc (.cells #[.int .u8 0, .int .u8 0, .int .u8 0, .int .u32 0, .int .u32 0, .string ⟨#[]⟩] 39)) = W8 at *
  refine (rlive_c _).mono ?_
  rintro _ w9 ⟨rfl, hb9⟩
  obtain ⟨y0, y1⟩ := (Y8.out.later hb9).cells
  go_wp2
  go_ret
  exact ⟨rfl, B8.out.trans (hb9.mono B8.out.size)⟩
set_option maxHeartbeats 4000000 in
theorem older_nzc (e0 e1 s0 s1 : Int) (w : World) (he0 : 0 ≤ e0 ∧ e0 < 4294967296) (he1 : 0 ≤ e1 ∧ e1 < 4294967296) (hs0 : 0 ≤ s0 ∧ s0 < 4294967296) (hs1 : 0 ≤ s1 ∧ s1 < 4294967296) (h0 : (s0 != 0) = true) (h1 : (s1 != 0) = false) (hc : ¬ e0 < e1) (hd : (e1 == e0) = true) (hx : ¬ s0 < s1) :
    Calls Try.prog 6 #[.agg #[.int .u32 e0, .int .u32 e1], .agg #[.int .u32 s0, .int .u32 s1]] w fun x w' => x = .returned (.bool true) ∧ Below w.heap.size w w' := by
  have bz : (s0 == 0) = false := by exact beq_eq_false_iff_ne.2 (bne_iff_ne.1 h0)
  have hcd : decide (e0 < e1) = false := decide_eq_false hc
  have hxd : decide (s0 < s1) = false := decide_eq_false hx
  have OK2 : Hid ((s1 != 0 && newerB ((if true then updK K00 1 ⟨1, e0, s0, ⟨#[]⟩⟩ else K00) 1) ⟨1, 1, 0, e1, s1, ⟨#[98]⟩⟩) = false) := by show _ = _; rw [h1]; rfl
  have OK1 : Hid ((s0 != 0 && newerB (K00 1) ⟨1, 1, 0, e0, s0, ⟨#[97]⟩⟩) = true) := by show _ = _; rw [h0]; rfl
  have WF2 : Hid (∀ i, ((if true then updK K00 1 ⟨1, e0, s0, ⟨#[]⟩⟩ else K00) i).Wf) := fun i => by
    exact wf_upd e0 s0 he0 hs0 i
  have ST2 : Hid (((if true then updK K00 1 ⟨1, e0, s0, ⟨#[]⟩⟩ else K00) 1).st ≠ 2) := by show _ ≠ _; show (1 : Int) ≠ 2; decide
  have b1 : Below w.heap.size w (w.alloc (.cells #[.int .u32 e0, .int .u32 e1] 51)) := (Below.refl _ _).alloc (Nat.le_refl _) _
  have t1 : TwoAt (w.alloc (.cells #[.int .u32 e0, .int .u32 e1] 51)) w.heap.size e0 e1 := heap_alloc_new w _
  have b2 : Below (w.alloc (.cells #[.int .u32 e0, .int .u32 e1] 51)).heap.size (w.alloc (.cells #[.int .u32 e0, .int .u32 e1] 51)) ((w.alloc (.cells #[.int .u32 e0, .int .u32 e1] 51)).alloc (.cells #[.int .u32 s0, .int .u32 s1] 51)) := (Below.refl _ _).alloc (Nat.le_refl _) _
  have t2 : TwoAt ((w.alloc (.cells #[.int .u32 e0, .int .u32 e1] 51)).alloc (.cells #[.int .u32 s0, .int .u32 s1] 51)) (w.heap.size + 1) s0 s1 := by
    have e0' : (w.alloc (.cells #[.int .u32 e0, .int .u32 e1] 51)).heap.size = w.heap.size + 1 := by simp
    rw [← e0']
    exact heap_alloc_new _ _
  have X0 := hid (t1.later b2)
  have Y0 := hid t2
  have B0 : Hid (Below w.heap.size w ((w.alloc (.cells #[.int .u32 e0, .int .u32 e1] 51)).alloc (.cells #[.int .u32 s0, .int .u32 s1] 51))) := hid (b1.trans (b2.mono b1.size))
  clear b1 b2 t1 t2
  go_enter Try.func6, Try.ntmps6
  go_wp2_with fail
  generalize ((w.alloc (.cells #[.int .u32 e0, .int .u32 e1] 51)).alloc (.cells #[.int .u32 s0, .int .u32 s1] 51)) = W0 at *
  refine (newCallee_c W0).mono ?_
  rintro _ w1 ⟨rfl, hK1, hb1⟩
  have l0 : w.heap.size + 1 < W0.heap.size := Y0.out.lt
  have l1 : W0.heap.size < w1.heap.size := hK1.lt
  have X1 := hid (X0.out.later hb1)
  have Y1 := hid (Y0.out.later hb1)
  obtain ⟨x0, x1⟩ := X1.out.cells
  obtain ⟨y0, y1⟩ := Y1.out.cells
  have B1 := hid (B0.out.trans (hb1.mono B0.out.size))
  have b3 : Below w1.heap.size w1 (w1.alloc (.cells #[.int .u8 1, .int .u8 1, .int .u8 0, .int .u32 e0, .int .u32 s0, .string ⟨#[97]⟩] 39)) := (Below.refl _ _).alloc (Nat.le_refl _) _
  have b4 : Below w1.heap.size w1 ((w1.alloc (.cells #[.int .u8 1, .int .u8 1, .int .u8 0, .int .u32 e0, .int .u32 s0, .string ⟨#[97]⟩] 39)).alloc (.cells #[.int .u8 1, .int .u8 1, .int .u8 0, .int .u32 e1, .int .u32 s1, .string ⟨#[98]⟩] 39)) := b3.alloc (by simp) _
  have P4 : Hid (PkAt ((w1.alloc (.cells #[.int .u8 1, .int .u8 1, .int .u8 0, .int .u32 e0, .int .u32 s0, .string ⟨#[97]⟩] 39)).alloc (.cells #[.int .u8 1, .int .u8 1, .int .u8 0, .int .u32 e1, .int .u32 s1, .string ⟨#[98]⟩] 39)) (w1.heap.size + 1) ⟨1, 1, 0, e1, s1, ⟨#[98]⟩⟩) := by
    show PkAt _ _ _
    have e0' : (w1.alloc (.cells #[.int .u8 1, .int .u8 1, .int .u8 0, .int .u32 e0, .int .u32 s0, .string ⟨#[97]⟩] 39)).heap.size = w1.heap.size + 1 := by simp
    rw [← e0']
    exact PkAt.new _ ⟨1, 1, 0, e1, s1, ⟨#[98]⟩⟩
  have KT := hid (older_take (hK1.later b4) wft0 (by decide) e0 s0 ⟨#[97]⟩ (by decide) he0 hs0 _ OK1.out)
  have X4 := hid (X1.out.later b4)
  have Y4 := hid (Y1.out.later b4)
  have B4 := hid (B1.out.trans (b4.mono B1.out.size))
  have l4 : w1.heap.size + 2 ≤ ((w1.alloc (.cells #[.int .u8 1, .int .u8 1, .int .u8 0, .int .u32 e0, .int .u32 s0, .string ⟨#[97]⟩] 39)).alloc (.cells #[.int .u8 1, .int .u8 1, .int .u8 0, .int .u32 e1, .int .u32 s1, .string ⟨#[98]⟩] 39)).heap.size := by simp
  have aw10 : w.heap.size < w1.heap.size := by omega
  have nw10 : ¬ w.heap.size = w1.heap.size := by omega
  have aw11 : w.heap.size + 1 < w1.heap.size := by omega
  have nw11 : ¬ w.heap.size + 1 = w1.heap.size := by omega
  clear hK1 hb1 X0 Y0 B0 b3 b4 B1
  go_wp2_with fail
  generalize ((w1.alloc (.cells #[.int .u8 1, .int .u8 1, .int .u8 0, .int .u32 e0, .int .u32 s0, .string ⟨#[97]⟩] 39)).alloc (.cells #[.int .u8 1, .int .u8 1, .int .u8 0, .int .u32 e1, .int .u32 s1, .string ⟨#[98]⟩] 39)) = W4 at *
  refine KT.out.mono ?_
  rintro _ w5 ⟨tx1, rfl, hK5, ho5⟩
  have l5 := ho5.size
  have b6 : Below w5.heap.size w5 (w5.alloc (.cells #[.int .u8 0, .int .u8 0, .int .u8 0, .int .u32 0, .int .u32 0, .string ⟨#[]⟩] 39)) := (Below.refl _ _).alloc (Nat.le_refl _) _
  have X6 := hid ((X4.out.out ho5 (by omega)).later b6)
  have Y6 := hid ((Y4.out.out ho5 (by omega)).later b6)
  have P6 := hid ((P4.out.out ho5 (by omega)).later b6)
  have b5 := B4.out.trans (ho5.below B4.out.size (fun k e => by omega))
  have B6 := hid (b5.trans (b6.mono b5.size))
  have KT2 := hid (older_take (hK5.later b6) WF2.out ST2.out e1 s1 ⟨#[98]⟩ (by decide) he1 hs1 _ OK2.out)
  have l6 := b6.size
  clear x0 x1 y0 y1
  obtain ⟨y0, y1⟩ := Y6.out.cells
  obtain ⟨q0, q1, q2, q3, q4, q5, _⟩ := P6.out.cells
  simp only at q0 q1 q2 q3 q4 q5
  have aw50 : w.heap.size < w5.heap.size := by omega
  have nw50 : ¬ w.heap.size = w5.heap.size := by omega
  have aw51 : w.heap.size + 1 < w5.heap.size := by omega
  have nw51 : ¬ w.heap.size + 1 = w5.heap.size := by omega
  have aw52 : w1.heap.size + 1 < w5.heap.size := by omega
  have nw52 : ¬ w1.heap.size + 1 = w5.heap.size := by omega
  clear KT hK5 ho5 X4 Y4 P4 B4 b5 b6
  go_wp2_with fail
  generalize (w5.alloc (.cells #[.int .u8 0, .int .u8 0, .int .u8 0, .int .u32 0, .int .u32 0, .string ⟨#[]⟩] 39)) = W6 at *
  refine KT2.out.mono ?_
  rintro _ w7 ⟨tx2, rfl, hK7, ho7⟩
  have X7 := hid (X6.out.out ho7 (by omega))
  have Y7 := hid (Y6.out.out ho7 (by omega))
  have B7 := hid (B6.out.trans (ho7.below B6.out.size (fun k e => by omega)))
  have l7 := ho7.size
  have aw7 : w.heap.size < w7.heap.size := by omega
  have bw7 : w.heap.size + 1 < w7.heap.size := by omega
  have cw7 : ¬ w.heap.size = w7.heap.size := by omega
  have dw7 : ¬ w.heap.size + 1 = w7.heap.size := by omega
  clear y0 y1 q0 q1 q2 q3 q4 q5 hK7 ho7 KT2
  obtain ⟨x0, x1⟩ := X7.out.cells
  obtain ⟨y0, y1⟩ := Y7.out.cells
  go_wp2_with fail
  have b8 : Below w7.heap.size w7 (w7.alloc (.cells #[.int .u8 0, .int .u8 0, .int .u8 0, .int .u32 0, .int .u32 0, .string ⟨#[]⟩] 39)) := (Below.refl _ _).alloc (Nat.le_refl _) _
  have X8 := hid (X7.out.later b8)
  have Y8 := hid (Y7.out.later b8)
  have B8 := hid (B7.out.trans (b8.mono B7.out.size))
  clear b8
  generalize (w7.alloc (.cells #[.int .u8 0, .int .u8 0, .int .u8 0, .int .u32 0, .int .u32 0, .string ⟨#[]⟩] 39)) = W8 at *
  refine (rlive_c _).mono ?_
  rintro _ w9 ⟨rfl, hb9⟩
  obtain ⟨y0, y1⟩ := (Y8.out.later hb9).cells
  go_wp2
  go_ret
  exact ⟨rfl, B8.out.trans (hb9.mono B8.out.size)⟩
set_option maxHeartbeats 4000000 in
theorem older_nzd (e0 e1 s0 s1 : Int) (w : World) (he0 : 0 ≤ e0 ∧ e0 < 4294967296) (he1 : 0 ≤ e1 ∧ e1 < 4294967296) (hs0 : 0 ≤ s0 ∧ s0 < 4294967296) (hs1 : 0 ≤ s1 ∧ s1 < 4294967296) (h0 : (s0 != 0) = true) (h1 : (s1 != 0) = false) (hc : ¬ e0 < e1) (hd : (e1 == e0) = false) :
    Calls Try.prog 6 #[.agg #[.int .u32 e0, .int .u32 e1], .agg #[.int .u32 s0, .int .u32 s1]] w fun x w' => x = .returned (.bool true) ∧ Below w.heap.size w w' := by
  have bz : (s0 == 0) = false := by exact beq_eq_false_iff_ne.2 (bne_iff_ne.1 h0)
  have hcd : decide (e0 < e1) = false := decide_eq_false hc
  have OK2 : Hid ((s1 != 0 && newerB ((if true then updK K00 1 ⟨1, e0, s0, ⟨#[]⟩⟩ else K00) 1) ⟨1, 1, 0, e1, s1, ⟨#[98]⟩⟩) = false) := by show _ = _; rw [h1]; rfl
  have OK1 : Hid ((s0 != 0 && newerB (K00 1) ⟨1, 1, 0, e0, s0, ⟨#[97]⟩⟩) = true) := by show _ = _; rw [h0]; rfl
  have WF2 : Hid (∀ i, ((if true then updK K00 1 ⟨1, e0, s0, ⟨#[]⟩⟩ else K00) i).Wf) := fun i => by
    exact wf_upd e0 s0 he0 hs0 i
  have ST2 : Hid (((if true then updK K00 1 ⟨1, e0, s0, ⟨#[]⟩⟩ else K00) 1).st ≠ 2) := by show _ ≠ _; show (1 : Int) ≠ 2; decide
  have b1 : Below w.heap.size w (w.alloc (.cells #[.int .u32 e0, .int .u32 e1] 51)) := (Below.refl _ _).alloc (Nat.le_refl _) _
  have t1 : TwoAt (w.alloc (.cells #[.int .u32 e0, .int .u32 e1] 51)) w.heap.size e0 e1 := heap_alloc_new w _
  have b2 : Below (w.alloc (.cells #[.int .u32 e0, .int .u32 e1] 51)).heap.size (w.alloc (.cells #[.int .u32 e0, .int .u32 e1] 51)) ((w.alloc (.cells #[.int .u32 e0, .int .u32 e1] 51)).alloc (.cells #[.int .u32 s0, .int .u32 s1] 51)) := (Below.refl _ _).alloc (Nat.le_refl _) _
  have t2 : TwoAt ((w.alloc (.cells #[.int .u32 e0, .int .u32 e1] 51)).alloc (.cells #[.int .u32 s0, .int .u32 s1] 51)) (w.heap.size + 1) s0 s1 := by
    have e0' : (w.alloc (.cells #[.int .u32 e0, .int .u32 e1] 51)).heap.size = w.heap.size + 1 := by simp
    rw [← e0']
    exact heap_alloc_new _ _
  have X0 := hid (t1.later b2)
  have Y0 := hid t2
  have B0 : Hid (Below w.heap.size w ((w.alloc (.cells #[.int .u32 e0, .int .u32 e1] 51)).alloc (.cells #[.int .u32 s0, .int .u32 s1] 51))) := hid (b1.trans (b2.mono b1.size))
  clear b1 b2 t1 t2
  go_enter Try.func6, Try.ntmps6
  go_wp2_with fail
  generalize ((w.alloc (.cells #[.int .u32 e0, .int .u32 e1] 51)).alloc (.cells #[.int .u32 s0, .int .u32 s1] 51)) = W0 at *
  refine (newCallee_c W0).mono ?_
  rintro _ w1 ⟨rfl, hK1, hb1⟩
  have l0 : w.heap.size + 1 < W0.heap.size := Y0.out.lt
  have l1 : W0.heap.size < w1.heap.size := hK1.lt
  have X1 := hid (X0.out.later hb1)
  have Y1 := hid (Y0.out.later hb1)
  obtain ⟨x0, x1⟩ := X1.out.cells
  obtain ⟨y0, y1⟩ := Y1.out.cells
  have B1 := hid (B0.out.trans (hb1.mono B0.out.size))
  have b3 : Below w1.heap.size w1 (w1.alloc (.cells #[.int .u8 1, .int .u8 1, .int .u8 0, .int .u32 e0, .int .u32 s0, .string ⟨#[97]⟩] 39)) := (Below.refl _ _).alloc (Nat.le_refl _) _
  have b4 : Below w1.heap.size w1 ((w1.alloc (.cells #[.int .u8 1, .int .u8 1, .int .u8 0, .int .u32 e0, .int .u32 s0, .string ⟨#[97]⟩] 39)).alloc (.cells #[.int .u8 1, .int .u8 1, .int .u8 0, .int .u32 e1, .int .u32 s1, .string ⟨#[98]⟩] 39)) := b3.alloc (by simp) _
  have P4 : Hid (PkAt ((w1.alloc (.cells #[.int .u8 1, .int .u8 1, .int .u8 0, .int .u32 e0, .int .u32 s0, .string ⟨#[97]⟩] 39)).alloc (.cells #[.int .u8 1, .int .u8 1, .int .u8 0, .int .u32 e1, .int .u32 s1, .string ⟨#[98]⟩] 39)) (w1.heap.size + 1) ⟨1, 1, 0, e1, s1, ⟨#[98]⟩⟩) := by
    show PkAt _ _ _
    have e0' : (w1.alloc (.cells #[.int .u8 1, .int .u8 1, .int .u8 0, .int .u32 e0, .int .u32 s0, .string ⟨#[97]⟩] 39)).heap.size = w1.heap.size + 1 := by simp
    rw [← e0']
    exact PkAt.new _ ⟨1, 1, 0, e1, s1, ⟨#[98]⟩⟩
  have KT := hid (older_take (hK1.later b4) wft0 (by decide) e0 s0 ⟨#[97]⟩ (by decide) he0 hs0 _ OK1.out)
  have X4 := hid (X1.out.later b4)
  have Y4 := hid (Y1.out.later b4)
  have B4 := hid (B1.out.trans (b4.mono B1.out.size))
  have l4 : w1.heap.size + 2 ≤ ((w1.alloc (.cells #[.int .u8 1, .int .u8 1, .int .u8 0, .int .u32 e0, .int .u32 s0, .string ⟨#[97]⟩] 39)).alloc (.cells #[.int .u8 1, .int .u8 1, .int .u8 0, .int .u32 e1, .int .u32 s1, .string ⟨#[98]⟩] 39)).heap.size := by simp
  have aw10 : w.heap.size < w1.heap.size := by omega
  have nw10 : ¬ w.heap.size = w1.heap.size := by omega
  have aw11 : w.heap.size + 1 < w1.heap.size := by omega
  have nw11 : ¬ w.heap.size + 1 = w1.heap.size := by omega
  clear hK1 hb1 X0 Y0 B0 b3 b4 B1
  go_wp2_with fail
  generalize ((w1.alloc (.cells #[.int .u8 1, .int .u8 1, .int .u8 0, .int .u32 e0, .int .u32 s0, .string ⟨#[97]⟩] 39)).alloc (.cells #[.int .u8 1, .int .u8 1, .int .u8 0, .int .u32 e1, .int .u32 s1, .string ⟨#[98]⟩] 39)) = W4 at *
  refine KT.out.mono ?_
  rintro _ w5 ⟨tx1, rfl, hK5, ho5⟩
  have l5 := ho5.size
  have b6 : Below w5.heap.size w5 (w5.alloc (.cells #[.int .u8 0, .int .u8 0, .int .u8 0, .int .u32 0, .int .u32 0, .string ⟨#[]⟩] 39)) := (Below.refl _ _).alloc (Nat.le_refl _) _
  have X6 := hid ((X4.out.out ho5 (by omega)).later b6)
  have Y6 := hid ((Y4.out.out ho5 (by omega)).later b6)
  have P6 := hid ((P4.out.out ho5 (by omega)).later b6)
  have b5 := B4.out.trans (ho5.below B4.out.size (fun k e => by omega))
  have B6 := hid (b5.trans (b6.mono b5.size))
  have KT2 := hid (older_take (hK5.later b6) WF2.out ST2.out e1 s1 ⟨#[98]⟩ (by decide) he1 hs1 _ OK2.out)
  have l6 := b6.size
  clear x0 x1 y0 y1
  obtain ⟨y0, y1⟩ := Y6.out.cells
  obtain ⟨q0, q1, q2, q3, q4, q5, _⟩ := P6.out.cells
  simp only at q0 q1 q2 q3 q4 q5
  have aw50 : w.heap.size < w5.heap.size := by omega
  have nw50 : ¬ w.heap.size = w5.heap.size := by omega
  have aw51 : w.heap.size + 1 < w5.heap.size := by omega
  have nw51 : ¬ w.heap.size + 1 = w5.heap.size := by omega
  have aw52 : w1.heap.size + 1 < w5.heap.size := by omega
  have nw52 : ¬ w1.heap.size + 1 = w5.heap.size := by omega
  clear KT hK5 ho5 X4 Y4 P4 B4 b5 b6
  go_wp2_with fail
  generalize (w5.alloc (.cells #[.int .u8 0, .int .u8 0, .int .u8 0, .int .u32 0, .int .u32 0, .string ⟨#[]⟩] 39)) = W6 at *
  refine KT2.out.mono ?_
  rintro _ w7 ⟨tx2, rfl, hK7, ho7⟩
  have X7 := hid (X6.out.out ho7 (by omega))
  have Y7 := hid (Y6.out.out ho7 (by omega))
  have B7 := hid (B6.out.trans (ho7.below B6.out.size (fun k e => by omega)))
  have l7 := ho7.size
  have aw7 : w.heap.size < w7.heap.size := by omega
  have bw7 : w.heap.size + 1 < w7.heap.size := by omega
  have cw7 : ¬ w.heap.size = w7.heap.size := by omega
  have dw7 : ¬ w.heap.size + 1 = w7.heap.size := by omega
  clear y0 y1 q0 q1 q2 q3 q4 q5 hK7 ho7 KT2
  obtain ⟨x0, x1⟩ := X7.out.cells
  obtain ⟨y0, y1⟩ := Y7.out.cells
  go_wp2_with fail
  have b8 : Below w7.heap.size w7 (w7.alloc (.cells #[.int .u8 0, .int .u8 0, .int .u8 0, .int .u32 0, .int .u32 0, .string ⟨#[]⟩] 39)) := (Below.refl _ _).alloc (Nat.le_refl _) _
  have X8 := hid (X7.out.later b8)
  have Y8 := hid (Y7.out.later b8)
  have B8 := hid (B7.out.trans (b8.mono B7.out.size))
  clear b8
  generalize (w7.alloc (.cells #[.int .u8 0, .int .u8 0, .int .u8 0, .int .u32 0, .int .u32 0, .string ⟨#[]⟩] 39)) = W8 at *
  refine (rlive_c _).mono ?_
  rintro _ w9 ⟨rfl, hb9⟩
  obtain ⟨y0, y1⟩ := (Y8.out.later hb9).cells
  go_wp2
  go_ret
  exact ⟨rfl, B8.out.trans (hb9.mono B8.out.size)⟩
set_option maxHeartbeats 4000000 in
theorem older_zna (e0 e1 s0 s1 : Int) (w : World) (he0 : 0 ≤ e0 ∧ e0 < 4294967296) (he1 : 0 ≤ e1 ∧ e1 < 4294967296) (hs0 : 0 ≤ s0 ∧ s0 < 4294967296) (hs1 : 0 ≤ s1 ∧ s1 < 4294967296) (h0 : (s0 != 0) = false) (h1 : (s1 != 0) = true) (hc : e0 < e1) :
    Calls Try.prog 6 #[.agg #[.int .u32 e0, .int .u32 e1], .agg #[.int .u32 s0, .int .u32 s1]] w fun x w' => x = .returned (.bool true) ∧ Below w.heap.size w w' := by
  have bz : (s0 == 0) = true := by rw [beq_iff_eq]; simpa using h0
  have OK2 : Hid ((s1 != 0 && newerB ((if false then updK K00 1 ⟨1, e0, s0, ⟨#[]⟩⟩ else K00) 1) ⟨1, 1, 0, e1, s1, ⟨#[98]⟩⟩) = true) := by show _ = _; rw [h1]; rfl
  have OK1 : Hid ((s0 != 0 && newerB (K00 1) ⟨1, 1, 0, e0, s0, ⟨#[97]⟩⟩) = false) := by show _ = _; rw [h0]; rfl
  have WF2 : Hid (∀ i, ((if false then updK K00 1 ⟨1, e0, s0, ⟨#[]⟩⟩ else K00) i).Wf) := fun i => by
    exact wft0 i
  have ST2 : Hid (((if false then updK K00 1 ⟨1, e0, s0, ⟨#[]⟩⟩ else K00) 1).st ≠ 2) := by show _ ≠ _; show (0 : Int) ≠ 2; decide
  have b1 : Below w.heap.size w (w.alloc (.cells #[.int .u32 e0, .int .u32 e1] 51)) := (Below.refl _ _).alloc (Nat.le_refl _) _
  have t1 : TwoAt (w.alloc (.cells #[.int .u32 e0, .int .u32 e1] 51)) w.heap.size e0 e1 := heap_alloc_new w _
  have b2 : Below (w.alloc (.cells #[.int .u32 e0, .int .u32 e1] 51)).heap.size (w.alloc (.cells #[.int .u32 e0, .int .u32 e1] 51)) ((w.alloc (.cells #[.int .u32 e0, .int .u32 e1] 51)).alloc (.cells #[.int .u32 s0, .int .u32 s1] 51)) := (Below.refl _ _).alloc (Nat.le_refl _) _
  have t2 : TwoAt ((w.alloc (.cells #[.int .u32 e0, .int .u32 e1] 51)).alloc (.cells #[.int .u32 s0, .int .u32 s1] 51)) (w.heap.size + 1) s0 s1 := by
    have e0' : (w.alloc (.cells #[.int .u32 e0, .int .u32 e1] 51)).heap.size = w.heap.size + 1 := by simp
    rw [← e0']
    exact heap_alloc_new _ _
  have X0 := hid (t1.later b2)
  have Y0 := hid t2
  have B0 : Hid (Below w.heap.size w ((w.alloc (.cells #[.int .u32 e0, .int .u32 e1] 51)).alloc (.cells #[.int .u32 s0, .int .u32 s1] 51))) := hid (b1.trans (b2.mono b1.size))
  clear b1 b2 t1 t2
  go_enter Try.func6, Try.ntmps6
  go_wp2_with fail
  generalize ((w.alloc (.cells #[.int .u32 e0, .int .u32 e1] 51)).alloc (.cells #[.int .u32 s0, .int .u32 s1] 51)) = W0 at *
  refine (newCallee_c W0).mono ?_
  rintro _ w1 ⟨rfl, hK1, hb1⟩
  have l0 : w.heap.size + 1 < W0.heap.size := Y0.out.lt
  have l1 : W0.heap.size < w1.heap.size := hK1.lt
  have X1 := hid (X0.out.later hb1)
  have Y1 := hid (Y0.out.later hb1)
  obtain ⟨x0, x1⟩ := X1.out.cells
  obtain ⟨y0, y1⟩ := Y1.out.cells
  have B1 := hid (B0.out.trans (hb1.mono B0.out.size))
  have b3 : Below w1.heap.size w1 (w1.alloc (.cells #[.int .u8 1, .int .u8 1, .int .u8 0, .int .u32 e0, .int .u32 s0, .string ⟨#[97]⟩] 39)) := (Below.refl _ _).alloc (Nat.le_refl _) _
  have b4 : Below w1.heap.size w1 ((w1.alloc (.cells #[.int .u8 1, .int .u8 1, .int .u8 0, .int .u32 e0, .int .u32 s0, .string ⟨#[97]⟩] 39)).alloc (.cells #[.int .u8 1, .int .u8 1, .int .u8 0, .int .u32 e1, .int .u32 s1, .string ⟨#[98]⟩] 39)) := b3.alloc (by simp) _
  have P4 : Hid (PkAt ((w1.alloc (.cells #[.int .u8 1, .int .u8 1, .int .u8 0, .int .u32 e0, .int .u32 s0, .string ⟨#[97]⟩] 39)).alloc (.cells #[.int .u8 1, .int .u8 1, .int .u8 0, .int .u32 e1, .int .u32 s1, .string ⟨#[98]⟩] 39)) (w1.heap.size + 1) ⟨1, 1, 0, e1, s1, ⟨#[98]⟩⟩) := by
    show PkAt _ _ _
    have e0' : (w1.alloc (.cells #[.int .u8 1, .int .u8 1, .int .u8 0, .int .u32 e0, .int .u32 s0, .string ⟨#[97]⟩] 39)).heap.size = w1.heap.size + 1 := by simp
    rw [← e0']
    exact PkAt.new _ ⟨1, 1, 0, e1, s1, ⟨#[98]⟩⟩
  have KT := hid (older_take (hK1.later b4) wft0 (by decide) e0 s0 ⟨#[97]⟩ (by decide) he0 hs0 _ OK1.out)
  have X4 := hid (X1.out.later b4)
  have Y4 := hid (Y1.out.later b4)
  have B4 := hid (B1.out.trans (b4.mono B1.out.size))
  have l4 : w1.heap.size + 2 ≤ ((w1.alloc (.cells #[.int .u8 1, .int .u8 1, .int .u8 0, .int .u32 e0, .int .u32 s0, .string ⟨#[97]⟩] 39)).alloc (.cells #[.int .u8 1, .int .u8 1, .int .u8 0, .int .u32 e1, .int .u32 s1, .string ⟨#[98]⟩] 39)).heap.size := by simp
  have aw10 : w.heap.size < w1.heap.size := by omega
  have nw10 : ¬ w.heap.size = w1.heap.size := by omega
  have aw11 : w.heap.size + 1 < w1.heap.size := by omega
  have nw11 : ¬ w.heap.size + 1 = w1.heap.size := by omega
  clear hK1 hb1 X0 Y0 B0 b3 b4 B1
  go_wp2_with fail
  generalize ((w1.alloc (.cells #[.int .u8 1, .int .u8 1, .int .u8 0, .int .u32 e0, .int .u32 s0, .string ⟨#[97]⟩] 39)).alloc (.cells #[.int .u8 1, .int .u8 1, .int .u8 0, .int .u32 e1, .int .u32 s1, .string ⟨#[98]⟩] 39)) = W4 at *
  refine KT.out.mono ?_
  rintro _ w5 ⟨tx1, rfl, hK5, ho5⟩
  have l5 := ho5.size
  have b6 : Below w5.heap.size w5 (w5.alloc (.cells #[.int .u8 0, .int .u8 0, .int .u8 0, .int .u32 0, .int .u32 0, .string ⟨#[]⟩] 39)) := (Below.refl _ _).alloc (Nat.le_refl _) _
  have X6 := hid ((X4.out.out ho5 (by omega)).later b6)
  have Y6 := hid ((Y4.out.out ho5 (by omega)).later b6)
  have P6 := hid ((P4.out.out ho5 (by omega)).later b6)
  have b5 := B4.out.trans (ho5.below B4.out.size (fun k e => by omega))
  have B6 := hid (b5.trans (b6.mono b5.size))
  have KT2 := hid (older_take (hK5.later b6) WF2.out ST2.out e1 s1 ⟨#[98]⟩ (by decide) he1 hs1 _ OK2.out)
  have l6 := b6.size
  clear x0 x1 y0 y1
  obtain ⟨y0, y1⟩ := Y6.out.cells
  obtain ⟨q0, q1, q2, q3, q4, q5, _⟩ := P6.out.cells
  simp only at q0 q1 q2 q3 q4 q5
  have aw50 : w.heap.size < w5.heap.size := by omega
  have nw50 : ¬ w.heap.size = w5.heap.size := by omega
  have aw51 : w.heap.size + 1 < w5.heap.size := by omega
  have nw51 : ¬ w.heap.size + 1 = w5.heap.size := by omega
  have aw52 : w1.heap.size + 1 < w5.heap.size := by omega
  have nw52 : ¬ w1.heap.size + 1 = w5.heap.size := by omega
  clear KT hK5 ho5 X4 Y4 P4 B4 b5 b6
  go_wp2_with fail
  generalize (w5.alloc (.cells #[.int .u8 0, .int .u8 0, .int .u8 0, .int .u32 0, .int .u32 0, .string ⟨#[]⟩] 39)) = W6 at *
  refine KT2.out.mono ?_
  rintro _ w7 ⟨tx2, rfl, hK7, ho7⟩
  have X7 := hid (X6.out.out ho7 (by omega))
  have Y7 := hid (Y6.out.out ho7 (by omega))
  have B7 := hid (B6.out.trans (ho7.below B6.out.size (fun k e => by omega)))
  have l7 := ho7.size
  have aw7 : w.heap.size < w7.heap.size := by omega
  have bw7 : w.heap.size + 1 < w7.heap.size := by omega
  have cw7 : ¬ w.heap.size = w7.heap.size := by omega
  have dw7 : ¬ w.heap.size + 1 = w7.heap.size := by omega
  clear y0 y1 q0 q1 q2 q3 q4 q5 hK7 ho7 KT2
  obtain ⟨x0, x1⟩ := X7.out.cells
  obtain ⟨y0, y1⟩ := Y7.out.cells
  go_wp2_with fail
  have b8 : Below w7.heap.size w7 (w7.alloc (.cells #[.int .u8 0, .int .u8 0, .int .u8 0, .int .u32 0, .int .u32 0, .string ⟨#[]⟩] 39)) := (Below.refl _ _).alloc (Nat.le_refl _) _
  have X8 := hid (X7.out.later b8)
  have Y8 := hid (Y7.out.later b8)
  have B8 := hid (B7.out.trans (b8.mono B7.out.size))
  clear b8
  generalize (w7.alloc (.cells #[.int .u8 0, .int .u8 0, .int .u8 0, .int .u32 0, .int .u32 0, .string ⟨#[]⟩] 39)) = W8 at *
  refine (rlive_c _).mono ?_
  rintro _ w9 ⟨rfl, hb9⟩
  obtain ⟨y0, y1⟩ := (Y8.out.later hb9).cells
  go_wp2
  go_ret
  exact ⟨rfl, B8.out.trans (hb9.mono B8.out.size)⟩
set_option maxHeartbeats 4000000 in
theorem older_znb (e0 e1 s0 s1 : Int) (w : World) (he0 : 0 ≤ e0 ∧ e0 < 4294967296) (he1 : 0 ≤ e1 ∧ e1 < 4294967296) (hs0 : 0 ≤ s0 ∧ s0 < 4294967296) (hs1 : 0 ≤ s1 ∧ s1 < 4294967296) (h0 : (s0 != 0) = false) (h1 : (s1 != 0) = true) (hc : ¬ e0 < e1) (hd : (e1 == e0) = true) (hx : s0 < s1) :
    Calls Try.prog 6 #[.agg #[.int .u32 e0, .int .u32 e1], .agg #[.int .u32 s0, .int .u32 s1]] w fun x w' => x = .returned (.bool true) ∧ Below w.heap.size w w' := by
  have bz : (s0 == 0) = true := by rw [beq_iff_eq]; simpa using h0
  have hcd : decide (e0 < e1) = false := decide_eq_false hc
  have OK2 : Hid ((s1 != 0 && newerB ((if false then updK K00 1 ⟨1, e0, s0, ⟨#[]⟩⟩ else K00) 1) ⟨1, 1, 0, e1, s1, ⟨#[98]⟩⟩) = true) := by show _ = _; rw [h1]; rfl
  have OK1 : Hid ((s0 != 0 && newerB (K00 1) ⟨1, 1, 0, e0, s0, ⟨#[97]⟩⟩) = false) := by show _ = _; rw [h0]; rfl
  have WF2 : Hid (∀ i, ((if false then updK K00 1 ⟨1, e0, s0, ⟨#[]⟩⟩ else K00) i).Wf) := fun i => by
    exact wft0 i
  have ST2 : Hid (((if false then updK K00 1 ⟨1, e0, s0, ⟨#[]⟩⟩ else K00) 1).st ≠ 2) := by show _ ≠ _; show (0 : Int) ≠ 2; decide
  have b1 : Below w.heap.size w (w.alloc (.cells #[.int .u32 e0, .int .u32 e1] 51)) := (Below.refl _ _).alloc (Nat.le_refl _) _
  have t1 : TwoAt (w.alloc (.cells #[.int .u32 e0, .int .u32 e1] 51)) w.heap.size e0 e1 := heap_alloc_new w _
  have b2 : Below (w.alloc (.cells #[.int .u32 e0, .int .u32 e1] 51)).heap.size (w.alloc (.cells #[.int .u32 e0, .int .u32 e1] 51)) ((w.alloc (.cells #[.int .u32 e0, .int .u32 e1] 51)).alloc (.cells #[.int .u32 s0, .int .u32 s1] 51)) := (Below.refl _ _).alloc (Nat.le_refl _) _
  have t2 : TwoAt ((w.alloc (.cells #[.int .u32 e0, .int .u32 e1] 51)).alloc (.cells #[.int .u32 s0, .int .u32 s1] 51)) (w.heap.size + 1) s0 s1 := by
    have e0' : (w.alloc (.cells #[.int .u32 e0, .int .u32 e1] 51)).heap.size = w.heap.size + 1 := by simp
    rw [← e0']
    exact heap_alloc_new _ _
  have X0 := hid (t1.later b2)
  have Y0 := hid t2
  have B0 : Hid (Below w.heap.size w ((w.alloc (.cells #[.int .u32 e0, .int .u32 e1] 51)).alloc (.cells #[.int .u32 s0, .int .u32 s1] 51))) := hid (b1.trans (b2.mono b1.size))
  clear b1 b2 t1 t2
  go_enter Try.func6, Try.ntmps6
  go_wp2_with fail
  generalize ((w.alloc (.cells #[.int .u32 e0, .int .u32 e1] 51)).alloc (.cells #[.int .u32 s0, .int .u32 s1] 51)) = W0 at *
  refine (newCallee_c W0).mono ?_
  rintro _ w1 ⟨rfl, hK1, hb1⟩
  have l0 : w.heap.size + 1 < W0.heap.size := Y0.out.lt
  have l1 : W0.heap.size < w1.heap.size := hK1.lt
  have X1 := hid (X0.out.later hb1)
  have Y1 := hid (Y0.out.later hb1)
  obtain ⟨x0, x1⟩ := X1.out.cells
  obtain ⟨y0, y1⟩ := Y1.out.cells
  have B1 := hid (B0.out.trans (hb1.mono B0.out.size))
  have b3 : Below w1.heap.size w1 (w1.alloc (.cells #[.int .u8 1, .int .u8 1, .int .u8 0, .int .u32 e0, .int .u32 s0, .string ⟨#[97]⟩] 39)) := (Below.refl _ _).alloc (Nat.le_refl _) _
  have b4 : Below w1.heap.size w1 ((w1.alloc (.cells #[.int .u8 1, .int .u8 1, .int .u8 0, .int .u32 e0, .int .u32 s0, .string ⟨#[97]⟩] 39)).alloc (.cells #[.int .u8 1, .int .u8 1, .int .u8 0, .int .u32 e1, .int .u32 s1, .string ⟨#[98]⟩] 39)) := b3.alloc (by simp) _
  have P4 : Hid (PkAt ((w1.alloc (.cells #[.int .u8 1, .int .u8 1, .int .u8 0, .int .u32 e0, .int .u32 s0, .string ⟨#[97]⟩] 39)).alloc (.cells #[.int .u8 1, .int .u8 1, .int .u8 0, .int .u32 e1, .int .u32 s1, .string ⟨#[98]⟩] 39)) (w1.heap.size + 1) ⟨1, 1, 0, e1, s1, ⟨#[98]⟩⟩) := by
    show PkAt _ _ _
    have e0' : (w1.alloc (.cells #[.int .u8 1, .int .u8 1, .int .u8 0, .int .u32 e0, .int .u32 s0, .string ⟨#[97]⟩] 39)).heap.size = w1.heap.size + 1 := by simp
    rw [← e0']
    exact PkAt.new _ ⟨1, 1, 0, e1, s1, ⟨#[98]⟩⟩
  have KT := hid (older_take (hK1.later b4) wft0 (by decide) e0 s0 ⟨#[97]⟩ (by decide) he0 hs0 _ OK1.out)
  have X4 := hid (X1.out.later b4)
  have Y4 := hid (Y1.out.later b4)
  have B4 := hid (B1.out.trans (b4.mono B1.out.size))
  have l4 : w1.heap.size + 2 ≤ ((w1.alloc (.cells #[.int .u8 1, .int .u8 1, .int .u8 0, .int .u32 e0, .int .u32 s0, .string ⟨#[97]⟩] 39)).alloc (.cells #[.int .u8 1, .int .u8 1, .int .u8 0, .int .u32 e1, .int .u32 s1, .string ⟨#[98]⟩] 39)).heap.size := by simp
  have aw10 : w.heap.size < w1.heap.size := by omega
  have nw10 : ¬ w.heap.size = w1.heap.size := by omega
  have aw11 : w.heap.size + 1 < w1.heap.size := by omega
  have nw11 : ¬ w.heap.size + 1 = w1.heap.size := by omega
  clear hK1 hb1 X0 Y0 B0 b3 b4 B1
  go_wp2_with fail
  generalize ((w1.alloc (.cells #[.int .u8 1, .int .u8 1, .int .u8 0, .int .u32 e0, .int .u32 s0, .string ⟨#[97]⟩] 39)).alloc (.cells #[.int .u8 1, .int .u8 1, .int .u8 0, .int .u32 e1, .int .u32 s1, .string ⟨#[98]⟩] 39)) = W4 at *
  refine KT.out.mono ?_
  rintro _ w5 ⟨tx1, rfl, hK5, ho5⟩
  have l5 := ho5.size
  have b6 : Below w5.heap.size w5 (w5.alloc (.cells #[.int .u8 0, .int .u8 0, .int .u8 0, .int .u32 0, .int .u32 0, .string ⟨#[]⟩] 39)) := (Below.refl _ _).alloc (Nat.le_refl _) _
  have X6 := hid ((X4.out.out ho5 (by omega)).later b6)
  have Y6 := hid ((Y4.out.out ho5 (by omega)).later b6)
  have P6 := hid ((P4.out.out ho5 (by omega)).later b6)
  have b5 := B4.out.trans (ho5.below B4.out.size (fun k e => by omega))
  have B6 := hid (b5.trans (b6.mono b5.size))
  have KT2 := hid (older_take (hK5.later b6) WF2.out ST2.out e1 s1 ⟨#[98]⟩ (by decide) he1 hs1 _ OK2.out)
  have l6 := b6.size
  clear x0 x1 y0 y1
  obtain ⟨y0, y1⟩ := Y6.out.cells
  obtain ⟨q0, q1, q2, q3, q4, q5, _⟩ := P6.out.cells
  simp only at q0 q1 q2 q3 q4 q5
  have aw50 : w.heap.size < w5.heap.size := by omega
  have nw50 : ¬ w.heap.size = w5.heap.size := by omega
  have aw51 : w.heap.size + 1 < w5.heap.size := by omega
  have nw51 : ¬ w.heap.size + 1 = w5.heap.size := by omega
  have aw52 : w1.heap.size + 1 < w5.heap.size := by omega
  have nw52 : ¬ w1.heap.size + 1 = w5.heap.size := by omega
  clear KT hK5 ho5 X4 Y4 P4 B4 b5 b6
  go_wp2_with fail
  generalize (w5.alloc (.cells #[.int .u8 0, .int .u8 0, .int .u8 0, .int .u32 0, .int .u32 0, .string ⟨#[]⟩] 39)) = W6 at *
  refine KT2.out.mono ?_
  rintro _ w7 ⟨tx2, rfl, hK7, ho7⟩
  have X7 := hid (X6.out.out ho7 (by omega))
  have Y7 := hid (Y6.out.out ho7 (by omega))
  have B7 := hid (B6.out.trans (ho7.below B6.out.size (fun k e => by omega)))
  have l7 := ho7.size
  have aw7 : w.heap.size < w7.heap.size := by omega
  have bw7 : w.heap.size + 1 < w7.heap.size := by omega
  have cw7 : ¬ w.heap.size = w7.heap.size := by omega
  have dw7 : ¬ w.heap.size + 1 = w7.heap.size := by omega
  clear y0 y1 q0 q1 q2 q3 q4 q5 hK7 ho7 KT2
  obtain ⟨x0, x1⟩ := X7.out.cells
  obtain ⟨y0, y1⟩ := Y7.out.cells
  go_wp2_with fail
  have b8 : Below w7.heap.size w7 (w7.alloc (.cells #[.int .u8 0, .int .u8 0, .int .u8 0, .int .u32 0, .int .u32 0, .string ⟨#[]⟩] 39)) := (Below.refl _ _).alloc (Nat.le_refl _) _
  have X8 := hid (X7.out.later b8)
  have Y8 := hid (Y7.out.later b8)
  have B8 := hid (B7.out.trans (b8.mono B7.out.size))
  clear b8
  generalize (w7.alloc (.cells #[.int .u8 0, .int .u8 0, .int .u8 0, .int .u32 0, .int .u32 0, .string ⟨#[]⟩] 39)) = W8 at *
  refine (rlive_c _).mono ?_
  rintro _ w9 ⟨rfl, hb9⟩
  obtain ⟨y0, y1⟩ := (Y8.out.later hb9).cells
  go_wp2
  go_ret
  exact ⟨rfl, B8.out.trans (hb9.mono B8.out.size)⟩
set_option maxHeartbeats 4000000 in
theorem older_znc (e0 e1 s0 s1 : Int) (w : World) (he0 : 0 ≤ e0 ∧ e0 < 4294967296) (he1 : 0 ≤ e1 ∧ e1 < 4294967296) (hs0 : 0 ≤ s0 ∧ s0 < 4294967296) (hs1 : 0 ≤ s1 ∧ s1 < 4294967296) (h0 : (s0 != 0) = false) (h1 : (s1 != 0) = true) (hc : ¬ e0 < e1) (hd : (e1 == e0) = true) (hx : ¬ s0 < s1) :
    Calls Try.prog 6 #[.agg #[.int .u32 e0, .int .u32 e1], .agg #[.int .u32 s0, .int .u32 s1]] w fun x w' => x = .returned (.bool true) ∧ Below w.heap.size w w' := by
  have bz : (s0 == 0) = true := by rw [beq_iff_eq]; simpa using h0
  have hcd : decide (e0 < e1) = false := decide_eq_false hc
  have hxd : decide (s0 < s1) = false := decide_eq_false hx
  have OK2 : Hid ((s1 != 0 && newerB ((if false then updK K00 1 ⟨1, e0, s0, ⟨#[]⟩⟩ else K00) 1) ⟨1, 1, 0, e1, s1, ⟨#[98]⟩⟩) = true) := by show _ = _; rw [h1]; rfl
  have OK1 : Hid ((s0 != 0 && newerB (K00 1) ⟨1, 1, 0, e0, s0, ⟨#[97]⟩⟩) = false) := by show _ = _; rw [h0]; rfl
  have WF2 : Hid (∀ i, ((if false then updK K00 1 ⟨1, e0, s0, ⟨#[]⟩⟩ else K00) i).Wf) := fun i => by
    exact wft0 i
  have ST2 : Hid (((if false then updK K00 1 ⟨1, e0, s0, ⟨#[]⟩⟩ else K00) 1).st ≠ 2) := by show _ ≠ _; show (0 : Int) ≠ 2; decide
  have b1 : Below w.heap.size w (w.alloc (.cells #[.int .u32 e0, .int .u32 e1] 51)) := (Below.refl _ _).alloc (Nat.le_refl _) _
  have t1 : TwoAt (w.alloc (.cells #[.int .u32 e0, .int .u32 e1] 51)) w.heap.size e0 e1 := heap_alloc_new w _
  have b2 : Below (w.alloc (.cells #[.int .u32 e0, .int .u32 e1] 51)).heap.size (w.alloc (.cells #[.int .u32 e0, .int .u32 e1] 51)) ((w.alloc (.cells #[.int .u32 e0, .int .u32 e1] 51)).alloc (.cells #[.int .u32 s0, .int .u32 s1] 51)) := (Below.refl _ _).alloc (Nat.le_refl _) _
  have t2 : TwoAt ((w.alloc (.cells #[.int .u32 e0, .int .u32 e1] 51)).alloc (.cells #[.int .u32 s0, .int .u32 s1] 51)) (w.heap.size + 1) s0 s1 := by
    have e0' : (w.alloc (.cells #[.int .u32 e0, .int .u32 e1] 51)).heap.size = w.heap.size + 1 := by simp
    rw [← e0']
    exact heap_alloc_new _ _
  have X0 := hid (t1.later b2)
  have Y0 := hid t2
  have B0 : Hid (Below w.heap.size w ((w.alloc (.cells #[.int .u32 e0, .int .u32 e1] 51)).alloc (.cells #[.int .u32 s0, .int .u32 s1] 51))) := hid (b1.trans (b2.mono b1.size))
  clear b1 b2 t1 t2
  go_enter Try.func6, Try.ntmps6
  go_wp2_with fail
  generalize ((w.alloc (.cells #[.int .u32 e0, .int .u32 e1] 51)).alloc (.cells #[.int .u32 s0, .int .u32 s1] 51)) = W0 at *
  refine (newCallee_c W0).mono ?_
  rintro _ w1 ⟨rfl, hK1, hb1⟩
  have l0 : w.heap.size + 1 < W0.heap.size := Y0.out.lt
  have l1 : W0.heap.size < w1.heap.size := hK1.lt
  have X1 := hid (X0.out.later hb1)
  have Y1 := hid (Y0.out.later hb1)
  obtain ⟨x0, x1⟩ := X1.out.cells
  obtain ⟨y0, y1⟩ := Y1.out.cells
  have B1 := hid (B0.out.trans (hb1.mono B0.out.size))
  have b3 : Below w1.heap.size w1 (w1.alloc (.cells #[.int .u8 1, .int .u8 1, .int .u8 0, .int .u32 e0, .int .u32 s0, .string ⟨#[97]⟩] 39)) := (Below.refl _ _).alloc (Nat.le_refl _) _
  have b4 : Below w1.heap.size w1 ((w1.alloc (.cells #[.int .u8 1, .int .u8 1, .int .u8 0, .int .u32 e0, .int .u32 s0, .string ⟨#[97]⟩] 39)).alloc (.cells #[.int .u8 1, .int .u8 1, .int .u8 0, .int .u32 e1, .int .u32 s1, .string ⟨#[98]⟩] 39)) := b3.alloc (by simp) _
  have P4 : Hid (PkAt ((w1.alloc (.cells #[.int .u8 1, .int .u8 1, .int .u8 0, .int .u32 e0, .int .u32 s0, .string ⟨#[97]⟩] 39)).alloc (.cells #[.int .u8 1, .int .u8 1, .int .u8 0, .int .u32 e1, .int .u32 s1, .string ⟨#[98]⟩] 39)) (w1.heap.size + 1) ⟨1, 1, 0, e1, s1, ⟨#[98]⟩⟩) := by
    show PkAt _ _ _
    have e0' : (w1.alloc (.cells #[.int .u8 1, .int .u8 1, .int .u8 0, .int .u32 e0, .int .u32 s0, .string ⟨#[97]⟩] 39)).heap.size = w1.heap.size + 1 := by simp
    rw [← e0']
    exact PkAt.new _ ⟨1, 1, 0, e1, s1, ⟨#[98]⟩⟩
  have KT := hid (older_take (hK1.later b4) wft0 (by decide) e0 s0 ⟨#[97]⟩ (by decide) he0 hs0 _ OK1.out)
  have X4 := hid (X1.out.later b4)
  have Y4 := hid (Y1.out.later b4)
  have B4 := hid (B1.out.trans (b4.mono B1.out.size))
  have l4 : w1.heap.size + 2 ≤ ((w1.alloc (.cells #[.int .u8 1, .int .u8 1, .int .u8 0, .int .u32 e0, .int .u32 s0, .string ⟨#[97]⟩] 39)).alloc (.cells #[.int .u8 1, .int .u8 1, .int .u8 0, .int .u32 e1, .int .u32 s1, .string ⟨#[98]⟩] 39)).heap.size := by simp
  have aw10 : w.heap.size < w1.heap.size := by omega
  have nw10 : ¬ w.heap.size = w1.heap.size := by omega
  have aw11 : w.heap.size + 1 < w1.heap.size := by omega
  have nw11 : ¬ w.heap.size + 1 = w1.heap.size := by omega
  clear hK1 hb1 X0 Y0 B0 b3 b4 B1
  go_wp2_with fail
  generalize ((w1.alloc (.cells #[.int .u8 1, .int .u8 1, .int .u8 0, .int .u32 e0, .int .u32 s0, .string ⟨#[97]⟩] 39)).alloc (.cells #[.int .u8 1, .int .u8 1, .int .u8 0, .int .u32 e1, .int .u32 s1, .string ⟨#[98]⟩] 39)) = W4 at *
  refine KT.out.mono ?_
  rintro _ w5 ⟨tx1, rfl, hK5, ho5⟩
  have l5 := ho5.size
  have b6 : Below w5.heap.size w5 (w5.alloc (.cells #[.int .u8 0, .int .u8 0, .int .u8 0, .int .u32 0, .int .u32 0, .string ⟨#[]⟩] 39)) := (Below.refl _ _).alloc (Nat.le_refl _) _
  have X6 := hid ((X4.out.out ho5 (by omega)).later b6)
  have Y6 := hid ((Y4.out.out ho5 (by omega)).later b6)
  have P6 := hid ((P4.out.out ho5 (by omega)).later b6)
  have b5 := B4.out.trans (ho5.below B4.out.size (fun k e => by omega))
  have B6 := hid (b5.trans (b6.mono b5.size))
  have KT2 := hid (older_take (hK5.later b6) WF2.out ST2.out e1 s1 ⟨#[98]⟩ (by decide) he1 hs1 _ OK2.out)
  have l6 := b6.size
  clear x0 x1 y0 y1
  obtain ⟨y0, y1⟩ := Y6.out.cells
  obtain ⟨q0, q1, q2, q3, q4, q5, _⟩ := P6.out.cells
  simp only at q0 q1 q2 q3 q4 q5
  have aw50 : w.heap.size < w5.heap.size := by omega
  have nw50 : ¬ w.heap.size = w5.heap.size := by omega
  have aw51 : w.heap.size + 1 < w5.heap.size := by omega
  have nw51 : ¬ w.heap.size + 1 = w5.heap.size := by omega
  have aw52 : w1.heap.size + 1 < w5.heap.size := by omega
  have nw52 : ¬ w1.heap.size + 1 = w5.heap.size := by omega
  clear KT hK5 ho5 X4 Y4 P4 B4 b5 b6
  go_wp2_with fail
  generalize (w5.alloc (.cells #[.int .u8 0, .int .u8 0, .int .u8 0, .int .u32 0, .int .u32 0, .string ⟨#[]⟩] 39)) = W6 at *
  refine KT2.out.mono ?_
  rintro _ w7 ⟨tx2, rfl, hK7, ho7⟩
  have X7 := hid (X6.out.out ho7 (by omega))
  have Y7 := hid (Y6.out.out ho7 (by omega))
  have B7 := hid (B6.out.trans (ho7.below B6.out.size (fun k e => by omega)))
  have l7 := ho7.size
  have aw7 : w.heap.size < w7.heap.size := by omega
  have bw7 : w.heap.size + 1 < w7.heap.size := by omega
  have cw7 : ¬ w.heap.size = w7.heap.size := by omega
  have dw7 : ¬ w.heap.size + 1 = w7.heap.size := by omega
  clear y0 y1 q0 q1 q2 q3 q4 q5 hK7 ho7 KT2
  obtain ⟨x0, x1⟩ := X7.out.cells
  obtain ⟨y0, y1⟩ := Y7.out.cells
  go_wp2_with fail
  have b8 : Below w7.heap.size w7 (w7.alloc (.cells #[.int .u8 0, .int .u8 0, .int .u8 0, .int .u32 0, .int .u32 0, .string ⟨#[]⟩] 39)) := (Below.refl _ _).alloc (Nat.le_refl _) _
  have X8 := hid (X7.out.later b8)
  have Y8 := hid (Y7.out.later b8)
  have B8 := hid (B7.out.trans (b8.mono B7.out.size))
  clear b8
  generalize (w7.alloc (.cells #[.int .u8 0, .int .u8 0, .int .u8 0, .int .u32 0, .int .u32 0, .string ⟨#[]⟩] 39)) = W8 at *
  refine (rlive_c _).mono ?_
  rintro _ w9 ⟨rfl, hb9⟩
  obtain ⟨y0, y1⟩ := (Y8.out.later hb9).cells
  go_wp2
  go_ret
  exact ⟨rfl, B8.out.trans (hb9.mono B8.out.size)⟩
set_option maxHeartbeats 4000000 in
theorem older_znd (e0 e1 s0 s1 : Int) (w : World) (he0 : 0 ≤ e0 ∧ e0 < 4294967296) (he1 : 0 ≤ e1 ∧ e1 < 4294967296) (hs0 : 0 ≤ s0 ∧ s0 < 4294967296) (hs1 : 0 ≤ s1 ∧ s1 < 4294967296) (h0 : (s0 != 0) = false) (h1 : (s1 != 0) = true) (hc : ¬ e0 < e1) (hd : (e1 == e0) = false) :
    Calls Try.prog 6 #[.agg #[.int .u32 e0, .int .u32 e1], .agg #[.int .u32 s0, .int .u32 s1]] w fun x w' => x = .returned (.bool true) ∧ Below w.heap.size w w' := by
  have bz : (s0 == 0) = true := by rw [beq_iff_eq]; simpa using h0
  have hcd : decide (e0 < e1) = false := decide_eq_false hc
  have OK2 : Hid ((s1 != 0 && newerB ((if false then updK K00 1 ⟨1, e0, s0, ⟨#[]⟩⟩ else K00) 1) ⟨1, 1, 0, e1, s1, ⟨#[98]⟩⟩) = true) := by show _ = _; rw [h1]; rfl
  have OK1 : Hid ((s0 != 0 && newerB (K00 1) ⟨1, 1, 0, e0, s0, ⟨#[97]⟩⟩) = false) := by show _ = _; rw [h0]; rfl
  have WF2 : Hid (∀ i, ((if false then updK K00 1 ⟨1, e0, s0, ⟨#[]⟩⟩ else K00) i).Wf) := fun i => by
    exact wft0 i
  have ST2 : Hid (((if false then updK K00 1 ⟨1, e0, s0, ⟨#[]⟩⟩ else K00) 1).st ≠ 2) := by show _ ≠ _; show (0 : Int) ≠ 2; decide
  have b1 : Below w.heap.size w (w.alloc (.cells #[.int .u32 e0, .int .u32 e1] 51)) := (Below.refl _ _).alloc (Nat.le_refl _) _
  have t1 : TwoAt (w.alloc (.cells #[.int .u32 e0, .int .u32 e1] 51)) w.heap.size e0 e1 := heap_alloc_new w _
  have b2 : Below (w.alloc (.cells #[.int .u32 e0, .int .u32 e1] 51)).heap.size (w.alloc (.cells #[.int .u32 e0, .int .u32 e1] 51)) ((w.alloc (.cells #[.int .u32 e0, .int .u32 e1] 51)).alloc (.cells #[.int .u32 s0, .int .u32 s1] 51)) := (Below.refl _ _).alloc (Nat.le_refl _) _
  have t2 : TwoAt ((w.alloc (.cells #[.int .u32 e0, .int .u32 e1] 51)).alloc (.cells #[.int .u32 s0, .int .u32 s1] 51)) (w.heap.size + 1) s0 s1 := by
    have e0' : (w.alloc (.cells #[.int .u32 e0, .int .u32 e1] 51)).heap.size = w.heap.size + 1 := by simp
    rw [← e0']
    exact heap_alloc_new _ _
  have X0 := hid (t1.later b2)
  have Y0 := hid t2
  have B0 : Hid (Below w.heap.size w ((w.alloc (.cells #[.int .u32 e0, .int .u32 e1] 51)).alloc (.cells #[.int .u32 s0, .int .u32 s1] 51))) := hid (b1.trans (b2.mono b1.size))
  clear b1 b2 t1 t2
  go_enter Try.func6, Try.ntmps6
  go_wp2_with fail
  generalize ((w.alloc (.cells #[.int .u32 e0, .int .u32 e1] 51)).alloc (.cells #[.int .u32 s0, .int .u32 s1] 51)) = W0 at *
  refine (newCallee_c W0).mono ?_
  rintro _ w1 ⟨rfl, hK1, hb1⟩
  have l0 : w.heap.size + 1 < W0.heap.size := Y0.out.lt
  have l1 : W0.heap.size < w1.heap.size := hK1.lt
  have X1 := hid (X0.out.later hb1)
  have Y1 := hid (Y0.out.later hb1)
  obtain ⟨x0, x1⟩ := X1.out.cells
  obtain ⟨y0, y1⟩ := Y1.out.cells
  have B1 := hid (B0.out.trans (hb1.mono B0.out.size))
  have b3 : Below w1.heap.size w1 (w1.alloc (.cells #[.int .u8 1, .int .u8 1, .int .u8 0, .int .u32 e0, .int .u32 s0, .string ⟨#[97]⟩] 39)) := (Below.refl _ _).alloc (Nat.le_refl _) _
  have b4 : Below w1.heap.size w1 ((w1.alloc (.cells #[.int .u8 1, .int .u8 1, .int .u8 0, .int .u32 e0, .int .u32 s0, .string ⟨#[97]⟩] 39)).alloc (.cells #[.int .u8 1, .int .u8 1, .int .u8 0, .int .u32 e1, .int .u32 s1, .string ⟨#[98]⟩] 39)) := b3.alloc (by simp) _
  have P4 : Hid (PkAt ((w1.alloc (.cells #[.int .u8 1, .int .u8 1, .int .u8 0, .int .u32 e0, .int .u32 s0, .string ⟨#[97]⟩] 39)).alloc (.cells #[.int .u8 1, .int .u8 1, .int .u8 0, .int .u32 e1, .int .u32 s1, .string ⟨#[98]⟩] 39)) (w1.heap.size + 1) ⟨1, 1, 0, e1, s1, ⟨#[98]⟩⟩) := by
    show PkAt _ _ _
    have e0' : (w1.alloc (.cells #[.int .u8 1, .int .u8 1, .int .u8 0, .int .u32 e0, .int .u32 s0, .string ⟨#[97]⟩] 39)).heap.size = w1.heap.size + 1 := by simp
    rw [← e0']
    exact PkAt.new _ ⟨1, 1, 0, e1, s1, ⟨#[98]⟩⟩
  have KT := hid (older_take (hK1.later b4) wft0 (by decide) e0 s0 ⟨#[97]⟩ (by decide) he0 hs0 _ OK1.out)
  have X4 := hid (X1.out.later b4)
  have Y4 := hid (Y1.out.later b4)
  have B4 := hid (B1.out.trans (b4.mono B1.out.size))
  have l4 : w1.heap.size + 2 ≤ ((w1.alloc (.cells #[.int .u8 1, .int .u8 1, .int .u8 0, .int .u32 e0, .int .u32 s0, .string ⟨#[97]⟩] 39)).alloc (.cells #[.int .u8 1, .int .u8 1, .int .u8 0, .int .u32 e1, .int .u32 s1, .string ⟨#[98]⟩] 39)).heap.size := by simp
  have aw10 : w.heap.size < w1.heap.size := by omega
  have nw10 : ¬ w.heap.size = w1.heap.size := by omega
  have aw11 : w.heap.size + 1 < w1.heap.size := by omega
  have nw11 : ¬ w.heap.size + 1 = w1.heap.size := by omega
  clear hK1 hb1 X0 Y0 B0 b3 b4 B1
  go_wp2_with fail
  generalize ((w1.alloc (.cells #[.int .u8 1, .int .u8 1, .int .u8 0, .int .u32 e0, .int .u32 s0, .string ⟨#[97]⟩] 39)).alloc (.cells #[.int .u8 1, .int .u8 1, .int .u8 0, .int .u32 e1, .int .u32 s1, .string ⟨#[98]⟩] 39)) = W4 at *
  refine KT.out.mono ?_
  rintro _ w5 ⟨tx1, rfl, hK5, ho5⟩
  have l5 := ho5.size
  have b6 : Below w5.heap.size w5 (w5.alloc (.cells #[.int .u8 0, .int .u8 0, .int .u8 0, .int .u32 0, .int .u32 0, .string ⟨#[]⟩] 39)) := (Below.refl _ _).alloc (Nat.le_refl _) _
  have X6 := hid ((X4.out.out ho5 (by omega)).later b6)
  have Y6 := hid ((Y4.out.out ho5 (by omega)).later b6)
  have P6 := hid ((P4.out.out ho5 (by omega)).later b6)
  have b5 := B4.out.trans (ho5.below B4.out.size (fun k e => by omega))
  have B6 := hid (b5.trans (b6.mono b5.size))
  have KT2 := hid (older_take (hK5.later b6) WF2.out ST2.out e1 s1 ⟨#[98]⟩ (by decide) he1 hs1 _ OK2.out)
  have l6 := b6.size
  clear x0 x1 y0 y1
  obtain ⟨y0, y1⟩ := Y6.out.cells
  obtain ⟨q0, q1, q2, q3, q4, q5, _⟩ := P6.out.cells
  simp only at q0 q1 q2 q3 q4 q5
  have aw50 : w.heap.size < w5.heap.size := by omega
  have nw50 : ¬ w.heap.size = w5.heap.size := by omega
  have aw51 : w.heap.size + 1 < w5.heap.size := by omega
  have nw51 : ¬ w.heap.size + 1 = w5.heap.size := by omega
  have aw52 : w1.heap.size + 1 < w5.heap.size := by omega
  have nw52 : ¬ w1.heap.size + 1 = w5.heap.size := by omega
  clear KT hK5 ho5 X4 Y4 P4 B4 b5 b6
  go_wp2_with fail
  generalize (w5.alloc (.cells #[.int .u8 0, .int .u8 0, .int .u8 0, .int .u32 0, .int .u32 0, .string ⟨#[]⟩] 39)) = W6 at *
  refine KT2.out.mono ?_
  rintro _ w7 ⟨tx2, rfl, hK7, ho7⟩
  have X7 := hid (X6.out.out ho7 (by omega))
  have Y7 := hid (Y6.out.out ho7 (by omega))
  have B7 := hid (B6.out.trans (ho7.below B6.out.size (fun k e => by omega)))
  have l7 := ho7.size
  have aw7 : w.heap.size < w7.heap.size := by omega
  have bw7 : w.heap.size + 1 < w7.heap.size := by omega
  have cw7 : ¬ w.heap.size = w7.heap.size := by omega
  have dw7 : ¬ w.heap.size + 1 = w7.heap.size := by omega
  clear y0 y1 q0 q1 q2 q3 q4 q5 hK7 ho7 KT2
  obtain ⟨x0, x1⟩ := X7.out.cells
  obtain ⟨y0, y1⟩ := Y7.out.cells
  go_wp2_with fail
  have b8 : Below w7.heap.size w7 (w7.alloc (.cells #[.int .u8 0, .int .u8 0, .int .u8 0, .int .u32 0, .int .u32 0, .string ⟨#[]⟩] 39)) := (Below.refl _ _).alloc (Nat.le_refl _) _
  have X8 := hid (X7.out.later b8)
  have Y8 := hid (Y7.out.later b8)
  have B8 := hid (B7.out.trans (b8.mono B7.out.size))
  clear b8
  generalize (w7.alloc (.cells #[.int .u8 0, .int .u8 0, .int .u8 0, .int .u32 0, .int .u32 0, .string ⟨#[]⟩] 39)) = W8 at *
  refine (rlive_c _).mono ?_
  rintro _ w9 ⟨rfl, hb9⟩
  obtain ⟨y0, y1⟩ := (Y8.out.later hb9).cells
  go_wp2
  go_ret
  exact ⟨rfl, B8.out.trans (hb9.mono B8.out.size)⟩
set_option maxHeartbeats 4000000 in
theorem older_zza (e0 e1 s0 s1 : Int) (w : World) (he0 : 0 ≤ e0 ∧ e0 < 4294967296) (he1 : 0 ≤ e1 ∧ e1 < 4294967296) (hs0 : 0 ≤ s0 ∧ s0 < 4294967296) (hs1 : 0 ≤ s1 ∧ s1 < 4294967296) (h0 : (s0 != 0) = false) (h1 : (s1 != 0) = false) (hc : e0 < e1) :
    Calls Try.prog 6 #[.agg #[.int .u32 e0, .int .u32 e1], .agg #[.int .u32 s0, .int .u32 s1]] w fun x w' => x = .returned (.bool true) ∧ Below w.heap.size w w' := by
  have bz : (s0 == 0) = true := by rw [beq_iff_eq]; simpa using h0
  have OK2 : Hid ((s1 != 0 && newerB ((if false then updK K00 1 ⟨1, e0, s0, ⟨#[]⟩⟩ else K00) 1) ⟨1, 1, 0, e1, s1, ⟨#[98]⟩⟩) = false) := by show _ = _; rw [h1]; rfl
  have OK1 : Hid ((s0 != 0 && newerB (K00 1) ⟨1, 1, 0, e0, s0, ⟨#[97]⟩⟩) = false) := by show _ = _; rw [h0]; rfl
  have WF2 : Hid (∀ i, ((if false then updK K00 1 ⟨1, e0, s0, ⟨#[]⟩⟩ else K00) i).Wf) := fun i => by
    exact wft0 i
  have ST2 : Hid (((if false then updK K00 1 ⟨1, e0, s0, ⟨#[]⟩⟩ else K00) 1).st ≠ 2) := by show _ ≠ _; show (0 : Int) ≠ 2; decide
  have b1 : Below w.heap.size w (w.alloc (.cells #[.int .u32 e0, .int .u32 e1] 51)) := (Below.refl _ _).alloc (Nat.le_refl _) _
  have t1 : TwoAt (w.alloc (.cells #[.int .u32 e0, .int .u32 e1] 51)) w.heap.size e0 e1 := heap_alloc_new w _
  have b2 : Below (w.alloc (.cells #[.int .u32 e0, .int .u32 e1] 51)).heap.size (w.alloc (.cells #[.int .u32 e0, .int .u32 e1] 51)) ((w.alloc (.cells #[.int .u32 e0, .int .u32 e1] 51)).alloc (.cells #[.int .u32 s0, .int .u32 s1] 51)) := (Below.refl _ _).alloc (Nat.le_refl _) _
  have t2 : TwoAt ((w.alloc (.cells #[.int .u32 e0, .int .u32 e1] 51)).alloc (.cells #[.int .u32 s0, .int .u32 s1] 51)) (w.heap.size + 1) s0 s1 := by
    have e0' : (w.alloc (.cells #[.int .u32 e0, .int .u32 e1] 51)).heap.size = w.heap.size + 1 := by simp
    rw [← e0']
    exact heap_alloc_new _ _
  have X0 := hid (t1.later b2)
  have Y0 := hid t2
  have B0 : Hid (Below w.heap.size w ((w.alloc (.cells #[.int .u32 e0, .int .u32 e1] 51)).alloc (.cells #[.int .u32 s0, .int .u32 s1] 51))) := hid (b1.trans (b2.mono b1.size))
  clear b1 b2 t1 t2
  go_enter Try.func6, Try.ntmps6
  go_wp2_with fail
  generalize ((w.alloc (.cells #[.int .u32 e0, .int .u32 e1] 51)).alloc (.cells #[.int .u32 s0, .int .u32 s1] 51)) = W0 at *
  refine (newCallee_c W0).mono ?_
  rintro _ w1 ⟨rfl, hK1, hb1⟩
  have l0 : w.heap.size + 1 < W0.heap.size := Y0.out.lt
  have l1 : W0.heap.size < w1.heap.size := hK1.lt
  have X1 := hid (X0.out.later hb1)
  have Y1 := hid (Y0.out.later hb1)
  obtain ⟨x0, x1⟩ := X1.out.cells
  obtain ⟨y0, y1⟩ := Y1.out.cells
  have B1 := hid (B0.out.trans (hb1.mono B0.out.size))
  have b3 : Below w1.heap.size w1 (w1.alloc (.cells #[.int .u8 1, .int .u8 1, .int .u8 0, .int .u32 e0, .int .u32 s0, .string ⟨#[97]⟩] 39)) := (Below.refl _ _).alloc (Nat.le_refl _) _
  have b4 : Below w1.heap.size w1 ((w1.alloc (.cells #[.int .u8 1, .int .u8 1, .int .u8 0, .int .u32 e0, .int .u32 s0, .string ⟨#[97]⟩] 39)).alloc (.cells #[.int .u8 1, .int .u8 1, .int .u8 0, .int .u32 e1, .int .u32 s1, .string ⟨#[98]⟩] 39)) := b3.alloc (by simp) _
  have P4 : Hid (PkAt ((w1.alloc (.cells #[.int .u8 1, .int .u8 1, .int .u8 0, .int .u32 e0, .int .u32 s0, .string ⟨#[97]⟩] 39)).alloc (.cells #[.int .u8 1, .int .u8 1, .int .u8 0, .int .u32 e1, .int .u32 s1, .string ⟨#[98]⟩] 39)) (w1.heap.size + 1) ⟨1, 1, 0, e1, s1, ⟨#[98]⟩⟩) := by
    show PkAt _ _ _
    have e0' : (w1.alloc (.cells #[.int .u8 1, .int .u8 1, .int .u8 0, .int .u32 e0, .int .u32 s0, .string ⟨#[97]⟩] 39)).heap.size = w1.heap.size + 1 := by simp
    rw [← e0']
    exact PkAt.new _ ⟨1, 1, 0, e1, s1, ⟨#[98]⟩⟩
  have KT := hid (older_take (hK1.later b4) wft0 (by decide) e0 s0 ⟨#[97]⟩ (by decide) he0 hs0 _ OK1.out)
  have X4 := hid (X1.out.later b4)
  have Y4 := hid (Y1.out.later b4)
  have B4 := hid (B1.out.trans (b4.mono B1.out.size))
  have l4 : w1.heap.size + 2 ≤ ((w1.alloc (.cells #[.int .u8 1, .int .u8 1, .int .u8 0, .int .u32 e0, .int .u32 s0, .string ⟨#[97]⟩] 39)).alloc (.cells #[.int .u8 1, .int .u8 1, .int .u8 0, .int .u32 e1, .int .u32 s1, .string ⟨#[98]⟩] 39)).heap.size := by simp
  have aw10 : w.heap.size < w1.heap.size := by omega
  have nw10 : ¬ w.heap.size = w1.heap.size := by omega
  have aw11 : w.heap.size + 1 < w1.heap.size := by omega
  have nw11 : ¬ w.heap.size + 1 = w1.heap.size := by omega
  clear hK1 hb1 X0 Y0 B0 b3 b4 B1
  go_wp2_with fail
  generalize ((w1.alloc (.cells #[.int .u8 1, .int .u8 1, .int .u8 0, .int .u32 e0, .int .u32 s0, .string ⟨#[97]⟩] 39)).alloc (.cells #[.int .u8 1, .int .u8 1, .int .u8 0, .int .u32 e1, .int .u32 s1, .string ⟨#[98]⟩] 39)) = W4 at *
  refine KT.out.mono ?_
  rintro _ w5 ⟨tx1, rfl, hK5, ho5⟩
  have l5 := ho5.size
  have b6 : Below w5.heap.size w5 (w5.alloc (.cells #[.int .u8 0, .int .u8 0, .int .u8 0, .int .u32 0, .int .u32 0, .string ⟨#[]⟩] 39)) := (Below.refl _ _).alloc (Nat.le_refl _) _
  have X6 := hid ((X4.out.out ho5 (by omega)).later b6)
  have Y6 := hid ((Y4.out.out ho5 (by omega)).later b6)
  have P6 := hid ((P4.out.out ho5 (by omega)).later b6)
  have b5 := B4.out.trans (ho5.below B4.out.size (fun k e => by omega))
  have B6 := hid (b5.trans (b6.mono b5.size))
  have KT2 := hid (older_take (hK5.later b6) WF2.out ST2.out e1 s1 ⟨#[98]⟩ (by decide) he1 hs1 _ OK2.out)
  have l6 := b6.size
  clear x0 x1 y0 y1
  obtain ⟨y0, y1⟩ := Y6.out.cells
  obtain ⟨q0, q1, q2, q3, q4, q5, _⟩ := P6.out.cells
  simp only at q0 q1 q2 q3 q4 q5
  have aw50 : w.heap.size < w5.heap.size := by omega
  have nw50 : ¬ w.heap.size = w5.heap.size := by omega
  have aw51 : w.heap.size + 1 < w5.heap.size := by omega
  have nw51 : ¬ w.heap.size + 1 = w5.heap.size := by omega
  have aw52 : w1.heap.size + 1 < w5.heap.size := by omega
  have nw52 : ¬ w1.heap.size + 1 = w5.heap.size := by omega
  clear KT hK5 ho5 X4 Y4 P4 B4 b5 b6
  go_wp2_with fail
  generalize (w5.alloc (.cells #[.int .u8 0, .int .u8 0, .int .u8 0, .int .u32 0, .int .u32 0, .string ⟨#[]⟩] 39)) = W6 at *
  refine KT2.out.mono ?_
  rintro _ w7 ⟨tx2, rfl, hK7, ho7⟩
  have X7 := hid (X6.out.out ho7 (by omega))
  have Y7 := hid (Y6.out.out ho7 (by omega))
  have B7 := hid (B6.out.trans (ho7.below B6.out.size (fun k e => by omega)))
  have l7 := ho7.size
  have aw7 : w.heap.size < w7.heap.size := by omega
  have bw7 : w.heap.size + 1 < w7.heap.size := by omega
  have cw7 : ¬ w.heap.size = w7.heap.size := by omega
  have dw7 : ¬ w.heap.size + 1 = w7.heap.size := by omega
  clear y0 y1 q0 q1 q2 q3 q4 q5 hK7 ho7 KT2
  obtain ⟨x0, x1⟩ := X7.out.cells
  obtain ⟨y0, y1⟩ := Y7.out.cells
  go_wp2_with fail
  have b8 : Below w7.heap.size w7 (w7.alloc (.cells #[.int .u8 0, .int .u8 0, .int .u8 0, .int .u32 0, .int .u32 0, .string ⟨#[]⟩] 39)) := (Below.refl _ _).alloc (Nat.le_refl _) _
  have X8 := hid (X7.out.later b8)
  have Y8 := hid (Y7.out.later b8)
  have B8 := hid (B7.out.trans (b8.mono B7.out.size))
  clear b8
  generalize (w7.alloc (.cells #[.int .u8 0, .int .u8 0, .int .u8 0, .int .u32 0, .int .u32 0, .string ⟨#[]⟩] 39)) = W8 at *
  refine (rlive_c _).mono ?_
  rintro _ w9 ⟨rfl, hb9⟩
  obtain ⟨y0, y1⟩ := (Y8.out.later hb9).cells
  go_wp2
  go_ret
  exact ⟨rfl, B8.out.trans (hb9.mono B8.out.size)⟩
set_option maxHeartbeats 4000000 in
theorem older_zzb (e0 e1 s0 s1 : Int) (w : World) (he0 : 0 ≤ e0 ∧ e0 < 4294967296) (he1 : 0 ≤ e1 ∧ e1 < 4294967296) (hs0 : 0 ≤ s0 ∧ s0 < 4294967296) (hs1 : 0 ≤ s1 ∧ s1 < 4294967296) (h0 : (s0 != 0) = false) (h1 : (s1 != 0) = false) (hc : ¬ e0 < e1) (hd : (e1 == e0) = true) (hx : s0 < s1) :
    Calls Try.prog 6 #[.agg #[.int .u32 e0, .int .u32 e1], .agg #[.int .u32 s0, .int .u32 s1]] w fun x w' => x = .returned (.bool true) ∧ Below w.heap.size w w' := by
  have bz : (s0 == 0) = true := by rw [beq_iff_eq]; simpa using h0
  have hcd : decide (e0 < e1) = false := decide_eq_false hc
  have OK2 : Hid ((s1 != 0 && newerB ((if false then updK K00 1 ⟨1, e0, s0, ⟨#[]⟩⟩ else K00) 1) ⟨1, 1, 0, e1, s1, ⟨#[98]⟩⟩) = false) := by show _ = _; rw [h1]; rfl
  have OK1 : Hid ((s0 != 0 && newerB (K00 1) ⟨1, 1, 0, e0, s0, ⟨#[97]⟩⟩) = false) := by show _ = _; rw [h0]; rfl
  have WF2 : Hid (∀ i, ((if false then updK K00 1 ⟨1, e0, s0, ⟨#[]⟩⟩ else K00) i).Wf) := fun i => by
    exact wft0 i
  have ST2 : Hid (((if false then updK K00 1 ⟨1, e0, s0, ⟨#[]⟩⟩ else K00) 1).st ≠ 2) := by show _ ≠ _; show (0 : Int) ≠ 2; decide
  have b1 : Below w.heap.size w (w.alloc (.cells #[.int .u32 e0, .int .u32 e1] 51)) := (Below.refl _ _).alloc (Nat.le_refl _) _
  have t1 : TwoAt (w.alloc (.cells #[.int .u32 e0, .int .u32 e1] 51)) w.heap.size e0 e1 := heap_alloc_new w _
  have b2 : Below (w.alloc (.cells #[.int .u32 e0, .int .u32 e1] 51)).heap.size (w.alloc (.cells #[.int .u32 e0, .int .u32 e1] 51)) ((w.alloc (.cells #[.int .u32 e0, .int .u32 e1] 51)).alloc (.cells #[.int .u32 s0, .int .u32 s1] 51)) := (Below.refl _ _).alloc (Nat.le_refl _) _
  have t2 : TwoAt ((w.alloc (.cells #[.int .u32 e0, .int .u32 e1] 51)).alloc (.cells #[.int .u32 s0, .int .u32 s1] 51)) (w.heap.size + 1) s0 s1 := by
    have e0' : (w.alloc (.cells #[.int .u32 e0, .int .u32 e1] 51)).heap.size = w.heap.size + 1 := by simp
    rw [← e0']
    exact heap_alloc_new _ _
  have X0 := hid (t1.later b2)
  have Y0 := hid t2
  have B0 : Hid (Below w.heap.size w ((w.alloc (.cells #[.int .u32 e0, .int .u32 e1] 51)).alloc (.cells #[.int .u32 s0, .int .u32 s1] 51))) := hid (b1.trans (b2.mono b1.size))
  clear b1 b2 t1 t2
  go_enter Try.func6, Try.ntmps6
  go_wp2_with fail
  generalize ((w.alloc (.cells #[.int .u32 e0, .int .u32 e1] 51)).alloc (.cells #[.int .u32 s0, .int .u32 s1] 51)) = W0 at *
  refine (newCallee_c W0).mono ?_
  rintro _ w1 ⟨rfl, hK1, hb1⟩
  have l0 : w.heap.size + 1 < W0.heap.size := Y0.out.lt
  have l1 : W0.heap.size < w1.heap.size := hK1.lt
  have X1 := hid (X0.out.later hb1)
  have Y1 := hid (Y0.out.later hb1)
  obtain ⟨x0, x1⟩ := X1.out.cells
  obtain ⟨y0, y1⟩ := Y1.out.cells
  have B1 := hid (B0.out.trans (hb1.mono B0.out.size))
  have b3 : Below w1.heap.size w1 (w1.alloc (.cells #[.int .u8 1, .int .u8 1, .int .u8 0, .int .u32 e0, .int .u32 s0, .string ⟨#[97]⟩] 39)) := (Below.refl _ _).alloc (Nat.le_refl _) _
  have b4 : Below w1.heap.size w1 ((w1.alloc (.cells #[.int .u8 1, .int .u8 1, .int .u8 0, .int .u32 e0, .int .u32 s0, .string ⟨#[97]⟩] 39)).alloc (.cells #[.int .u8 1, .int .u8 1, .int .u8 0, .int .u32 e1, .int .u32 s1, .string ⟨#[98]⟩] 39)) := b3.alloc (by simp) _
  have P4 : Hid (PkAt ((w1.alloc (.cells #[.int .u8 1, .int .u8 1, .int .u8 0, .int .u32 e0, .int .u32 s0, .string ⟨#[97]⟩] 39)).alloc (.cells #[.int .u8 1, .int .u8 1, .int .u8 0, .int .u32 e1, .int .u32 s1, .string ⟨#[98]⟩] 39)) (w1.heap.size + 1) ⟨1, 1, 0, e1, s1, ⟨#[98]⟩⟩) := by
    show PkAt _ _ _
    have e0' : (w1.alloc (.cells #[.int .u8 1, .int .u8 1, .int .u8 0, .int .u32 e0, .int .u32 s0, .string ⟨#[97]⟩] 39)).heap.size = w1.heap.size + 1 := by simp
    rw [← e0']
    exact PkAt.new _ ⟨1, 1, 0, e1, s1, ⟨#[98]⟩⟩
  have KT := hid (older_take (hK1.later b4) wft0 (by decide) e0 s0 ⟨#[97]⟩ (by decide) he0 hs0 _ OK1.out)
  have X4 := hid (X1.out.later b4)
  have Y4 := hid (Y1.out.later b4)
  have B4 := hid (B1.out.trans (b4.mono B1.out.size))
  have l4 : w1.heap.size + 2 ≤ ((w1.alloc (.cells #[.int .u8 1, .int .u8 1, .int .u8 0, .int .u32 e0, .int .u32 s0, .string ⟨#[97]⟩] 39)).alloc (.cells #[.int .u8 1, .int .u8 1, .int .u8 0, .int .u32 e1, .int .u32 s1, .string ⟨#[98]⟩] 39)).heap.size := by simp
  have aw10 : w.heap.size < w1.heap.size := by omega
  have nw10 : ¬ w.heap.size = w1.heap.size := by omega
  have aw11 : w.heap.size + 1 < w1.heap.size := by omega
  have nw11 : ¬ w.heap.size + 1 = w1.heap.size := by omega
  clear hK1 hb1 X0 Y0 B0 b3 b4 B1
  go_wp2_with fail
  generalize ((w1.alloc (.cells #[.int .u8 1, .int .u8 1, .int .u8 0, .int .u32 e0, .int .u32 s0, .string ⟨#[97]⟩] 39)).alloc (.cells #[.int .u8 1, .int .u8 1, .int .u8 0, .int .u32 e1, .int .u32 s1, .string ⟨#[98]⟩] 39)) = W4 at *
  refine KT.out.mono ?_
  rintro _ w5 ⟨tx1, rfl, hK5, ho5⟩
  have l5 := ho5.size
  have b6 : Below w5.heap.size w5 (w5.alloc (.cells #[.int .u8 0, .int .u8 0, .int .u8 0, .int .u32 0, .int .u32 0, .string ⟨#[]⟩] 39)) := (Below.refl _ _).alloc (Nat.le_refl _) _
  have X6 := hid ((X4.out.out ho5 (by omega)).later b6)
  have Y6 := hid ((Y4.out.out ho5 (by omega)).later b6)
  have P6 := hid ((P4.out.out ho5 (by omega)).later b6)
  have b5 := B4.out.trans (ho5.below B4.out.size (fun k e => by omega))
  have B6 := hid (b5.trans (b6.mono b5.size))
  have KT2 := hid (older_take (hK5.later b6) WF2.out ST2.out e1 s1 ⟨#[98]⟩ (by decide) he1 hs1 _ OK2.out)
  have l6 := b6.size
  clear x0 x1 y0 y1
  obtain ⟨y0, y1⟩ := Y6.out.cells
  obtain ⟨q0, q1, q2, q3, q4, q5, _⟩ := P6.out.cells
  simp only at q0 q1 q2 q3 q4 q5
  have aw50 : w.heap.size < w5.heap.size := by omega
  have nw50 : ¬ w.heap.size = w5.heap.size := by omega
  have aw51 : w.heap.size + 1 < w5.heap.size := by omega
  have nw51 : ¬ w.heap.size + 1 = w5.heap.size := by omega
  have aw52 : w1.heap.size + 1 < w5.heap.size := by omega
  have nw52 : ¬ w1.heap.size + 1 = w5.heap.size := by omega
  clear KT hK5 ho5 X4 Y4 P4 B4 b5 b6
  go_wp2_with fail
  generalize (w5.alloc (.cells #[.int .u8 0, .int .u8 0, .int .u8 0, .int .u32 0, .int .u32 0, .string ⟨#[]⟩] 39)) = W6 at *
  refine KT2.out.mono ?_
  rintro _ w7 ⟨tx2, rfl, hK7, ho7⟩
  have X7 := hid (X6.out.out ho7 (by omega))
  have Y7 := hid (Y6.out.out ho7 (by omega))
  have B7 := hid (B6.out.trans (ho7.below B6.out.size (fun k e => by omega)))
  have l7 := ho7.size
  have aw7 : w.heap.size < w7.heap.size := by omega
  have bw7 : w.heap.size + 1 < w7.heap.size := by omega
  have cw7 : ¬ w.heap.size = w7.heap.size := by omega
  have dw7 : ¬ w.heap.size + 1 = w7.heap.size := by omega
  clear y0 y1 q0 q1 q2 q3 q4 q5 hK7 ho7 KT2
  obtain ⟨x0, x1⟩ := X7.out.cells
  obtain ⟨y0, y1⟩ := Y7.out.cells
  go_wp2_with fail
  have b8 : Below w7.heap.size w7 (w7.alloc (.cells #[.int .u8 0, .int .u8 0, .int .u8 0, .int .u32 0, .int .u32 0, .string ⟨#[]⟩] 39)) := (Below.refl _ _).alloc (Nat.le_refl _) _
  have X8 := hid (X7.out.later b8)
  have Y8 := hid (Y7.out.later b8)
  have B8 := hid (B7.out.trans (b8.mono B7.out.size))
  clear b8
  generalize (w7.alloc (.cells #[.int .u8 0, .int .u8 0, .int .u8 0, .int .u32 0, .int .u32 0, .string ⟨#[]⟩] 39)) = W8 at *
  refine (rlive_c _).mono ?_
  rintro _ w9 ⟨rfl, hb9⟩
  obtain ⟨y0, y1⟩ := (Y8.out.later hb9).cells
  go_wp2
  go_ret
  exact ⟨rfl, B8.out.trans (hb9.mono B8.out.size)⟩
set_option maxHeartbeats 4000000 in
theorem older_zzc (e0 e1 s0 s1 : Int) (w : World) (he0 : 0 ≤ e0 ∧ e0 < 4294967296) (he1 : 0 ≤ e1 ∧ e1 < 4294967296) (hs0 : 0 ≤ s0 ∧ s0 < 4294967296) (hs1 : 0 ≤ s1 ∧ s1 < 4294967296) (h0 : (s0 != 0) = false) (h1 : (s1 != 0) = false) (hc : ¬ e0 < e1) (hd : (e1 == e0) = true) (hx : ¬ s0 < s1) :
    Calls Try.prog 6 #[.agg #[.int .u32 e0, .int .u32 e1], .agg #[.int .u32 s0, .int .u32 s1]] w fun x w' => x = .returned (.bool true) ∧ Below w.heap.size w w' := by
  have bz : (s0 == 0) = true := by rw [beq_iff_eq]; simpa using h0
  have hcd : decide (e0 < e1) = false := decide_eq_false hc
  have hxd : decide (s0 < s1) = false := decide_eq_false hx
  have OK2 : Hid ((s1 != 0 && newerB ((if false then updK K00 1 ⟨1, e0, s0, ⟨#[]⟩⟩ else K00) 1) ⟨1, 1, 0, e1, s1, ⟨#[98]⟩⟩) = false) := by show _ = _; rw [h1]; rfl
  have OK1 : Hid ((s0 != 0 && newerB (K00 1) ⟨1, 1, 0, e0, s0, ⟨#[97]⟩⟩) = false) := by show _ = _; rw [h0]; rfl
  have WF2 : Hid (∀ i, ((if false then updK K00 1 ⟨1, e0, s0, ⟨#[]⟩⟩ else K00) i).Wf) := fun i => by
    exact wft0 i
  have ST2 : Hid (((if false then updK K00 1 ⟨1, e0, s0, ⟨#[]⟩⟩ else K00) 1).st ≠ 2) := by show _ ≠ _; show (0 : Int) ≠ 2; decide
  have b1 : Below w.heap.size w (w.alloc (.cells #[.int .u32 e0, .int .u32 e1] 51)) := (Below.refl _ _).alloc (Nat.le_refl _) _
  have t1 : TwoAt (w.alloc (.cells #[.int .u32 e0, .int .u32 e1] 51)) w.heap.size e0 e1 := heap_alloc_new w _
  have b2 : Below (w.alloc (.cells #[.int .u32 e0, .int .u32 e1] 51)).heap.size (w.alloc (.cells #[.int .u32 e0, .int .u32 e1] 51)) ((w.alloc (.cells #[.int .u32 e0, .int .u32 e1] 51)).alloc (.cells #[.int .u32 s0, .int .u32 s1] 51)) := (Below.refl _ _).alloc (Nat.le_refl _) _
  have t2 : TwoAt ((w.alloc (.cells #[.int .u32 e0, .int .u32 e1] 51)).alloc (.cells #[.int .u32 s0, .int .u32 s1] 51)) (w.heap.size + 1) s0 s1 := by
    have e0' : (w.alloc (.cells #[.int .u32 e0, .int .u32 e1] 51)).heap.size = w.heap.size + 1 := by simp
    rw [← e0']
    exact heap_alloc_new _ _
  have X0 := hid (t1.later b2)
  have Y0 := hid t2
  have B0 : Hid (Below w.heap.size w ((w.alloc (.cells #[.int .u32 e0, .int .u32 e1] 51)).alloc (.cells #[.int .u32 s0, .int .u32 s1] 51))) := hid (b1.trans (b2.mono b1.size))
  clear b1 b2 t1 t2
  go_enter Try.func6, Try.ntmps6
  go_wp2_with fail
  generalize ((w.alloc (.cells #[.int .u32 e0, .int .u32 e1] 51)).alloc (.cells #[.int .u32 s0, .int .u32 s1] 51)) = W0 at *
  refine (newCallee_c W0).mono ?_
  rintro _ w1 ⟨rfl, hK1, hb1⟩
  have l0 : w.heap.size + 1 < W0.heap.size := Y0.out.lt
  have l1 : W0.heap.size < w1.heap.size := hK1.lt
  have X1 := hid (X0.out.later hb1)
  have Y1 := hid (Y0.out.later hb1)
  obtain ⟨x0, x1⟩ := X1.out.cells
  obtain ⟨y0, y1⟩ := Y1.out.cells
  have B1 := hid (B0.out.trans (hb1.mono B0.out.size))
  have b3 : Below w1.heap.size w1 (w1.alloc (.cells #[.int .u8 1, .int .u8 1, .int .u8 0, .int .u32 e0, .int .u32 s0, .string ⟨#[97]⟩] 39)) := (Below.refl _ _).alloc (Nat.le_refl _) _
  have b4 : Below w1.heap.size w1 ((w1.alloc (.cells #[.int .u8 1, .int .u8 1, .int .u8 0, .int .u32 e0, .int .u32 s0, .string ⟨#[97]⟩] 39)).alloc (.cells #[.int .u8 1, .int .u8 1, .int .u8 0, .int .u32 e1, .int .u32 s1, .string ⟨#[98]⟩] 39)) := b3.alloc (by simp) _
  have P4 : Hid (PkAt ((w1.alloc (.cells #[.int .u8 1, .int .u8 1, .int .u8 0, .int .u32 e0, .int .u32 s0, .string ⟨#[97]⟩] 39)).alloc (.cells #[.int .u8 1, .int .u8 1, .int .u8 0, .int .u32 e1, .int .u32 s1, .string ⟨#[98]⟩] 39)) (w1.heap.size + 1) ⟨1, 1, 0, e1, s1, ⟨#[98]⟩⟩) := by
    show PkAt _ _ _
    have e0' : (w1.alloc (.cells #[.int .u8 1, .int .u8 1, .int .u8 0, .int .u32 e0, .int .u32 s0, .string ⟨#[97]⟩] 39)).heap.size = w1.heap.size + 1 := by simp
    rw [← e0']
    exact PkAt.new _ ⟨1, 1, 0, e1, s1, ⟨#[98]⟩⟩
  have KT := hid (older_take (hK1.later b4) wft0 (by decide) e0 s0 ⟨#[97]⟩ (by decide) he0 hs0 _ OK1.out)
  have X4 := hid (X1.out.later b4)
  have Y4 := hid (Y1.out.later b4)
  have B4 := hid (B1.out.trans (b4.mono B1.out.size))
  have l4 : w1.heap.size + 2 ≤ ((w1.alloc (.cells #[.int .u8 1, .int .u8 1, .int .u8 0, .int .u32 e0, .int .u32 s0, .string ⟨#[97]⟩] 39)).alloc (.cells #[.int .u8 1, .int .u8 1, .int .u8 0, .int .u32 e1, .int .u32 s1, .string ⟨#[98]⟩] 39)).heap.size := by simp
  have aw10 : w.heap.size < w1.heap.size := by omega
  have nw10 : ¬ w.heap.size = w1.heap.size := by omega
  have aw11 : w.heap.size + 1 < w1.heap.size := by omega
  have nw11 : ¬ w.heap.size + 1 = w1.heap.size := by omega
  clear hK1 hb1 X0 Y0 B0 b3 b4 B1
  go_wp2_with fail
  generalize ((w1.alloc (.cells #[.int .u8 1, .int .u8 1, .int .u8 0, .int .u32 e0, .int .u32 s0, .string ⟨#[97]⟩] 39)).alloc (.cells #[.int .u8 1, .int .u8 1, .int .u8 0, .int .u32 e1, .int .u32 s1, .string ⟨#[98]⟩] 39)) = W4 at *
  refine KT.out.mono ?_
  rintro _ w5 ⟨tx1, rfl, hK5, ho5⟩
  have l5 := ho5.size
  have b6 : Below w5.heap.size w5 (w5.alloc (.cells #[.int .u8 0, .int .u8 0, .int .u8 0, .int .u32 0, .int .u32 0, .string ⟨#[]⟩] 39)) := (Below.refl _ _).alloc (Nat.le_refl _) _
  have X6 := hid ((X4.out.out ho5 (by omega)).later b6)
  have Y6 := hid ((Y4.out.out ho5 (by omega)).later b6)
  have P6 := hid ((P4.out.out ho5 (by omega)).later b6)
  have b5 := B4.out.trans (ho5.below B4.out.size (fun k e => by omega))
  have B6 := hid (b5.trans (b6.mono b5.size))
  have KT2 := hid (older_take (hK5.later b6) WF2.out ST2.out e1 s1 ⟨#[98]⟩ (by decide) he1 hs1 _ OK2.out)
  have l6 := b6.size
  clear x0 x1 y0 y1
  obtain ⟨y0, y1⟩ := Y6.out.cells
  obtain ⟨q0, q1, q2, q3, q4, q5, _⟩ := P6.out.cells
  simp only at q0 q1 q2 q3 q4 q5
  have aw50 : w.heap.size < w5.heap.size := by omega
  have nw50 : ¬ w.heap.size = w5.heap.size := by omega
  have aw51 : w.heap.size + 1 < w5.heap.size := by omega
  have nw51 : ¬ w.heap.size + 1 = w5.heap.size := by omega
  have aw52 : w1.heap.size + 1 < w5.heap.size := by omega
  have nw52 : ¬ w1.heap.size + 1 = w5.heap.size := by omega
  clear KT hK5 ho5 X4 Y4 P4 B4 b5 b6
  go_wp2_with fail
  generalize (w5.alloc (.cells #[.int .u8 0, .int .u8 0, .int .u8 0, .int .u32 0, .int .u32 0, .string ⟨#[]⟩] 39)) = W6 at *
  refine KT2.out.mono ?_
  rintro _ w7 ⟨tx2, rfl, hK7, ho7⟩
  have X7 := hid (X6.out.out ho7 (by omega))
  have Y7 := hid (Y6.out.out ho7 (by omega))
  have B7 := hid (B6.out.trans (ho7.below B6.out.size (fun k e => by omega)))
  have l7 := ho7.size
  have aw7 : w.heap.size < w7.heap.size := by omega
  have bw7 : w.heap.size + 1 < w7.heap.size := by omega
  have cw7 : ¬ w.heap.size = w7.heap.size := by omega
  have dw7 : ¬ w.heap.size + 1 = w7.heap.size := by omega
  clear y0 y1 q0 q1 q2 q3 q4 q5 hK7 ho7 KT2
  obtain ⟨x0, x1⟩ := X7.out.cells
  obtain ⟨y0, y1⟩ := Y7.out.cells
  go_wp2_with fail
  have b8 : Below w7.heap.size w7 (w7.alloc (.cells #[.int .u8 0, .int .u8 0, .int .u8 0, .int .u32 0, .int .u32 0, .string ⟨#[]⟩] 39)) := (Below.refl _ _).alloc (Nat.le_refl _) _
  have X8 := hid (X7.out.later b8)
  have Y8 := hid (Y7.out.later b8)
  have B8 := hid (B7.out.trans (b8.mono B7.out.size))
  clear b8
  generalize (w7.alloc (.cells #[.int .u8 0, .int .u8 0, .int .u8 0, .int .u32 0, .int .u32 0, .string ⟨#[]⟩] 39)) = W8 at *
  refine (rlive_c _).mono ?_
  rintro _ w9 ⟨rfl, hb9⟩
  obtain ⟨y0, y1⟩ := (Y8.out.later hb9).cells
  go_wp2
  go_ret
  exact ⟨rfl, B8.out.trans (hb9.mono B8.out.size)⟩
set_option maxHeartbeats 4000000 in
theorem older_zzd (e0 e1 s0 s1 : Int) (w : World) (he0 : 0 ≤ e0 ∧ e0 < 4294967296) (he1 : 0 ≤ e1 ∧ e1 < 4294967296) (hs0 : 0 ≤ s0 ∧ s0 < 4294967296) (hs1 : 0 ≤ s1 ∧ s1 < 4294967296) (h0 : (s0 != 0) = false) (h1 : (s1 != 0) = false) (hc : ¬ e0 < e1) (hd : (e1 == e0) = false) :
    Calls Try.prog 6 #[.agg #[.int .u32 e0, .int .u32 e1], .agg #[.int .u32 s0, .int .u32 s1]] w fun x w' => x = .returned (.bool true) ∧ Below w.heap.size w w' := by
  have bz : (s0 == 0) = true := by rw [beq_iff_eq]; simpa using h0
  have hcd : decide (e0 < e1) = false := decide_eq_false hc
  have OK2 : Hid ((s1 != 0 && newerB ((if false then updK K00 1 ⟨1, e0, s0, ⟨#[]⟩⟩ else K00) 1) ⟨1, 1, 0, e1, s1, ⟨#[98]⟩⟩) = false) := by show _ = _; rw [h1]; rfl
  have OK1 : Hid ((s0 != 0 && newerB (K00 1) ⟨1, 1, 0, e0, s0, ⟨#[97]⟩⟩) = false) := by show _ = _; rw [h0]; rfl
  have WF2 : Hid (∀ i, ((if false then updK K00 1 ⟨1, e0, s0, ⟨#[]⟩⟩ else K00) i).Wf) := fun i => by
    exact wft0 i
  have ST2 : Hid (((if false then updK K00 1 ⟨1, e0, s0, ⟨#[]⟩⟩ else K00) 1).st ≠ 2) := by show _ ≠ _; show (0 : Int) ≠ 2; decide
  have b1 : Below w.heap.size w (w.alloc (.cells #[.int .u32 e0, .int .u32 e1] 51)) := (Below.refl _ _).alloc (Nat.le_refl _) _
  have t1 : TwoAt (w.alloc (.cells #[.int .u32 e0, .int .u32 e1] 51)) w.heap.size e0 e1 := heap_alloc_new w _
  have b2 : Below (w.alloc (.cells #[.int .u32 e0, .int .u32 e1] 51)).heap.size (w.alloc (.cells #[.int .u32 e0, .int .u32 e1] 51)) ((w.alloc (.cells #[.int .u32 e0, .int .u32 e1] 51)).alloc (.cells #[.int .u32 s0, .int .u32 s1] 51)) := (Below.refl _ _).alloc (Nat.le_refl _) _
  have t2 : TwoAt ((w.alloc (.cells #[.int .u32 e0, .int .u32 e1] 51)).alloc (.cells #[.int .u32 s0, .int .u32 s1] 51)) (w.heap.size + 1) s0 s1 := by
    have e0' : (w.alloc (.cells #[.int .u32 e0, .int .u32 e1] 51)).heap.size = w.heap.size + 1 := by simp
    rw [← e0']
    exact heap_alloc_new _ _
  have X0 := hid (t1.later b2)
  have Y0 := hid t2
  have B0 : Hid (Below w.heap.size w ((w.alloc (.cells #[.int .u32 e0, .int .u32 e1] 51)).alloc (.cells #[.int .u32 s0, .int .u32 s1] 51))) := hid (b1.trans (b2.mono b1.size))
  clear b1 b2 t1 t2
  go_enter Try.func6, Try.ntmps6
  go_wp2_with fail
  generalize ((w.alloc (.cells #[.int .u32 e0, .int .u32 e1] 51)).alloc (.cells #[.int .u32 s0, .int .u32 s1] 51)) = W0 at *
  refine (newCallee_c W0).mono ?_
  rintro _ w1 ⟨rfl, hK1, hb1⟩
  have l0 : w.heap.size + 1 < W0.heap.size := Y0.out.lt
  have l1 : W0.heap.size < w1.heap.size := hK1.lt
  have X1 := hid (X0.out.later hb1)
  have Y1 := hid (Y0.out.later hb1)
  obtain ⟨x0, x1⟩ := X1.out.cells
  obtain ⟨y0, y1⟩ := Y1.out.cells
  have B1 := hid (B0.out.trans (hb1.mono B0.out.size))
  have b3 : Below w1.heap.size w1 (w1.alloc (.cells #[.int .u8 1, .int .u8 1, .int .u8 0, .int .u32 e0, .int .u32 s0, .string ⟨#[97]⟩] 39)) := (Below.refl _ _).alloc (Nat.le_refl _) _
  have b4 : Below w1.heap.size w1 ((w1.alloc (.cells #[.int .u8 1, .int .u8 1, .int .u8 0, .int .u32 e0, .int .u32 s0, .string ⟨#[97]⟩] 39)).alloc (.cells #[.int .u8 1, .int .u8 1, .int .u8 0, .int .u32 e1, .int .u32 s1, .string ⟨#[98]⟩] 39)) := b3.alloc (by simp) _
  have P4 : Hid (PkAt ((w1.alloc (.cells #[.int .u8 1, .int .u8 1, .int .u8 0, .int .u32 e0, .int .u32 s0, .string ⟨#[97]⟩] 39)).alloc (.cells #[.int .u8 1, .int .u8 1, .int .u8 0, .int .u32 e1, .int .u32 s1, .string ⟨#[98]⟩] 39)) (w1.heap.size + 1) ⟨1, 1, 0, e1, s1, ⟨#[98]⟩⟩) := by
    show PkAt _ _ _
    have e0' : (w1.alloc (.cells #[.int .u8 1, .int .u8 1, .int .u8 0, .int .u32 e0, .int .u32 s0, .string ⟨#[97]⟩] 39)).heap.size = w1.heap.size + 1 := by simp
    rw [← e0']
    exact PkAt.new _ ⟨1, 1, 0, e1, s1, ⟨#[98]⟩⟩
  have KT := hid (older_take (hK1.later b4) wft0 (by decide) e0 s0 ⟨#[97]⟩ (by decide) he0 hs0 _ OK1.out)
  have X4 := hid (X1.out.later b4)
  have Y4 := hid (Y1.out.later b4)
  have B4 := hid (B1.out.trans (b4.mono B1.out.size))
  have l4 : w1.heap.size + 2 ≤ ((w1.alloc (.cells #[.int .u8 1, .int .u8 1, .int .u8 0, .int .u32 e0, .int .u32 s0, .string ⟨#[97]⟩] 39)).alloc (.cells #[.int .u8 1, .int .u8 1, .int .u8 0, .int .u32 e1, .int .u32 s1, .string ⟨#[98]⟩] 39)).heap.size := by simp
  have aw10 : w.heap.size < w1.heap.size := by omega
  have nw10 : ¬ w.heap.size = w1.heap.size := by omega
  have aw11 : w.heap.size + 1 < w1.heap.size := by omega
  have nw11 : ¬ w.heap.size + 1 = w1.heap.size := by omega
  clear hK1 hb1 X0 Y0 B0 b3 b4 B1
  go_wp2_with fail
  generalize ((w1.alloc (.cells #[.int .u8 1, .int .u8 1, .int .u8 0, .int .u32 e0, .int .u32 s0, .string ⟨#[97]⟩] 39)).alloc (.cells #[.int .u8 1, .int .u8 1, .int .u8 0, .int .u32 e1, .int .u32 s1, .string ⟨#[98]⟩] 39)) = W4 at *
  refine KT.out.mono ?_
  rintro _ w5 ⟨tx1, rfl, hK5, ho5⟩
  have l5 := ho5.size
  have b6 : Below w5.heap.size w5 (w5.alloc (.cells #[.int .u8 0, .int .u8 0, .int .u8 0, .int .u32 0, .int .u32 0, .string ⟨#[]⟩] 39)) := (Below.refl _ _).alloc (Nat.le_refl _) _
  have X6 := hid ((X4.out.out ho5 (by omega)).later b6)
  have Y6 := hid ((Y4.out.out ho5 (by omega)).later b6)
  have P6 := hid ((P4.out.out ho5 (by omega)).later b6)
  have b5 := B4.out.trans (ho5.below B4.out.size (fun k e => by omega))
  have B6 := hid (b5.trans (b6.mono b5.size))
  have KT2 := hid (older_take (hK5.later b6) WF2.out ST2.out e1 s1 ⟨#[98]⟩ (by decide) he1 hs1 _ OK2.out)
  have l6 := b6.size
  clear x0 x1 y0 y1
  obtain ⟨y0, y1⟩ := Y6.out.cells
  obtain ⟨q0, q1, q2, q3, q4, q5, _⟩ := P6.out.cells
  simp only at q0 q1 q2 q3 q4 q5
  have aw50 : w.heap.size < w5.heap.size := by omega
  have nw50 : ¬ w.heap.size = w5.heap.size := by omega
  have aw51 : w.heap.size + 1 < w5.heap.size := by omega
  have nw51 : ¬ w.heap.size + 1 = w5.heap.size := by omega
  have aw52 : w1.heap.size + 1 < w5.heap.size := by omega
  have nw52 : ¬ w1.heap.size + 1 = w5.heap.size := by omega
  clear KT hK5 ho5 X4 Y4 P4 B4 b5 b6
  go_wp2_with fail
  generalize (w5.alloc (.cells #[.int .u8 0, .int .u8 0, .int .u8 0, .int .u32 0, .int .u32 0, .string ⟨#[]⟩] 39)) = W6 at *
  refine KT2.out.mono ?_
  rintro _ w7 ⟨tx2, rfl, hK7, ho7⟩
  have X7 := hid (X6.out.out ho7 (by omega))
  have Y7 := hid (Y6.out.out ho7 (by omega))
  have B7 := hid (B6.out.trans (ho7.below B6.out.size (fun k e => by omega)))
  have l7 := ho7.size
  have aw7 : w.heap.size < w7.heap.size := by omega
  have bw7 : w.heap.size + 1 < w7.heap.size := by omega
  have cw7 : ¬ w.heap.size = w7.heap.size := by omega
  have dw7 : ¬ w.heap.size + 1 = w7.heap.size := by omega
  clear y0 y1 q0 q1 q2 q3 q4 q5 hK7 ho7 KT2
  obtain ⟨x0, x1⟩ := X7.out.cells
  obtain ⟨y0, y1⟩ := Y7.out.cells
  go_wp2_with fail
  have b8 : Below w7.heap.size w7 (w7.alloc (.cells #[.int .u8 0, .int .u8 0, .int .u8 0, .int .u32 0, .int .u32 0, .string ⟨#[]⟩] 39)) := (Below.refl _ _).alloc (Nat.le_refl _) _
  have X8 := hid (X7.out.later b8)
  have Y8 := hid (Y7.out.later b8)
  have B8 := hid (B7.out.trans (b8.mono B7.out.size))
  clear b8
  generalize (w7.alloc (.cells #[.int .u8 0, .int .u8 0, .int .u8 0, .int .u32 0, .int .u32 0, .string ⟨#[]⟩] 39)) = W8 at *
  refine (rlive_c _).mono ?_
  rintro _ w9 ⟨rfl, hb9⟩
  obtain ⟨y0, y1⟩ := (Y8.out.later hb9).cells
  go_wp2
  go_ret
  exact ⟨rfl, B8.out.trans (hb9.mono B8.out.size)⟩
theorem rpcOlder_walk (e0 e1 : Int) (we0 : (Lit.int .u32 e0).wf = true) (we1 : (Lit.int .u32 e1).wf = true) (s0 s1 : Int) (ws0 : (Lit.int .u32 s0).wf = true) (ws1 : (Lit.int .u32 s1).wf = true) (w : World) :
    Calls Try.prog 6 #[.agg #[.int .u32 e0, .int .u32 e1], .agg #[.int .u32 s0, .int .u32 s1]] w fun x w' => x = .returned (.bool true) ∧ Below w.heap.size w w' := by
  have he0 := bd_u32 we0
  have he1 := bd_u32 we1
  have hs0 := bd_u32 ws0
  have hs1 := bd_u32 ws1
  cases h0 : (s0 != 0) <;> cases h1 : (s1 != 0) <;> by_cases hc : e0 < e1
  · exact older_zza e0 e1 s0 s1 w he0 he1 hs0 hs1 h0 h1 hc
  · cases hd : (e1 == e0) with
    | false => exact older_zzd e0 e1 s0 s1 w he0 he1 hs0 hs1 h0 h1 hc hd
    | true =>
      by_cases hx : s0 < s1
      · exact older_zzb e0 e1 s0 s1 w he0 he1 hs0 hs1 h0 h1 hc hd hx
      · exact older_zzc e0 e1 s0 s1 w he0 he1 hs0 hs1 h0 h1 hc hd hx
  · exact older_zna e0 e1 s0 s1 w he0 he1 hs0 hs1 h0 h1 hc
  · cases hd : (e1 == e0) with
    | false => exact older_znd e0 e1 s0 s1 w he0 he1 hs0 hs1 h0 h1 hc hd
    | true =>
      by_cases hx : s0 < s1
      · exact older_znb e0 e1 s0 s1 w he0 he1 hs0 hs1 h0 h1 hc hd hx
      · exact older_znc e0 e1 s0 s1 w he0 he1 hs0 hs1 h0 h1 hc hd hx
  · exact older_nza e0 e1 s0 s1 w he0 he1 hs0 hs1 h0 h1 hc
  · cases hd : (e1 == e0) with
    | false => exact older_nzd e0 e1 s0 s1 w he0 he1 hs0 hs1 h0 h1 hc hd
    | true =>
      by_cases hx : s0 < s1
      · exact older_nzb e0 e1 s0 s1 w he0 he1 hs0 hs1 h0 h1 hc hd hx
      · exact older_nzc e0 e1 s0 s1 w he0 he1 hs0 hs1 h0 h1 hc hd hx
  · exact older_nna e0 e1 s0 s1 w he0 he1 hs0 hs1 h0 h1 hc
  · cases hd : (e1 == e0) with
    | false => exact older_nnd e0 e1 s0 s1 w he0 he1 hs0 hs1 h0 h1 hc hd
    | true =>
      by_cases hx : s0 < s1
      · exact older_nnb e0 e1 s0 s1 w he0 he1 hs0 hs1 h0 h1 hc hd hx
      · exact older_nnc e0 e1 s0 s1 w he0 he1 hs0 hs1 h0 h1 hc hd hx
/-! ### The row of RpcOlder -/
theorem rpcOlder_own : ownKnob Try.prog.godebug = none := by kernel_rfl
theorem rpcOlder_laidOut : laidOutB Try.prog = true := by kernel_rfl
set_option maxRecDepth 100000 in
theorem rpcOlder_lifted (os : Os) (started : os.Started) (H : Type) (enc : TypeId × Value → H) :
    ReturnsInHanded {} Try.checked os 6 .any (Rows.rpcOlderSpec.pre6 enc Try.prog Try.f6 Rows.rpcOlderRow.domain false) (Rows.rpcOlderSpec.post enc Try.prog Try.f6 false true false false) := by
  refine returnsInHanded_of_change (C := Try.checked) rpcOlder_own started (by kernel_rfl) Try.func6
    (ChangeSpec.witness6 (enc := enc) (C := Try.checked) false ⟨#[], #[.agg #[.int .u32 0, .int .u32 0], .agg #[.int .u32 0, .int .u32 0]], []⟩ 8 (by kernel_rfl) (by kernel_rfl) (by kernel_rfl) (by kernel_rfl)) ?_
  intro W base args ds gs before hval0 hW hcnd _
  have hval : ∀ (j : Nat) t v, Try.f6.params[j]? = some t → args[j]? = some v → Value.okWide Try.prog W .any base t v := hval0
  have hW' := hW
  obtain ⟨p, q, hA0, hV, rfl, hfz, hnd⟩ := hW
  have hA : DataW.TrodAll enc Try.prog W 0 (fun _ => true) true Try.f6.params.toList args.toList ds p := hA0
  rw [Try.params6] at hA hval
  obtain ⟨v0, vs0, d0, ds0, p0, q0, hargs, rfl, rfl, h0, r0⟩ := trodAll_cons hA
  obtain ⟨v1, vs1, d1, ds1, p1, q1, rfl, rfl, rfl, h1, r1⟩ := trodAll_cons r0
  obtain ⟨rfl, rfl, rfl⟩ := trodAll_nil r1
  obtain rfl : args = #[v0, v1] := by cases args; simp_all
  obtain ⟨rfl, rfl⟩ := trodVars_none hV
  have k0 := h0
  have lt0 : ∀ x ∈ p0, x.block < W.heap.size := by obtain ⟨m, hm⟩ := k0; exact DataW.trod_lt m _ _ _ hm
  obtain ⟨x0, y0, rfl, wx0, wy0⟩ := open_pair (k := .u32) Try.underlying51 Try.underlying31 (by kernel_rfl) (by kernel_rfl) (hval 0 51 v0 rfl rfl) h0
  have k1 := h1
  have lt1 : ∀ x ∈ p1, x.block < W.heap.size := by obtain ⟨m, hm⟩ := k1; exact DataW.trod_lt m _ _ _ hm
  obtain ⟨x1, y1, rfl, wx1, wy1⟩ := open_pair (k := .u32) Try.underlying51 Try.underlying31 (by kernel_rfl) (by kernel_rfl) (hval 1 51 v1 rfl rfl) h1
  clear hA0 hval0
  refine (rpcOlder_walk x0 y0 wx0 wy0 x1 y1 wx1 wy1 W).mono fun e W' ⟨he, bel⟩ => ?_
  subst he
  exact ⟨_, rfl, _, _, _, [], _, [], hW', trodAll_mk1 (shut_bool Try.underlying4 _), (trodAll_cons_mk (Below.trod rpcOlder_laidOut (by kernel_rfl) (of_decide_eq_true (by kernel_rfl)) k0 bel lt0) (trodAll_cons_mk (Below.trod rpcOlder_laidOut (by kernel_rfl) (of_decide_eq_true (by kernel_rfl)) k1 bel lt1) trodAll_mk0)), rfl, bel.frame _, fun h => by cases h⟩
theorem rpcOlder_over : Rows.rpcOlderRow.holds Try.pinned (OpenSpec.ofChange Rows.rpcOlderSpec) :=
  OpenClaim.holds_of_wide 6 Try.f6 rfl rfl rfl rfl rfl rfl rfl ⟨rfl, rfl, rfl, rfl, rfl⟩ rfl rfl rfl rfl rfl (by kernel_rfl) Try.func6 (by kernel_rfl)
    (of_decide_eq_true (by kernel_rfl)) (by unfold Func.isWrapper; first | (rw [if_pos (by decide +kernel)]; kernel_rfl) | (rw [if_neg (by decide +kernel)]; exact ⟨rfl, rfl⟩))
    (fun os started H enc _ => rpcOlder_lifted os started H enc)
/-- The statement. -/
theorem rpcOlder_holds : Rows.RpcOlderSaid := rpcOlder_over
#print axioms rpcOlder_holds

end Go.Proofs.Ytjgpolaogneoaaa
