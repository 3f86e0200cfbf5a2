/-
  Append of the package journal.
-/
import Derived.Test.YtllohapbbmnipadJAppend
namespace Go.Proofs.Ytllohapbbmnipad
open Go.RowKit Go.ChangeShapes Go.WideShapes Go.ChangeAt Go.Maps
set_option linter.unusedVariables false
set_option linter.unusedSimpArgs false
theorem updO_two (f : Int → Sec) (e m : Nat) (L : List (List Int)) (hm : m ≤ L.length) : updO (updO f e (L.take m)) (e + m) (L.drop m) = updO f e L := by
  funext i
  unfold updO
  have hl1 : (L.take m).length = m := by rw [List.length_take]; omega
  have hl2 : (L.drop m).length = L.length - m := by rw [List.length_drop]
  rw [hl1, hl2]
  by_cases h : ((e + m : Nat) : Int) ≤ i ∧ i < ((e + m + (L.length - m) : Nat) : Int)
  · rw [if_pos h, if_pos (by omega), List.getD, List.getElem?_drop, List.getD]
    congr 2
    omega
  · rw [if_neg h]
    by_cases h2 : (e : Int) ≤ i ∧ i < ((e + m : Nat) : Int)
    · rw [if_pos h2, if_pos (by omega), List.getD, List.getElem?_take, if_pos (by omega), List.getD]
    · rw [if_neg h2, if_neg (by omega)]
/-- What is on a disk behind an Append that is done. -/
def added (v : Int → Sec) (N : Nat) (g : Jo.Gr) : Int → Sec := updO v (arEnd v N) (Jo.laid g (best v 2).2 ((grps v N).length + 1))
set_option maxHeartbeats 400000 in
theorem append_nil (v : Value) (hv : ∃ a n k, v = .slice a n k) (w : World) : Calls Try.prog 9 #[.pointer none, v] w fun e w' => e = .returned (.int .i64 1) ∧ w' = w := by
  obtain ⟨a, n, k, rfl⟩ := hv
  go_enter Try.func9, Try.ntmps9
  go_wp2
  go_ret
  exact ⟨rfl, rfl⟩
/-- What Append answers. -/
def AddPost (j d b1 b2 N : Nat) (on : Int → Sec) (c : Int → Option Sec) (g : Jo.Gr) (w : World) (e : Ending) (w' : World) : Prop :=
  (Jo.needF g = 0 ∧ e = .returned (.int .i64 2) ∧ Below w.heap.size w w') ∨
  (Jo.needF g ≠ 0 ∧ arSt (vw on c) N + asz N < arEnd (vw on c) N + Jo.needF g ∧ e = .returned (.int .i64 4) ∧ Below w.heap.size w w') ∨
  (Jo.needF g ≠ 0 ∧ arEnd (vw on c) N + Jo.needF g ≤ arSt (vw on c) N + asz N ∧ e = .returned (.int .i64 0) ∧ IsJ w' j d b1 b2 N (added (vw on c) N g) (fun _ => none) ∧ Out (fun k => k = b1 ∨ k = b2) w w')
set_option maxRecDepth 20000 in
set_option maxHeartbeats 2000000 in
theorem append_c {w : World} {j d b1 b2 N : Nat} {on : Int → Sec} {c : Int → Option Sec} (h : IsJ w j d b1 b2 N on c) (a : Option Addr) (len cap : Nat) (g : Jo.Gr) (hG : IsG0 w a len g) :
    Calls Try.prog 9 #[pB j, .slice a len cap] w (AddPost j d b1 b2 N on c g w) := by
  have AC := hid (appending_c h a len cap g hG)
  have hbb := best_bd (fun i => h.2.1.sec i) 2 (Nat.le_refl _)
  have haz : 2 * asz N + 2 ≤ N := by have := h.2.2; unfold asz; omega
  have hst : arSt (vw on c) N + asz N ≤ N := by
    have : (best (vw on c) 2).1 * asz N ≤ 1 * asz N := Nat.mul_le_mul_right _ hbb.1
    unfold arSt; omega
  have H := hid h
  clear h hG
  go_enter Try.func9, Try.ntmps9
  go_wp2_with fail
  refine AC.out.mono ?_
  rintro e w1 ⟨hb1, ⟨hz, rfl⟩ | ⟨hz, hf, rfl⟩ | ⟨hz, hf, p, o, k, rfl, hS⟩⟩
  · unfold noB
    have CE := hid (carry_err j (.int .i64 0) (.slice none 0 0) (.int .i64 0) (.slice none 0 0) 2 (by decide) w1)
    have HZ := hid hz
    clear hz
    go_wp2_with (go_at_call 23; refine CE.out.mono ?_; rintro e w2 ⟨rfl, hb2⟩)
    go_ret
    exact .inl ⟨HZ.out, rfl, hb1.trans (hb2.mono hb1.size)⟩
  · unfold noB
    have CE := hid (carry_err j (.int .i64 0) (.slice none 0 0) (.int .i64 0) (.slice none 0 0) 4 (by decide) w1)
    have HZ := hid hz
    have HF := hid hf
    clear hz hf
    go_wp2_with (go_at_call 23; refine CE.out.mono ?_; rintro e w2 ⟨rfl, hb2⟩)
    go_ret
    exact .inr (.inl ⟨HZ.out, HF.out, rfl, hb1.trans (hb2.mono hb1.size)⟩)
  · have hl := hS.1
    have h2 : 2 ≤ Jo.needF g := by have := (Jo.need_pos hz).2; rw [this]; unfold Jo.secsOf; omega
    have h3 : 3 ≤ Jo.needF g := by
      have hp := Jo.need_pos hz
      have hl4 := (Jo.ok_load hp.1).1
      rw [hp.2]; unfold Jo.secsOf Jo.many; omega
    have S0 := hS.sub 0 (Jo.needF g - 1) (by omega)
    rw [List.drop_zero, Nat.zero_mul, Nat.add_zero] at S0
    have S1 := hS.rest (Jo.needF g - 1) (by omega)
    rw [show Jo.needF g - (Jo.needF g - 1) = 1 by omega] at S1
    have CC := hid (carry_c (H.out.later hb1) (arEnd (vw on c) N) p o (Jo.needF g - 1) k (arEnd (vw on c) N + (Jo.needF g - 1)) p (o + (Jo.needF g - 1) * 32) 1 (k - (Jo.needF g - 1)) _ _ S0 S1 (by omega) (by omega) (by omega) (by omega))
    rw [updO_two _ _ _ _ (by omega)] at CC
    have HZ := hid hz
    have HF := hid hf
    clear hz hf S0 S1 hS hl
    go_wp2_with (go_at_call 23; refine CC.out.mono ?_; rintro e w2 ⟨rfl, hJ2, hO2⟩)
    go_ret
    exact .inr (.inr ⟨HZ.out, HF.out, rfl, hJ2, (Out.of hb1).trans hO2⟩)
end Go.Proofs.Ytllohapbbmnipad
