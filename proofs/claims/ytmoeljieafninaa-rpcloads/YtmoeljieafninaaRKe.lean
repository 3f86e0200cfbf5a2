/-
  Callees: what lies in memory of one; compare, answer, and the library's comparing.
-/
import Derived.Test.YtmoeljieafninaaRTk
import Derived.WalkMore
import Derived.ScopeJumps
namespace Go.Proofs.Ytmoeljieafninaa
open Go.RowKit Go.ChangeShapes Go.WideShapes Go.ChangeAt
set_option linter.unusedVariables false
set_option linter.unusedSimpArgs false
set_option maxRecDepth 100000
/-- What was taken last from a client: 0 nothing, 1 not answered, 2 answered. -/
structure Tk where
  st : Int
  ep : Int
  num : Int
  body : ByteArray
def Tk.Wf (t : Tk) : Prop := (0 ≤ t.st ∧ t.st ≤ 2) ∧ (0 ≤ t.ep ∧ t.ep < 4294967296) ∧ (0 ≤ t.num ∧ t.num < 4294967296) ∧ t.body.size ≤ 16384
theorem bel_drew {B : Nat} {w w' : World} (h : Below B w w') : Below B w w'.drew := ⟨h.os, h.tape, h.output, h.size, h.block⟩
def cmpF (a b : Int) : Int := if a < b then -1 else if b < a then 1 else 0
def orF (x y : Int) : Int := if x = 0 then y else x
def ageF (t : Tk) (p : Fr.Pk) : Int := orF (cmpF t.ep p.e) (cmpF t.num p.s)
set_option maxHeartbeats 400000 in
theorem nan_c (a : Int) (w : World) : Calls Try.prog 37 #[.int .u32 a] w fun e w' => e = .returned (.bool false) ∧ w' = w := by
  have hb : (a != a) = false := by simp
  go_enter Try.func37, Try.ntmps37
  go_wp2
  go_ret
  exact ⟨ret_bool (by simp), rfl⟩
set_option maxHeartbeats 400000 in
theorem compare_u32 (a b : Int) (w : World) : Calls Try.prog 35 #[.int .u32 a, .int .u32 b] w fun e w' => e = .returned (.int .i64 (cmpF a b)) ∧ w' = w := by
  by_cases h : a < b
  · have E : Hid (cmpF a b = -1) := by show _ = _; unfold cmpF; rw [if_pos h]
    go_enter Try.func35, Try.ntmps35
    go_wp2_with (go_at_call 37; refine (nan_c _ _).mono ?_; rintro _ w1 ⟨rfl, h1⟩; rw [h1])
    go_ret
    exact ⟨ret_int E.out.symm, rfl⟩
  · by_cases h2 : b < a
    · have E : Hid (cmpF a b = 1) := by show _ = _; unfold cmpF; rw [if_neg h, if_pos h2]
      go_enter Try.func35, Try.ntmps35
      go_wp2_with (go_at_call 37; refine (nan_c _ _).mono ?_; rintro _ w1 ⟨rfl, h1⟩; rw [h1])
      go_ret
      exact ⟨ret_int E.out.symm, rfl⟩
    · have E : Hid (cmpF a b = 0) := by show _ = _; unfold cmpF; rw [if_neg h, if_neg h2]
      go_enter Try.func35, Try.ntmps35
      go_wp2_with (go_at_call 37; refine (nan_c _ _).mono ?_; rintro _ w1 ⟨rfl, h1⟩; rw [h1])
      go_ret
      exact ⟨ret_int E.out.symm, rfl⟩
set_option maxHeartbeats 1000000 in
theorem or_c (B : Nat) (x y : Int) (w : World) (h0 : w.cell? ⟨B, 0, none⟩ = some (.int .i64 x)) (h1 : w.cell? ⟨B, 1, none⟩ = some (.int .i64 y)) :
    Calls Try.prog 34 #[.slice (some ⟨B, 0, none⟩) 2 2] w fun e w' => e = .returned (.int .i64 (orF x y)) ∧ w' = w := by
  by_cases hx : x = 0
  · have E : Hid (orF x y = y) := by show _ = _; unfold orF; rw [if_pos hx]
    have bx : (x != 0) = false := by rw [hx]; rfl
    clear hx
    by_cases hy : y = 0
    · have Y := hid hy
      have byy : (y != 0) = false := by rw [hy]; rfl
      clear hy
      go_enter Try.func34, Try.ntmps34
      go_wp2
      refine wp_loop_rounds 3 ?_
      rw [rounds_succ]
      go_wp2
      rw [rounds_succ]
      go_wp2
      rw [rounds_succ]
      go_wp2
      go_ret
      exact ⟨ret_int (by rw [E.out, Y.out]), rfl⟩
    · have byy : (y != 0) = true := by rw [bne_iff_ne]; exact hy
      clear hy
      go_enter Try.func34, Try.ntmps34
      go_wp2
      refine wp_loop_rounds 3 ?_
      rw [rounds_succ]
      go_wp2
      rw [rounds_succ]
      go_wp2
      go_ret
      exact ⟨ret_int E.out.symm, rfl⟩
  · have E : Hid (orF x y = x) := by show _ = _; unfold orF; rw [if_neg hx]
    have bx : (x != 0) = true := by rw [bne_iff_ne]; exact hx
    clear hx
    go_enter Try.func34, Try.ntmps34
    go_wp2
    refine wp_loop_rounds 3 ?_
    rw [rounds_succ]
    go_wp2
    go_ret
    exact ⟨ret_int E.out.symm, rfl⟩
set_option maxHeartbeats 2000000 in
theorem compare_c {w : World} {g o : Nat} (te tn : Int) (h1 : w.cell? ⟨g, o + 1, none⟩ = some (.int .u32 te)) (h2 : w.cell? ⟨g, o + 2, none⟩ = some (.int .u32 tn)) (k f t e s : Int) (b : ByteArray) :
    Calls Try.prog 24 #[.pointer (some ⟨g, o, none⟩), .agg #[.int .u8 k, .int .u8 f, .int .u8 t, .int .u32 e, .int .u32 s, .string b]] w fun x w' => x = .returned (.int .i64 (orF (cmpF te e) (cmpF tn s))) ∧ Below w.heap.size w w' := by
  have hP := PkAt.new w ⟨k, f, t, e, s, b⟩
  have b0 : Below w.heap.size w (w.alloc (.cells #[.int .u8 k, .int .u8 f, .int .u8 t, .int .u32 e, .int .u32 s, .string b] 26)) := (Below.refl _ _).alloc (Nat.le_refl _) _
  have d1 := cell_later b0 h1
  have d2 := cell_later b0 h2
  obtain ⟨p0, p1, p2, p3, p4, p5, _⟩ := hP.cells
  simp only at p3 p4
  have B0 := hid b0
  clear h1 h2 b0 hP p0 p1 p2 p5
  go_enter Try.func24, Try.ntmps24
  go_wp2_with fail
  generalize (w.alloc (.cells #[.int .u8 k, .int .u8 f, .int .u8 t, .int .u32 e, .int .u32 s, .string b] 26)) = W at *
  go_region_held3 (fun w' => w'.cell? ⟨g, o + 1, none⟩ = some (.int .u32 te) ∧ w'.cell? ⟨g, o + 2, none⟩ = some (.int .u32 tn) ∧ w'.cell? ⟨w.heap.size, 3, none⟩ = some (.int .u32 e) ∧ w'.cell? ⟨w.heap.size, 4, none⟩ = some (.int .u32 s)) (go_keep)
    (first
      | (go_at_call 35; refine (compare_u32 _ _ _).mono ?_; rintro _ w1 ⟨rfl, h1⟩; rw [h1])
      | (go_at_call 34; refine (or_c _ (cmpF te e) (cmpF tn s) _ (by simp) (by simp)).mono ?_; rintro _ w3 ⟨rfl, h3⟩; rw [h3]))
  go_wp2
  go_ret
  exact ⟨rfl, bel_drew (B0.out.alloc B0.out.size _)⟩
set_option maxHeartbeats 2000000 in
theorem answer_c {w : World} {g o : Nat} (te tn : Int) (tb : ByteArray) (hg : g < w.heap.size) (h1 : w.cell? ⟨g, o + 1, none⟩ = some (.int .u32 te)) (h2 : w.cell? ⟨g, o + 2, none⟩ = some (.int .u32 tn)) (h3 : w.cell? ⟨g, o + 3, none⟩ = some (.string tb)) (n : Int) :
    Calls Try.prog 25 #[.pointer (some ⟨g, o, none⟩), .int .u8 n] w fun x w' => x = .returned (Fr.val ⟨2, 0, n, te, tn, tb⟩) ∧ Below w.heap.size w w' := by
  have hP : PkAt (w.alloc (.cells #[.int .u8 0, .int .u8 0, .int .u8 0, .int .u32 0, .int .u32 0, .string ⟨#[]⟩] 26)) w.heap.size zpk := PkAt.new w zpk
  have b0 : Below w.heap.size w (w.alloc (.cells #[.int .u8 0, .int .u8 0, .int .u8 0, .int .u32 0, .int .u32 0, .string ⟨#[]⟩] 26)) := (Below.refl _ _).alloc (Nat.le_refl _) _
  have d1 := cell_later b0 h1
  have d2 := cell_later b0 h2
  have d3 := cell_later b0 h3
  obtain ⟨p0, p1, p2, p3, p4, p5, pf⟩ := hP.cells
  have q0 := pf 0
  have q1 := pf 1
  have q2 := pf 2
  have q3 := pf 3
  have q4 := pf 4
  have q5 := pf 5
  have hne : ¬ w.heap.size = g := by omega
  have hne' : ¬ g = w.heap.size := by omega
  have B0 := hid b0
  clear h1 h2 h3 b0 hP pf hg
  go_enter Try.func25, Try.ntmps25
  go_wp2_with fail
  generalize (w.alloc (.cells #[.int .u8 0, .int .u8 0, .int .u8 0, .int .u32 0, .int .u32 0, .string ⟨#[]⟩] 26)) = W at *
  go_region
  go_wp2
  refine bodyPost_ret (v := Fr.val ⟨2, 0, n, te, tn, tb⟩) (by simp [results, Try.results25, go_sem, Fr.val, p0, p1, p2, p3, p4, p5, hne]) rfl ⟨rfl, ?_⟩
  have o1 := (((((((Ou.refl (fun k => False ∨ k = w.heap.size) W).set (o := 0) (v := .int .u8 2) (.inr rfl)).set (o := 1) (v := .int .u8 0) (.inr rfl)).set (o := 2) (v := .int .u8 n) (.inr rfl)).set (o := 3) (v := .int .u32 te) (.inr rfl)).set (o := 4) (v := .int .u32 tn) (.inr rfl)).set (o := 5) (v := .string tb) (.inr rfl)).drew
  exact (ou_new (S := fun _ => False) B0.out o1).below (Nat.le_refl _) (fun k e => e.elim)
/-- The callee's block. -/
def Tk.vals (t : Tk) : List Value := [.int .u8 t.st, .int .u32 t.ep, .int .u32 t.num, .string t.body]
def IsK (w : World) (g : Nat) (f : Nat → Tk) : Prop := w.heap[g]? = some (.cells #[.int .u8 (f 1).st, .int .u32 (f 1).ep, .int .u32 (f 1).num, .string (f 1).body, .int .u8 (f 2).st, .int .u32 (f 2).ep, .int .u32 (f 2).num, .string (f 2).body, .int .u8 (f 3).st, .int .u32 (f 3).ep, .int .u32 (f 3).num, .string (f 3).body] 59 (0, 0))
theorem IsK.at1 {w : World} {g : Nat} {f : Nat → Tk} (h : IsK w g f) : w.cell? ⟨g, 0, none⟩ = some (.int .u8 (f 1).st) ∧ w.cell? ⟨g, 1, none⟩ = some (.int .u32 (f 1).ep) ∧ w.cell? ⟨g, 2, none⟩ = some (.int .u32 (f 1).num) ∧ w.cell? ⟨g, 3, none⟩ = some (.string (f 1).body) := by
  unfold IsK at h
  refine ⟨?_, ?_, ?_, ?_⟩
  all_goals simp [World.cell?, h]
theorem IsK.at2 {w : World} {g : Nat} {f : Nat → Tk} (h : IsK w g f) : w.cell? ⟨g, 4, none⟩ = some (.int .u8 (f 2).st) ∧ w.cell? ⟨g, 5, none⟩ = some (.int .u32 (f 2).ep) ∧ w.cell? ⟨g, 6, none⟩ = some (.int .u32 (f 2).num) ∧ w.cell? ⟨g, 7, none⟩ = some (.string (f 2).body) := by
  unfold IsK at h
  refine ⟨?_, ?_, ?_, ?_⟩
  all_goals simp [World.cell?, h]
theorem IsK.at3 {w : World} {g : Nat} {f : Nat → Tk} (h : IsK w g f) : w.cell? ⟨g, 8, none⟩ = some (.int .u8 (f 3).st) ∧ w.cell? ⟨g, 9, none⟩ = some (.int .u32 (f 3).ep) ∧ w.cell? ⟨g, 10, none⟩ = some (.int .u32 (f 3).num) ∧ w.cell? ⟨g, 11, none⟩ = some (.string (f 3).body) := by
  unfold IsK at h
  refine ⟨?_, ?_, ?_, ?_⟩
  all_goals simp [World.cell?, h]
theorem IsK.fz {w : World} {g : Nat} {f : Nat → Tk} (h : IsK w g f) (o : Nat) : w.frozen? ⟨g, o, none⟩ = false := by
  unfold IsK at h; simp [World.frozen?, h]
theorem IsK.out {S : Nat → Prop} {w w' : World} {g : Nat} {f : Nat → Tk} (h : IsK w g f) (ho : Ou S w w') (hS : ¬ S g) : IsK w' g f := by
  unfold IsK at *; rw [ho.block g (lt_blkC h) hS]; exact h
theorem IsK.later {w w' : World} {g : Nat} {f : Nat → Tk} (h : IsK w g f) (hb : Below w.heap.size w w') : IsK w' g f := h.out (S := fun _ => False) (Ou.of hb) id
theorem IsK.lt {w : World} {g : Nat} {f : Nat → Tk} (h : IsK w g f) : g < w.heap.size := lt_blkC h
def updK (f : Nat → Tk) (i : Nat) (t : Tk) : Nat → Tk := fun j => if j = i then t else f j
theorem IsK.new (w : World) : IsK (w.alloc (.cells #[.int .u8 0, .int .u32 0, .int .u32 0, .string ⟨#[]⟩, .int .u8 0, .int .u32 0, .int .u32 0, .string ⟨#[]⟩, .int .u8 0, .int .u32 0, .int .u32 0, .string ⟨#[]⟩] 59)) w.heap.size (fun _ => ⟨0, 0, 0, ⟨#[]⟩⟩) := heap_alloc_new w _
set_option maxHeartbeats 400000 in
theorem newCallee_c (w : World) : Calls Try.prog 12 #[] w fun x w' => x = .returned (pC w.heap.size) ∧ IsK w' w.heap.size (fun _ => ⟨0, 0, 0, ⟨#[]⟩⟩) ∧ Below w.heap.size w w' := by
  go_enter Try.func12, Try.ntmps12
  go_wp2
  go_ret
  exact ⟨rfl, IsK.new w, (Below.refl _ _).alloc (Nat.le_refl _) _⟩
theorem wp_scope_fwd {P : Program} {c rest : Code} {Q : Exit → Act → World → Prop} {a : Act} {w : World} (l : Nat) (hf : findLabel c l = some rest) (h : c.wp P (Exit.jump l (fun a w => rest.wp P (Exit.noGoto Q) a w) Q) a w) : (Code.scope c).wp P Q a w :=
  wp_scope_jumps l _ (fun _ _ => 0) hf h (fun a w h => Code.wp_mono (fun e a w h => by cases e <;> first | exact h | exact (h : False).elim) h)
theorem jump_ret {l : Nat} {J : Act → World → Prop} {Q : Exit → Act → World → Prop} {a : Act} {w : World} : Exit.jump l J Q .ret a w = Q .ret a w := rfl
end Go.Proofs.Ytmoeljieafninaa
