/-
  For every deed and every number: a nil journal answers ErrNil, or nothing; Open answers nil just where there is no disk, or one of fewer than eight sectors.
-/
import Derived.Test.YtllohapbbmnipabJDeed
namespace Go.Proofs.Ytllohapbbmnipab
open Go.ChangeShapes Go.WideShapes Go.ChangeAt Go.RowKit Go.Maps
open Go.ChangeMaps (open_string shut_string)
set_option linter.unusedVariables false
set_option linter.unusedSimpArgs false
set_option maxHeartbeats 400000 in
theorem groups_nil (w : World) : Calls Try.prog 20 #[.pointer none] w fun e w' => e = .returned (.slice none 0 0) ∧ w' = w := by
  go_enter Try.func20, Try.ntmps20
  go_wp2
  go_ret
  exact ⟨rfl, rfl⟩
set_option maxHeartbeats 400000 in
theorem free_nil (w : World) : Calls Try.prog 21 #[.pointer none] w fun e w' => e = .returned (.int .i64 0) ∧ w' = w := by
  go_enter Try.func21, Try.ntmps21
  go_wp2
  go_ret
  exact ⟨rfl, rfl⟩
set_option maxHeartbeats 400000 in
theorem jdisk_nil (w : World) : Calls Try.prog 9 #[.pointer none] w fun e w' => e = .returned (.pointer none) ∧ w' = w := by
  go_enter Try.func9, Try.ntmps9
  go_wp2
  go_ret
  exact ⟨rfl, rfl⟩
set_option maxHeartbeats 400000 in
theorem jfork_nil (w : World) : Calls Try.prog 22 #[.pointer none] w fun e w' => e = .returned (.pointer none) ∧ w' = w := by
  go_enter Try.func22, Try.ntmps22
  go_wp2
  go_ret
  exact ⟨rfl, rfl⟩
set_option maxHeartbeats 400000 in
theorem open_nil (w : World) : Calls Try.prog 8 #[.pointer none] w fun e w' => e = .returned (.pointer none) ∧ w' = w := by
  go_enter Try.func8, Try.ntmps8
  go_wp2_with (first
    | (go_at_call 24; refine (size_nil _).mono ?_; rintro _ w1 ⟨rfl, rfl⟩))
  go_ret
  exact ⟨rfl, rfl⟩
/-- What Open answers on a new disk of so many sectors. -/
def OpenOf (m : Nat) (v : Value) (w : World) : Prop := (m < 8 → Calls Try.prog 8 #[v] w fun e w' => e = .returned (.pointer none) ∧ Below w.heap.size w w') ∧ (8 ≤ m → Calls Try.prog 8 #[v] w fun e w' => (∃ j, e = .returned (pB j)) ∧ Below w.heap.size w w')
theorem new_open (m : Nat) (hm : m < 20) (w : World) : Calls Try.prog 12 #[.int .i64 (m : Int)] w fun e w' => ∃ v, e = .returned v ∧ Below w.heap.size w w' ∧ OpenOf m v w' := by
  by_cases h0 : m < 1
  · refine (new_none (m : Int) w (.inl (by omega))).mono ?_
    rintro e w' ⟨rfl, rfl⟩
    exact ⟨_, rfl, Below.refl _ _, fun _ => (open_nil _).mono fun e w2 ⟨h1, h2⟩ => ⟨h1, by rw [h2]; exact Below.refl _ _⟩, fun h => absurd h (by omega)⟩
  · refine (new_c m w (by omega) (by omega)).mono ?_
    rintro e w' ⟨rfl, hD, hb, _⟩
    exact ⟨_, rfl, hb, fun h => (open_few hD h).mono fun e w2 ⟨h1, h2⟩ => ⟨h1, by rw [h2]; exact Below.refl _ _⟩, fun h => (open_c hD h).mono fun e w2 ⟨j, _, _, _, h1, _, _, h2⟩ => ⟨⟨j, h1⟩, h2⟩⟩
set_option maxRecDepth 100000 in
set_option maxHeartbeats 2000000 in
theorem none_walk (k : Int) (ga : Option Addr) (gl gc : Nat) (r : Bool) (st : Int) (a : Option Addr) (len cap : Nat) (n : Int) (h0 : 0 ≤ n) (h1 : n < 256) (w : World) :
    Calls Try.prog 5 #[.agg #[.int .i64 k, .slice ga gl gc, .bool r, .int .i64 st, .slice a len cap], .int .u8 n] w fun e w' => e = .returned (.bool true) ∧ Below w.heap.size w w' := by
  have hb0 : Below w.heap.size w (w.alloc (.cells #[.int .i64 k, .slice ga gl gc, .bool r, .int .i64 st, .slice a len cap] 26)) := (Below.refl _ _).alloc (Nat.le_refl _) _
  have hn0 := heap_alloc_new w (.cells #[.int .i64 k, .slice ga gl gc, .bool r, .int .i64 st, .slice a len cap] 26)
  have hs0 : w.heap.size < (w.alloc (.cells #[.int .i64 k, .slice ga gl gc, .bool r, .int .i64 st, .slice a len cap] 26)).heap.size := by simp
  obtain ⟨m, hm⟩ : ∃ m : Nat, (m : Int) = n % 20 := ⟨(n % 20).toNat, by omega⟩
  have hm2 : m < 20 := by omega
  have NO : Hid (∀ x W, x = (m : Int) → Calls Try.prog 12 #[.int .i64 x] W fun e w' => ∃ v, e = .returned v ∧ Below W.heap.size W w' ∧ OpenOf m v w') := fun x W e => by subst e; exact new_open m hm2 W
  have HB0 := hid hb0
  have HN0 := hid hn0
  have HS0 := hid hs0
  clear hb0 hn0 hs0
  go_enter Try.func5, Try.ntmps5
  go_wp2_with fail
  generalize (w.alloc (.cells #[.int .i64 k, .slice ga gl gc, .bool r, .int .i64 st, .slice a len cap] 26)) = W0 at *
  refine (jlive_c _).mono ?_
  rintro _ w1 ⟨rfl, hb1⟩
  have x1 : w1.heap[w.heap.size]? = some (.cells #[.int .i64 k, .slice ga gl gc, .bool r, .int .i64 st, .slice a len cap] 26 (0, 0)) := by rw [hb1.block _ HS0.out]; exact HN0.out
  have c1 : w1.cell? ⟨w.heap.size, 1, none⟩ = some (.slice ga gl gc) := by rw [cell_of_row w1 _ 1 _ _ _ x1]; rfl
  have c2 : w1.cell? ⟨w.heap.size, 2, none⟩ = some (.bool r) := by rw [cell_of_row w1 _ 2 _ _ _ x1]; rfl
  have c3 : w1.cell? ⟨w.heap.size, 3, none⟩ = some (.int .i64 st) := by rw [cell_of_row w1 _ 3 _ _ _ x1]; rfl
  have c4 : w1.cell? ⟨w.heap.size, 4, none⟩ = some (.slice a len cap) := by rw [cell_of_row w1 _ 4 _ _ _ x1]; rfl
  have HB1 := hid hb1
  clear x1 hb1
  by_cases h8 : m < 8
  · go_wp2_with (first
      | (go_at_call 17; refine (append_nil _ ⟨_, _, _, rfl⟩ _).mono ?_; rintro _ w2 ⟨rfl, hw2⟩; rw [hw2]; clear hw2 w2)
      | (go_at_call 18; refine (reset_nil _ ⟨_, _, _, rfl⟩ _).mono ?_; rintro _ w2 ⟨rfl, hw2⟩; rw [hw2]; clear hw2 w2)
      | (go_at_call 19; refine (torn_nil _ _ _ _ _ _ _ _ _).mono ?_; rintro _ w2 ⟨rfl, hw2⟩; rw [hw2]; clear hw2 w2)
      | (go_at_call 20; refine (groups_nil _).mono ?_; rintro _ w2 ⟨rfl, hw2⟩; rw [hw2]; clear hw2 w2)
      | (go_at_call 21; refine (free_nil _).mono ?_; rintro _ w2 ⟨rfl, hw2⟩; rw [hw2]; clear hw2 w2)
      | (go_at_call 9; refine (jdisk_nil _).mono ?_; rintro _ w2 ⟨rfl, hw2⟩; rw [hw2]; clear hw2 w2)
      | (go_at_call 22; refine (jfork_nil _).mono ?_; rintro _ w2 ⟨rfl, hw2⟩; rw [hw2]; clear hw2 w2)
      | (go_at_call 8; refine (OC.out.1 h8).mono ?_; rintro _ w4 ⟨rfl, hb4⟩)
      | (go_at_call 8; refine (open_nil _).mono ?_; rintro _ w2 ⟨rfl, hw2⟩; rw [hw2]; clear hw2 w2)
      | (go_at_call 12; refine (NO.out _ _ (by first | omega | (simp; omega))).mono ?_; rintro _ w3 ⟨v3, rfl, hb3, oc⟩; have OC := hid oc; clear oc))
    go_ret
    exact ⟨by first | rfl | exact ret_bool (by simp; omega), HB0.out.trans ((HB1.out.trans ((hb3.trans (hb4.mono hb3.size)).mono HB1.out.size)).mono HB0.out.size)⟩
  · go_wp2_with (first
      | (go_at_call 17; refine (append_nil _ ⟨_, _, _, rfl⟩ _).mono ?_; rintro _ w2 ⟨rfl, hw2⟩; rw [hw2]; clear hw2 w2)
      | (go_at_call 18; refine (reset_nil _ ⟨_, _, _, rfl⟩ _).mono ?_; rintro _ w2 ⟨rfl, hw2⟩; rw [hw2]; clear hw2 w2)
      | (go_at_call 19; refine (torn_nil _ _ _ _ _ _ _ _ _).mono ?_; rintro _ w2 ⟨rfl, hw2⟩; rw [hw2]; clear hw2 w2)
      | (go_at_call 20; refine (groups_nil _).mono ?_; rintro _ w2 ⟨rfl, hw2⟩; rw [hw2]; clear hw2 w2)
      | (go_at_call 21; refine (free_nil _).mono ?_; rintro _ w2 ⟨rfl, hw2⟩; rw [hw2]; clear hw2 w2)
      | (go_at_call 9; refine (jdisk_nil _).mono ?_; rintro _ w2 ⟨rfl, hw2⟩; rw [hw2]; clear hw2 w2)
      | (go_at_call 22; refine (jfork_nil _).mono ?_; rintro _ w2 ⟨rfl, hw2⟩; rw [hw2]; clear hw2 w2)
      | (go_at_call 8; refine (OC.out.2 (by omega)).mono ?_; rintro _ w4 ⟨⟨j4, rfl⟩, hb4⟩)
      | (go_at_call 8; refine (open_nil _).mono ?_; rintro _ w2 ⟨rfl, hw2⟩; rw [hw2]; clear hw2 w2)
      | (go_at_call 12; refine (NO.out _ _ (by first | omega | (simp; omega))).mono ?_; rintro _ w3 ⟨v3, rfl, hb3, oc⟩; have OC := hid oc; clear oc))
    go_ret
    exact ⟨by first | rfl | exact ret_bool (by simp; omega), HB0.out.trans ((HB1.out.trans ((hb3.trans (hb4.mono hb3.size)).mono HB1.out.size)).mono HB0.out.size)⟩
theorem journalNone_walk (x : De) (n : Int) (wn : (Lit.int .u8 n).wf = true) (w : World) (hx : x.Ok w) : Calls Try.prog 5 #[x.val, .int .u8 n] w fun e w' => e = .returned (.bool true) ∧ Below w.heap.size w w' :=
  none_walk x.k x.ga x.gl x.gc x.r x.st x.a x.len x.cap n (bd_u8 wn).1 (bd_u8 wn).2 w
/-! ### The row of JournalNone -/
theorem journalNone_own : ownKnob Try.prog.godebug = none := by kernel_rfl
theorem journalNone_laidOut : laidOutB Try.prog = true := by kernel_rfl
set_option maxRecDepth 100000 in
theorem journalNone_lifted (os : Os) (started : os.Started) (H : Type) (enc : TypeId × Value → H) :
    ReturnsInHanded {} Try.checked os 5 .any (Rows.journalNoneSpec.pre6 enc Try.prog Try.f5 Rows.journalNoneRow.domain false) (Rows.journalNoneSpec.post enc Try.prog Try.f5 false true false false) := by
  refine returnsInHanded_of_change (C := Try.checked) journalNone_own started (by kernel_rfl) Try.func5
    (ChangeSpec.witness6 (enc := enc) (C := Try.checked) false ⟨#[], #[.agg #[.int .i64 0, .slice none 0 0, .bool false, .int .i64 0, .slice none 0 0], .int .u8 0], []⟩ 8 (by kernel_rfl) (by kernel_rfl) (by kernel_rfl) (by kernel_rfl)) ?_
  intro W base args ds gs before hval0 hW hcnd _
  have hval : ∀ (j : Nat) t v, Try.f5.params[j]? = some t → args[j]? = some v → Value.okWide Try.prog W .any base t v := hval0
  have hW' := hW
  obtain ⟨p, q, hA0, hV, rfl, hfz, hnd⟩ := hW
  have hA : DataW.TrodAll enc Try.prog W 0 (fun _ => true) true Try.f5.params.toList args.toList ds p := hA0
  rw [Try.params5] at hA hval
  obtain ⟨v0, vs0, d0, ds0, p0, q0, hargs, rfl, rfl, h0, r0⟩ := trodAll_cons hA
  obtain ⟨v1, vs1, d1, ds1, p1, q1, rfl, rfl, rfl, h1, r1⟩ := trodAll_cons r0
  obtain ⟨rfl, rfl, rfl⟩ := trodAll_nil r1
  obtain rfl : args = #[v0, v1] := by cases args; simp_all
  obtain ⟨rfl, rfl⟩ := trodVars_none hV
  have k0 := h0
  have lt0 : ∀ x ∈ p0, x.block < W.heap.size := by obtain ⟨m, hm⟩ := k0; exact DataW.trod_lt m _ _ _ hm
  obtain ⟨q0, rfl, wq0⟩ := open_deed5 (hval 0 26 v0 rfl rfl) h0
  obtain ⟨a1, rfl, rfl, rfl, w1⟩ := open_int Try.underlying5 (hval 1 5 v1 rfl rfl) h1
  clear hA0 hval0
  refine (journalNone_walk q0 a1 w1 W wq0).mono fun e W' ⟨he, bel⟩ => ?_
  subst he
  exact ⟨_, rfl, _, _, _, [], _, [], hW', trodAll_mk1 (shut_bool Try.underlying4 _), (trodAll_cons_mk (Below.trod journalNone_laidOut (by kernel_rfl) (of_decide_eq_true (by kernel_rfl)) k0 bel lt0) (trodAll_cons_mk (shut_int Try.underlying5 w1) trodAll_mk0)), rfl, bel.frame _, fun h => by cases h⟩
theorem journalNone_over : Rows.journalNoneRow.holds Try.pinned (OpenSpec.ofChange Rows.journalNoneSpec) :=
  OpenClaim.holds_of_wide 5 Try.f5 rfl rfl rfl rfl rfl rfl rfl ⟨rfl, rfl, rfl, rfl, rfl⟩ rfl rfl rfl rfl rfl (by kernel_rfl) Try.func5 (by kernel_rfl)
    (of_decide_eq_true (by kernel_rfl)) (by unfold Func.isWrapper; first | (rw [if_pos (by decide +kernel)]; kernel_rfl) | (rw [if_neg (by decide +kernel)]; exact ⟨rfl, rfl⟩))
    (fun os started H enc _ => journalNone_lifted os started H enc)
/-- The statement. -/
theorem journalNone_holds : Rows.JournalNoneSaid := journalNone_over
#print axioms journalNone_holds

end Go.Proofs.Ytllohapbbmnipab
