/-
  What each function of the package bits, and of the document's answer for it, returns: one contract a function.
-/
import Derived.Test.YtdbllggcomllgaaRows
import Derived.Test.YtdbllggcomllgaaMath
import Derived.WalkKit
import Derived.ProofKit
import Derived.OpenShut
import Derived.ShutString
import Derived.WalkSpells
import Derived.WalkLawsBesides
import Derived.Lib.SlBytesConst
import Derived.Deep.QuietTactic
import Derived.BigQuiet
namespace Go.Proofs.Ytdbllggcomllgaa
open Go.RowKit Go.ChangeShapes Go.WideShapes Go.ChangeAt
set_option linter.unusedVariables false
set_option linter.unusedSimpArgs false

theorem bd_i64 {a : Int} (h : (Lit.int .i64 a).wf = true) : -9223372036854775808 ≤ a ∧ a < 9223372036854775808 := by
  simp [Lit.wf, IntKind.min, IntKind.max, IntKind.signed, IntKind.bits] at h; omega
theorem bd_i32 {a : Int} (h : (Lit.int .i32 a).wf = true) : -2147483648 ≤ a ∧ a < 2147483648 := by
  simp [Lit.wf, IntKind.min, IntKind.max, IntKind.signed, IntKind.bits] at h; omega
theorem bd_i16 {a : Int} (h : (Lit.int .i16 a).wf = true) : -32768 ≤ a ∧ a < 32768 := by
  simp [Lit.wf, IntKind.min, IntKind.max, IntKind.signed, IntKind.bits] at h; omega
theorem bd_u64 {a : Int} (h : (Lit.int .u64 a).wf = true) : 0 ≤ a ∧ a < 18446744073709551616 := by
  simp [Lit.wf, IntKind.min, IntKind.max, IntKind.signed, IntKind.bits] at h; omega
theorem bd_u32 {a : Int} (h : (Lit.int .u32 a).wf = true) : 0 ≤ a ∧ a < 4294967296 := by
  simp [Lit.wf, IntKind.min, IntKind.max, IntKind.signed, IntKind.bits] at h; omega
theorem bd_u8 {a : Int} (h : (Lit.int .u8 a).wf = true) : 0 ≤ a ∧ a < 256 := by
  simp [Lit.wf, IntKind.min, IntKind.max, IntKind.signed, IntKind.bits] at h; omega
theorem ret_int {k : IntKind} {a b : Int} (h : a = b) : Ending.returned (.int k a) = .returned (.int k b) := by rw [h]
theorem ret_int2 {k l : IntKind} {a b c d : Int} (h : a = b) (h' : c = d) : Ending.returned (.tuple #[.int k a, .int l c]) = .returned (.tuple #[.int k b, .int l d]) := by rw [h, h']
theorem ret_bool {a b : Bool} (h : a = b) : Ending.returned (.bool a) = .returned (.bool b) := by rw [h]
theorem val_int {k : IntKind} {a b : Int} (h : a = b) : Value.int k a = .int k b := by rw [h]
theorem hid {p : Prop} (h : p) : Hid p := h

/-- A region that draws its order, walked once in the order of the text: its operations read what was there, its callees change nothing that was there. -/
theorem wp_region_class {P : Program} {id : Nat} {Q : Exit → Act → World → Prop} {a : Act} {w : World} {l : List Oper} (hm : P.follows .mixedOrders = true) (hB : Region.lexB .any l.toArray = true)
    (h : wpQuiet P l.toArray (fun w' => Below w.heap.size w w') (fun a' => ∀ w', Below w.heap.size w w' → Q .normal a' w') l a) : (Code.region id l.toArray true).wp P Q a w :=
  wp_region_quiet (C := fun w' => Below w.heap.size w w') hm hB ⟨rfl, rfl, rfl, Nat.le_refl _, fun _ _ => rfl⟩ (by simpa using h)
theorem quiet_by {P : Program} {o : Oper} {a a' : Act} {C : World → Prop} {K : Act → Prop} {v : Value} (h1 : ∀ w, C w → o.quietAt P a C w v) (h2 : a.put o.dst v = a') (h3 : K a') : o.quiet P a C K :=
  ⟨v, h1, by rw [h2]; exact h3⟩
theorem class_of {P : Program} {f : FuncId} {args : Array Value} {W w : World} {v : Value} (hw : Below W.heap.size W w)
    (h : Calls P f args w fun e w' => e = .returned v ∧ Below w.heap.size w w') : Calls P f args w fun e w'' => e = .returned v ∧ Below W.heap.size W w'' :=
  h.mono fun _ _ ⟨he, hb⟩ => ⟨he, hw.trans (hb.mono hw.size)⟩
theorem class_same {P : Program} {f : FuncId} {args : Array Value} {W w : World} {v : Value} (hw : Below W.heap.size W w)
    (h : Calls P f args w fun e w' => e = .returned v ∧ w' = w) : Calls P f args w fun e w'' => e = .returned v ∧ Below W.heap.size W w'' :=
  h.mono fun _ _ ⟨he, hb⟩ => ⟨he, by rw [hb]; exact hw⟩
set_option maxHeartbeats 400000 in
theorem zig_c (a : Int) (h0 : -9223372036854775808 ≤ a) (h1 : a < 9223372036854775808) (w : World) :
    Calls Try.prog 10 #[.int .i64 a] w fun e w' => e = .returned (.int .u64 (M.zigF a)) ∧ w' = w := by
  have H := hid (M.zig_eq a h0 h1)
  go_enter Try.func10, Try.ntmps10
  go_wp2
  go_ret
  exact ⟨ret_int H.out, rfl⟩
set_option maxHeartbeats 400000 in
theorem zag_c (a : Int) (h0 : 0 ≤ a) (h1 : a < 18446744073709551616) (w : World) :
    Calls Try.prog 12 #[.int .u64 a] w fun e w' => e = .returned (.int .i64 (M.zagF a)) ∧ w' = w := by
  have H := hid (M.zag_eq a h0 h1)
  go_enter Try.func12, Try.ntmps12
  go_wp2
  go_ret
  exact ⟨ret_int H.out, rfl⟩
set_option maxHeartbeats 400000 in
theorem rzig_c (a : Int) (h0 : -9223372036854775808 ≤ a) (h1 : a < 9223372036854775808) (w : World) :
    Calls Try.prog 11 #[.int .i64 a] w fun e w' => e = .returned (.int .u64 (M.zigF a)) ∧ w' = w := by
  by_cases h : 0 ≤ a
  · go_enter Try.func11, Try.ntmps11
    go_wp2
    go_ret
    exact ⟨ret_int (by unfold M.zigF; rw [if_pos h]), rfl⟩
  · go_enter Try.func11, Try.ntmps11
    go_wp2
    go_ret
    exact ⟨ret_int (by unfold M.zigF; rw [if_neg (by omega)]; omega), rfl⟩
set_option maxHeartbeats 400000 in
theorem rzag_c (a : Int) (h0 : 0 ≤ a) (h1 : a < 18446744073709551616) (w : World) :
    Calls Try.prog 13 #[.int .u64 a] w fun e w' => e = .returned (.int .i64 (M.zagF a)) ∧ w' = w := by
  by_cases h : a % 2 = 0
  · have hb : (a % 2 == 0) = true := beq_iff_eq.2 h
    have H := hid h
    clear h
    go_enter Try.func13, Try.ntmps13
    go_wp2
    go_ret
    exact ⟨ret_int (by unfold M.zagF; rw [if_pos H.out]), rfl⟩
  · have hb : (a % 2 == 0) = false := beq_eq_false_iff_ne.2 h
    have H := hid h
    clear h
    go_enter Try.func13, Try.ntmps13
    go_wp2
    go_ret
    exact ⟨ret_int (by unfold M.zagF; rw [if_neg H.out]), rfl⟩
set_option maxHeartbeats 400000 in
theorem make_ok (c n : Int) (h0 : 0 ≤ c) (h1 : c ≤ 3) (h2 : 1 ≤ n) (h3 : n ≤ 16777215) (w : World) :
    Calls Try.prog 18 #[.int .u8 c, .int .u32 n] w fun e w' => e = .returned (.tuple #[.int .u32 (M.makeF c n), .int .i64 0]) ∧ w' = w := by
  have H := hid (M.make_eq c n h0 h1 (by omega) h3)
  go_enter Try.func18, Try.ntmps18
  go_wp2
  go_ret2
  exact ⟨ret_int2 H.out rfl, rfl⟩
set_option maxHeartbeats 400000 in
theorem make_bad (c n : Int) (h0 : 0 ≤ c) (h2 : 0 ≤ n) (h : 3 < c ∨ n < 1 ∨ 16777215 < n) (w : World) :
    Calls Try.prog 18 #[.int .u8 c, .int .u32 n] w fun e w' => e = .returned (.tuple #[.int .u32 0, .int .i64 2]) ∧ w' = w := by
  by_cases hc : 3 < c
  · go_enter Try.func18, Try.ntmps18
    go_wp2
    go_ret2
    exact ⟨rfl, rfl⟩
  · by_cases hn : n < 1
    · clear h
      go_enter Try.func18, Try.ntmps18
      go_wp2
      go_ret2
      exact ⟨rfl, rfl⟩
    · have hn' : 16777215 < n := by omega
      clear h
      go_enter Try.func18, Try.ntmps18
      go_wp2
      go_ret2
      exact ⟨rfl, rfl⟩
set_option maxHeartbeats 400000 in
theorem rmake_ok (c n : Int) (h0 : 0 ≤ c) (h1 : c ≤ 3) (h2 : 1 ≤ n) (h3 : n ≤ 16777215) (w : World) :
    Calls Try.prog 19 #[.int .u8 c, .int .u32 n] w fun e w' => e = .returned (.tuple #[.int .u32 (M.makeF c n), .int .i64 0]) ∧ w' = w := by
  go_enter Try.func19, Try.ntmps19
  go_wp2
  go_ret2
  exact ⟨ret_int2 (by first | rfl | (unfold M.makeF; simp; omega)) rfl, rfl⟩
set_option maxHeartbeats 400000 in
theorem rmake_bad (c n : Int) (h0 : 0 ≤ c) (h2 : 0 ≤ n) (h : 3 < c ∨ n < 1 ∨ 16777215 < n) (w : World) :
    Calls Try.prog 19 #[.int .u8 c, .int .u32 n] w fun e w' => e = .returned (.tuple #[.int .u32 0, .int .i64 2]) ∧ w' = w := by
  by_cases hc : 3 < c
  · go_enter Try.func19, Try.ntmps19
    go_wp2
    go_ret2
    exact ⟨rfl, rfl⟩
  · by_cases hn : n < 1
    · clear h
      go_enter Try.func19, Try.ntmps19
      go_wp2
      go_ret2
      exact ⟨rfl, rfl⟩
    · have hn' : 16777215 < n := by omega
      clear h
      go_enter Try.func19, Try.ntmps19
      go_wp2
      go_ret2
      exact ⟨rfl, rfl⟩
set_option maxHeartbeats 400000 in
theorem who_c (f : Int) (h0 : 0 ≤ f) (h1 : f < 4294967296) (w : World) :
    Calls Try.prog 20 #[.int .u32 f] w fun e w' => e = .returned (.int .u8 (f / 16777216)) ∧ w' = w := by
  go_enter Try.func20, Try.ntmps20
  go_wp2
  go_ret
  exact ⟨ret_int (by first | rfl | (rw [IntKind.wrap_u8']; omega)), rfl⟩
set_option maxHeartbeats 400000 in
theorem rwho_c (f : Int) (h0 : 0 ≤ f) (h1 : f < 4294967296) (w : World) :
    Calls Try.prog 21 #[.int .u32 f] w fun e w' => e = .returned (.int .u8 (f / 16777216)) ∧ w' = w := by
  go_enter Try.func21, Try.ntmps21
  go_wp2
  go_ret
  exact ⟨ret_int (by first | rfl | (rw [IntKind.wrap_u8']; omega)), rfl⟩
set_option maxHeartbeats 400000 in
theorem number_c (f : Int) (h0 : 0 ≤ f) (h1 : f < 4294967296) (w : World) :
    Calls Try.prog 22 #[.int .u32 f] w fun e w' => e = .returned (.int .u32 (f % 16777216)) ∧ w' = w := by
  have H := hid (M.number_eq f h0 h1)
  go_enter Try.func22, Try.ntmps22
  go_wp2
  go_ret
  exact ⟨ret_int H.out, rfl⟩
set_option maxHeartbeats 400000 in
theorem rnumber_c (f : Int) (h0 : 0 ≤ f) (h1 : f < 4294967296) (w : World) :
    Calls Try.prog 23 #[.int .u32 f] w fun e w' => e = .returned (.int .u32 (f % 16777216)) ∧ w' = w := by
  go_enter Try.func23, Try.ntmps23
  go_wp2
  go_ret
  exact ⟨ret_int rfl, rfl⟩
set_option maxHeartbeats 400000 in
theorem narrow_ok (n : Int) (h0 : -2147483648 ≤ n) (h1 : n ≤ 2147483647) (w : World) :
    Calls Try.prog 24 #[.int .i64 n] w fun e w' => e = .returned (.tuple #[.int .i32 n, .bool true]) ∧ w' = w := by
  go_enter Try.func24, Try.ntmps24
  go_wp2
  go_ret2
  exact ⟨rfl, rfl⟩
set_option maxHeartbeats 400000 in
theorem narrow_bad (n : Int) (h0 : -9223372036854775808 ≤ n) (h1 : n < 9223372036854775808) (h : n < -2147483648 ∨ 2147483647 < n) (w : World) :
    Calls Try.prog 24 #[.int .i64 n] w fun e w' => e = .returned (.tuple #[.int .i32 0, .bool false]) ∧ w' = w := by
  have hb : (wrap64 (wrap32 n) != n) = true := by rw [bne_iff_ne]; unfold wrap64 wrap32; omega
  clear h
  go_enter Try.func24, Try.ntmps24
  go_wp2
  go_ret2
  exact ⟨rfl, rfl⟩
set_option maxHeartbeats 400000 in
theorem rnarrow_ok (n : Int) (h0 : -2147483648 ≤ n) (h1 : n ≤ 2147483647) (w : World) :
    Calls Try.prog 25 #[.int .i64 n] w fun e w' => e = .returned (.tuple #[.int .i32 n, .bool true]) ∧ w' = w := by
  go_enter Try.func25, Try.ntmps25
  go_wp2
  go_ret2
  exact ⟨rfl, rfl⟩
set_option maxHeartbeats 400000 in
theorem rnarrow_bad (n : Int) (h0 : -9223372036854775808 ≤ n) (h1 : n < 9223372036854775808) (h : n < -2147483648 ∨ 2147483647 < n) (w : World) :
    Calls Try.prog 25 #[.int .i64 n] w fun e w' => e = .returned (.tuple #[.int .i32 0, .bool false]) ∧ w' = w := by
  by_cases hn : n < -2147483648
  · clear h
    go_enter Try.func25, Try.ntmps25
    go_wp2
    go_ret2
    exact ⟨rfl, rfl⟩
  · have hn' : 2147483647 < n := by omega
    clear h
    go_enter Try.func25, Try.ntmps25
    go_wp2
    go_ret2
    exact ⟨rfl, rfl⟩
set_option maxHeartbeats 400000 in
theorem turn_k (u n k : Int) (h0 : 0 ≤ u) (h1 : u < 4294967296) (hk : (IntKind.u64.wrap n).tmod 32 = k) (k0 : 0 ≤ k) (k1 : k < 32) (w : World) :
    Calls Try.prog 26 #[.int .u32 u, .int .i64 n] w fun e w' => e = .returned (.int .u32 (M.turnF u.toNat k.toNat)) ∧ w' = w := by
  have H := hid (M.turn_eq u k h0 h1 k0 k1)
  go_enter Try.func26, Try.ntmps26
  go_wp2
  go_ret
  exact ⟨ret_int H.out, rfl⟩
theorem turn_c (u n : Int) (h0 : 0 ≤ u) (h1 : u < 4294967296) (w : World) :
    Calls Try.prog 26 #[.int .u32 u, .int .i64 n] w fun e w' => e = .returned (.int .u32 (M.turnF u.toNat (n % 32).toNat)) ∧ w' = w :=
  turn_k u n (n % 32) h0 h1 (by rw [IntKind.wrap_u64, Int.tmod_eq_emod_of_nonneg (by omega)]; omega) (by omega) (by omega) w
set_option maxHeartbeats 400000 in
theorem low_c (u n : Int) (h0 : 0 ≤ u) (h1 : u < 18446744073709551616) (w : World) :
    Calls Try.prog 28 #[.int .u64 u, .int .i64 n] w fun e w' => e = .returned (.int .u64 (M.lowF u n)) ∧ w' = w := by
  by_cases hn : n ≤ 0
  · go_enter Try.func28, Try.ntmps28
    go_wp2
    go_ret
    exact ⟨ret_int (by unfold M.lowF; rw [if_pos hn]), rfl⟩
  · by_cases hm : 64 ≤ n
    · go_enter Try.func28, Try.ntmps28
      go_wp2
      go_ret
      exact ⟨ret_int (by unfold M.lowF; rw [if_neg (by omega), if_pos hm]), rfl⟩
    · have H := hid (M.low_eq' u n h0 h1 (by omega) (by omega))
      go_enter Try.func28, Try.ntmps28
      go_wp2
      go_ret
      exact ⟨ret_int H.out, rfl⟩
set_option maxHeartbeats 400000 in
theorem rturn_pos (v : Nat) (n k : Int) (h1 : v < 4294967296) (m : Nat) (hk : n.tmod 32 = k) (hm : k = m) (hmm : m < 32) (w : World) :
    Calls Try.prog 27 #[.int .u32 v, .int .i64 n] w fun e w' => e = .returned (.int .u32 (M.turnF v m)) ∧ w' = w := by
  have z0 := hid (M.turn_zero v h1)
  have hk0 : 0 ≤ k := by omega
  have hk' : k < 32 := by omega
  have Hm := hid hm
  clear hm
  go_enter Try.func27, Try.ntmps27
  go_wp2
  go_loop [0, 6, 7] (fun x i t => ∃ j : Nat, (j : Int) ≤ k ∧ i = .int .i64 j ∧ x = .int .u32 (M.turnF v j)) (fun _ i _ => (k - intOf i).toNat)
  case atStart => exact ⟨0, by omega, rfl, by rw [z0.out]⟩
  case round =>
    obtain ⟨j, hj, rfl, rfl⟩ := hrel
    have HS := hid (M.turn_step v j h1 (by omega)).2
    have hl := M.turn_lt v j h1 (by omega)
    by_cases hlt : (j : Int) < k
    · go_wp2
      go_round
      case rel => exact ⟨j + 1, by omega, by go_num, val_int (by rw [← HS.out]; go_num)⟩
      case measure => simp [intOf]; omega
    · go_wp2
      go_ret
      exact ⟨ret_int (by have := Hm.out; rw [show j = m from by omega]), rfl⟩
set_option maxHeartbeats 400000 in
theorem rturn_neg (v : Nat) (n k : Int) (h1 : v < 4294967296) (m : Nat) (hk : n.tmod 32 = k) (hn : k < 0) (hm : k + 32 = m) (hmm : m < 32) (w : World) :
    Calls Try.prog 27 #[.int .u32 v, .int .i64 n] w fun e w' => e = .returned (.int .u32 (M.turnF v m)) ∧ w' = w := by
  have z0 := hid (M.turn_zero v h1)
  have hk' : -32 ≤ k := by omega
  have Hm := hid hm
  clear hm
  go_enter Try.func27, Try.ntmps27
  go_wp2
  go_loop [0, 6, 7] (fun x i t => ∃ j : Nat, (j : Int) ≤ k + 32 ∧ i = .int .i64 j ∧ x = .int .u32 (M.turnF v j)) (fun _ i _ => (k + 32 - intOf i).toNat)
  case atStart => exact ⟨0, by omega, rfl, by rw [z0.out]⟩
  case round =>
    obtain ⟨j, hj, rfl, rfl⟩ := hrel
    have HS := hid (M.turn_step v j h1 (by omega)).2
    have hl := M.turn_lt v j h1 (by omega)
    by_cases hlt : (j : Int) < k + 32
    · go_wp2
      go_round
      case rel => exact ⟨j + 1, by omega, by go_num, val_int (by rw [← HS.out]; go_num)⟩
      case measure => simp [intOf]; omega
    · go_wp2
      go_ret
      exact ⟨ret_int (by have := Hm.out; rw [show j = m from by omega]), rfl⟩
theorem rturn_c (u n : Int) (h0 : 0 ≤ u) (h1 : u < 4294967296) (w : World) :
    Calls Try.prog 27 #[.int .u32 u, .int .i64 n] w fun e w' => e = .returned (.int .u32 (M.turnF u.toNat (n % 32).toNat)) ∧ w' = w := by
  obtain ⟨v, rfl⟩ := Int.eq_ofNat_of_zero_le h0
  by_cases hn : n.tmod 32 < 0
  · have := M.tmod_neg n hn
    exact rturn_neg v n _ (by omega) _ rfl hn (by omega) (by omega) w
  · have := M.tmod_pos n (by omega)
    exact rturn_pos v n _ (by omega) _ rfl (by omega) (by omega) w
set_option maxHeartbeats 400000 in
theorem rlow_c (u n : Int) (h0 : 0 ≤ u) (h1 : u < 18446744073709551616) (w : World) :
    Calls Try.prog 29 #[.int .u64 u, .int .i64 n] w fun e w' => e = .returned (.int .u64 (M.lowF u n)) ∧ w' = w := by
  obtain ⟨v, rfl⟩ := Int.eq_ofNat_of_zero_le h0
  by_cases hn : 64 ≤ n
  · go_enter Try.func29, Try.ntmps29
    go_wp2
    go_ret
    exact ⟨ret_int (by unfold M.lowF; rw [if_neg (by omega), if_pos hn]), rfl⟩
  · go_enter Try.func29, Try.ntmps29
    go_wp2
    go_loop [5, 6, 7] (fun o b i => ∃ j : Nat, (j : Int) ≤ max n 0 ∧ i = .int .i64 j ∧ o = .int .u64 ((v % 2 ^ j : Nat) : Int) ∧ b = .int .u64 ((2 ^ j : Nat) : Int)) (fun _ _ i => (n - intOf i).toNat)
    case atStart => exact ⟨0, by omega, rfl, val_int (by simp [Nat.mod_one]), rfl⟩
    case round =>
      obtain ⟨j, hj, rfl, rfl, rfl⟩ := hrel
      have HS := hid (M.low_step v j)
      have hp0 : 0 < 2 ^ j := Nat.pow_pos (by omega)
      have hlt2 := Nat.mod_lt v hp0
      by_cases hlt : (j : Int) < n
      · have hp : 2 ^ j ≤ 2 ^ 62 := Nat.pow_le_pow_right (by omega) (by omega)
        have HR := hid (M.low_round v (2 ^ j) (v % 2 ^ j) (by omega) hp0 hp hlt2)
        have HB := hid (M.low_bit (2 ^ j) j rfl)
        generalize hP : 2 ^ j = P at *
        generalize hX : v % P = X at *
        have HP := hid hP
        have HX := hid hX
        clear hP hX
        go_wp2
        go_round
        case rel => exact ⟨j + 1, by omega, by go_num, val_int (HR.out.trans (by rw [HS.out])), val_int HB.out⟩
        case measure => simp [intOf]; omega
      · generalize hP : 2 ^ j = P at *
        generalize hX : v % P = X at *
        have HP := hid hP
        have HX := hid hX
        clear hP hX
        go_wp2
        go_ret
        refine ⟨ret_int ?_, rfl⟩
        rw [← HX.out, ← HP.out]
        exact (M.lowF_end v n j (by omega) (by omega) hj (by omega)).symm
/-- A slice of bytes, as the walk is told of it: its length, and the numbers in its cells. -/
def IsB (w : World) (a : Option Addr) (len : Nat) (zs : List Int) : Prop :=
  zs.length = len ∧ len ≤ maxLen ∧ (0 < len → ∃ b off, a = some ⟨b, off, none⟩ ∧ ∀ i, i < len → w.cell? ⟨b, off + i, none⟩ = some (.int .u8 (zs.getD i 0))) ∧ ∀ i, 0 ≤ zs.getD i 0 ∧ zs.getD i 0 ≤ 255
theorem take_snoc (l : List Int) (k : Nat) (h : k < l.length) : l.take (k + 1) = l.take k ++ [l.getD k 0] := by
  rw [List.take_succ_eq_append_getElem h]; simp [h]
theorem IsB.later {w w' : World} {a : Option Addr} {len : Nat} {zs : List Int} (h : IsB w a len zs) (hb : Below w.heap.size w w') : IsB w' a len zs := by
  obtain ⟨h1, h2, h3, h4⟩ := h
  refine ⟨h1, h2, fun hp => ?_, h4⟩
  obtain ⟨b, off, e, hc⟩ := h3 hp
  exact ⟨b, off, e, fun i hi => cell_later hb (hc i hi)⟩
theorem IsB.front {w : World} {a : Option Addr} {len : Nat} {zs : List Int} (h : IsB w a len zs) (m : Nat) (hm : m ≤ len) : IsB w a m (zs.take m) := by
  obtain ⟨h1, h2, h3, h4⟩ := h
  refine ⟨by rw [List.length_take]; omega, by omega, fun hp => ?_, fun i => ?_⟩
  · obtain ⟨b, off, e, hc⟩ := h3 (by omega)
    refine ⟨b, off, e, fun i hi => ?_⟩
    rw [hc i (by omega)]
    simp [List.getD, List.getElem?_take, hi]
  · by_cases hi : i < m
    · have := h4 i
      simpa [List.getD, List.getElem?_take, hi] using this
    · simp [List.getD, List.getElem?_take, hi]
/-- What is read of a slice of bytes that came in. -/
theorem isB_of {H : Type} {enc : TypeId × Value → H} {P : Program} {W : World} {t e : TypeId} {a : Option Addr} {len cap : Nat} {d : DataW H} {p : List MemPlace}
    (ht : P.underlying t = some (.slice e)) (he : P.underlying e = some (.int .u8)) (hc : P.cellsOf e = 1)
    (h : DataW.Trod enc P W 0 (fun _ => true) true t (.slice a len cap) d p) : ∃ zs, IsB W a len zs ∧ len ≤ cap := by
  obtain ⟨fuel, hf⟩ := h
  rcases open_ints ht he hc hf with ⟨hcs, _⟩ | ⟨x, l, c, zs, hcs, _, hl, hm, hz, _, hcell, hwz⟩
  · simp [Value.cells] at hcs
    obtain ⟨rfl, rfl, rfl⟩ := hcs
    exact ⟨[], ⟨rfl, Nat.zero_le _, fun h => absurd h (by omega), fun i => by simp⟩, Nat.le_refl _⟩
  · simp [Value.cells] at hcs
    obtain ⟨rfl, rfl, rfl⟩ := hcs
    have hz' : zs.length = cap := by simpa using hz
    have hb : IsB W (some x) cap zs := by
      refine ⟨hz', hm, fun hp => ?_, fun i => ?_⟩
      · obtain ⟨b, off, spot⟩ := x
        have hc0 := hcell 0 (by omega)
        have hspot : spot = none := by simpa [Addr.add] using World.cell?_spot hc0
        subst hspot
        exact ⟨b, off, rfl, fun i hi => by
          have h := hcell i (by omega)
          rcases i with _ | i <;> simpa [Addr.add] using h⟩
      · by_cases hi : i < zs.length
        · have hmem : zs.getD i 0 ∈ zs := by
            simp [List.getD, hi]
          have := bd_u8 (hwz _ hmem)
          omega
        · simp [List.getD, List.getElem?_eq_none (by omega : zs.length ≤ i)]
    exact ⟨zs.take len, hb.front len hl, hl⟩
/-- What is read of an array of two numbers that came in. -/
theorem open_pair {H : Type} {enc : TypeId × Value → H} {P : Program} {W : World} {r : Reach} {b0 : Nat} {k : IntKind} {t e : TypeId} {v : Value} {d : DataW H} {p : List MemPlace}
    (ht : P.underlying t = some (.array 2 e)) (he : P.underlying e = some (.int k)) (hce : P.cellsOf e = 1) (hct : P.cellsOf t = 2)
    (hv : Value.okWide P W r b0 t v) (h : DataW.Trod enc P W 0 (fun _ => true) true t v d p) :
    ∃ x y, v = .agg #[.int k x, .int k y] ∧ (Lit.int k x).wf = true ∧ (Lit.int k y).wf = true := by
  simp only [Value.okWide, ht] at hv
  obtain ⟨cs, rfl, hsz, _⟩ := hv
  obtain ⟨fuel, hf⟩ := h
  obtain ⟨xs, m, _, _, _, hlen, hel⟩ := DataW.trod_array ht hf
  have h0 := hel 0 (by omega)
  have h1 := hel 1 (by omega)
  rw [hct] at hsz
  obtain ⟨c0, c1, rfl⟩ : ∃ c0 c1, cs = #[c0, c1] := by
    obtain ⟨l⟩ := cs
    match l, hsz with
    | [c0, c1], _ => exact ⟨c0, c1, rfl⟩
  match xs, hlen with
  | [x0, x1], _ =>
    simp [hce, Value.cells] at h0 h1
    obtain ⟨n0, e0, _, w0⟩ := DataW.trod_int he h0
    obtain ⟨n1, e1, _, w1⟩ := DataW.trod_int he h1
    simp at e0 e1
    subst e0 e1
    exact ⟨n0, n1, rfl, w0, w1⟩
set_option maxHeartbeats 400000 in
theorem fold_c (a : Option Addr) (len cap : Nat) (zs : List Int) (w : World) (hb : IsB w a len zs) :
    Calls Try.prog 30 #[.slice a len cap] w fun e w' => e = .returned (.int .u32 (M.foldF zs)) ∧ w' = w := by
  obtain ⟨hl, hm, hc, hz⟩ := hb
  unfold maxLen at hm
  have Hz := hid hz
  have Hc := hid hc
  have Hl := hid hl
  clear hz hc hl
  go_enter Try.func30, Try.ntmps30
  go_wp2
  go_loop [3, 4, 7] (fun s t i => ∃ j : Nat, j ≤ len ∧ i = .int .i64 j ∧ s = .int .u32 (M.foldF (zs.take j))) (fun _ _ i => ((len : Int) - intOf i).toNat)
  case atStart => exact ⟨0, by omega, rfl, rfl⟩
  case round =>
    obtain ⟨j, hj, rfl, rfl⟩ := hrel
    by_cases hlt : j < len
    · obtain ⟨b, off, rfl, hcell⟩ := Hc.out (by omega)
      have hcj := hcell j hlt
      have hzj := Hz.out j
      have HT := hid (take_snoc zs j (by have := Hl.out; omega))
      generalize hX : zs.getD j 0 = x at *
      have HX := hid hX
      clear hcell hX
      go_wp2
      go_round
      case rel => exact ⟨j + 1, by omega, by go_num, val_int (by rw [HT.out, M.fold_snoc]; rfl)⟩
      case measure => simp [intOf]; omega
    · go_wp2
      go_ret
      exact ⟨ret_int (by have := Hl.out; rw [List.take_of_length_le (by omega)]), rfl⟩
set_option maxHeartbeats 400000 in
theorem rfold_c (a : Option Addr) (len cap : Nat) (zs : List Int) (w : World) (hb : IsB w a len zs) :
    Calls Try.prog 31 #[.slice a len cap] w fun e w' => e = .returned (.int .u32 (M.foldF zs)) ∧ w' = w := by
  obtain ⟨hl, hm, hc, hz⟩ := hb
  unfold maxLen at hm
  have Hz := hid hz
  have Hc := hid hc
  have Hl := hid hl
  clear hz hc hl
  go_enter Try.func31, Try.ntmps31
  go_wp2
  go_loop [3, 4] (fun s i => ∃ j : Nat, j ≤ len ∧ i = .int .i64 j ∧ s = .int .u32 (M.foldF (zs.take j))) (fun _ i => ((len : Int) - intOf i).toNat)
  case atStart => exact ⟨0, by omega, rfl, rfl⟩
  case round =>
    obtain ⟨j, hj, rfl, rfl⟩ := hrel
    by_cases hlt : j < len
    · obtain ⟨b, off, rfl, hcell⟩ := Hc.out (by omega)
      have hcj := hcell j hlt
      have hzj := Hz.out j
      have HT := hid (take_snoc zs j (by have := Hl.out; omega))
      generalize hX : zs.getD j 0 = x at *
      have HX := hid hX
      clear hcell hX
      go_wp2
      go_round
      case rel => exact ⟨j + 1, by omega, by go_num, val_int (by rw [HT.out, M.fold_snoc]; rfl)⟩
      case measure => simp [intOf]; omega
    · go_wp2
      go_ret
      exact ⟨ret_int (by have := Hl.out; rw [List.take_of_length_le (by omega)]), rfl⟩
theorem or_zero (x : Int) (x0 : 0 ≤ x) (x1 : x < 4294967296) : bits .or .u64 0 x = x := by
  rw [u64_or _ _ (by omega) (by omega) (by omega) (by omega)]; simp; omega
theorem or_join (x y : Int) (x0 : 0 ≤ x) (x1 : x < 4294967296) (y0 : 0 ≤ y) (y1 : y < 4294967296) : bits .or .u64 (x * 4294967296) y = x * 4294967296 + y := by
  rw [u64_or _ _ (by omega) (by omega) (by omega) (by omega), nat_join 32 _ _ (by omega) (by omega)]; omega
set_option maxHeartbeats 400000 in
theorem whole_c (x y : Int) (x0 : 0 ≤ x) (x1 : x < 4294967296) (y0 : 0 ≤ y) (y1 : y < 4294967296) (w : World) :
    Calls Try.prog 33 #[.agg #[.int .u32 x, .int .u32 y]] w fun e w' => e = .returned (.int .u64 (x * 4294967296 + y)) ∧ Below w.heap.size w w' := by
  have e0 := or_zero x x0 x1
  have E := hid (or_join x y x0 x1 y0 y1)
  go_enter Try.func33, Try.ntmps33
  go_wp2
  refine wp_loop_rounds 3 ?_
  rw [rounds_succ]
  go_wp2
  rw [rounds_succ]
  go_wp2
  rw [rounds_succ]
  go_wp2
  go_ret
  exact ⟨ret_int E.out, (Below.refl _ _).alloc (Nat.le_refl _) _⟩
set_option maxHeartbeats 400000 in
theorem halves_c (u : Int) (x0 : 0 ≤ u) (x1 : u < 18446744073709551616) (w : World) :
    Calls Try.prog 32 #[.int .u64 u] w fun e w' => e = .returned (.agg #[.int .u32 (u / 4294967296), .int .u32 (u % 4294967296)]) ∧ Below w.heap.size w w' := by
  go_enter Try.func32, Try.ntmps32
  go_wp2
  refine wp_loop_rounds 3 ?_
  rw [rounds_succ]
  go_wp2
  rw [rounds_succ]
  go_wp2
  rw [rounds_succ]
  go_wp2
  exact bodyPost_ret (v := .agg #[.int .u32 (u / 4294967296), .int .u32 (u % 4294967296)]) (by simp [results, Try.results32, go_sem]) rfl ⟨rfl, ((Below.refl _ _).alloc (Nat.le_refl _) _).alloc (by simp) _⟩
set_option maxHeartbeats 400000 in
theorem pack_c (x y : Int) (x0 : 0 ≤ x) (x1 : x < 4294967296) (y0 : 0 ≤ y) (y1 : y < 4294967296) (w : World) :
    Calls Try.prog 16 #[.int .u32 x, .int .u32 y] w fun e w' => e = .returned (.int .u64 (x * 4294967296 + y)) ∧ Below w.heap.size w w' := by
  go_enter Try.func16, Try.ntmps16
  go_wp2_with (go_at_call 33; refine (whole_c _ _ (by omega) (by omega) (by omega) (by omega) _).mono ?_; rintro e w' ⟨rfl, hb⟩)
  go_ret
  exact ⟨rfl, hb⟩
set_option maxHeartbeats 400000 in
theorem unpack_c (u : Int) (x0 : 0 ≤ u) (x1 : u < 18446744073709551616) (w : World) :
    Calls Try.prog 14 #[.int .u64 u] w fun e w' => e = .returned (.tuple #[.int .u32 (u / 4294967296), .int .u32 (u % 4294967296)]) ∧ Below w.heap.size w w' := by
  go_enter Try.func14, Try.ntmps14
  go_wp2_with (go_at_call 32; refine (halves_c _ (by omega) (by omega) _).mono ?_; rintro e w' ⟨rfl, hb⟩)
  have hz := hb.size
  go_quiet (fail)
  go_wp2
  go_ret2
  exact ⟨rfl, below_drewN (hb.alloc hb.size _) _⟩
set_option maxHeartbeats 400000 in
theorem rpack_c (x y : Int) (x0 : 0 ≤ x) (x1 : x < 4294967296) (y0 : 0 ≤ y) (y1 : y < 4294967296) (w : World) :
    Calls Try.prog 17 #[.int .u32 x, .int .u32 y] w fun e w' => e = .returned (.int .u64 (x * 4294967296 + y)) ∧ w' = w := by
  go_enter Try.func17, Try.ntmps17
  go_wp2
  go_ret
  exact ⟨ret_int rfl, rfl⟩
set_option maxHeartbeats 400000 in
theorem runpack_c (u : Int) (x0 : 0 ≤ u) (x1 : u < 18446744073709551616) (w : World) :
    Calls Try.prog 15 #[.int .u64 u] w fun e w' => e = .returned (.tuple #[.int .u32 (u / 4294967296), .int .u32 (u % 4294967296)]) ∧ w' = w := by
  go_enter Try.func15, Try.ntmps15
  go_wp2
  go_ret2
  exact ⟨ret_int2 rfl rfl, rfl⟩
set_option maxHeartbeats 400000 in
theorem live_c (w : World) : Calls Try.prog 9 #[] w fun e w' => e = .returned (.bool true) ∧ Below w.heap.size w w' := by
  have kc := fun (w : World) (C : Array Value) (n c : Nat) => Lib.run_convert_bytes_const (P := Try.prog) w 45 5 C n c Try.underlying45 Try.underlying5
  go_enter Try.func9, Try.ntmps9
  go_wp2_with fail
  refine (make_ok 2 5 (by omega) (by omega) (by omega) (by omega) _).mono ?_
  rintro e w' ⟨rfl, rfl⟩
  go_wp2_with fail
  refine (zig_c (-1) (by omega) (by omega) _).mono ?_
  rintro e w' ⟨rfl, rfl⟩
  rw [show M.zigF (-1) = 1 from by decide]
  go_wp2_with fail
  refine (zag_c 4 (by omega) (by omega) _).mono ?_
  rintro e w' ⟨rfl, rfl⟩
  rw [show M.zagF 4 = 2 from by decide]
  go_wp2_with fail
  refine (fold_c _ 1 1 [97] _ ⟨rfl, by unfold maxLen; omega, fun _ => ⟨_, 0, rfl, ?_⟩, ?_⟩).mono ?_
  · intro i hi
    obtain rfl : i = 0 := by omega
    rw [World.cell?_alloc_mark]; rfl
  · intro i
    rcases i with _ | i <;> simp
  rintro e w'' ⟨rfl, rfl⟩
  rw [show M.foldF [97] = 3826002220 from by decide +kernel]
  go_wp2
  go_ret
  exact ⟨rfl, (Below.refl _ _).alloc (Nat.le_refl _) _⟩
end Go.Proofs.Ytdbllggcomllgaa
