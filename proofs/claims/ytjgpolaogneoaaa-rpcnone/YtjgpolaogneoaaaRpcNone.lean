/-
  For every deed and every client: nil callers and callees answer ErrNil, or nothing; NewCaller answers nil just where the client is not from 1 to 3.
-/
import Derived.Test.YtjgpolaogneoaaaROp
namespace Go.Proofs.Ytjgpolaogneoaaa
open Go.RowKit Go.ChangeShapes Go.WideShapes Go.ChangeAt
open Go.ChangeMaps (open_string shut_string)
set_option linter.unusedVariables false
set_option linter.unusedSimpArgs false
set_option maxRecDepth 100000
set_option maxHeartbeats 400000 in
theorem bytes_nil (w : World) : Calls Try.prog 26 #[.pointer none] w fun e w' => e = .returned (.slice none 0 0) ∧ w' = w := by
  go_enter Try.func26, Try.ntmps26
  go_wp2
  go_ret
  exact ⟨rfl, rfl⟩
def ncP (n : Int) (w : World) : Value := if n < 1 ∨ 3 < n then .pointer none else pC w.heap.size
theorem newCaller_any (n e : Int) (w : World) : Calls Try.prog 12 #[.int .u8 n, .int .u32 e] w fun x w' => x = .returned (ncP n w) ∧ Below w.heap.size w w' := by
  unfold ncP
  by_cases h : n < 1 ∨ 3 < n
  · rw [if_pos h]
    exact (newCaller_no n e h w).mono fun x w' ⟨h1, h2⟩ => ⟨h1, by rw [h2]; exact Below.refl _ _⟩
  · rw [if_neg h]
    exact (newCaller_c n e (by omega) (by omega) w).mono fun x w' ⟨h1, _, h2⟩ => ⟨h1, h2⟩
set_option maxHeartbeats 4000000 in
theorem none_lo (x : Dr) (n : Int) (w : World) (hn : n < 1) :
    Calls Try.prog 8 #[x.val, .int .u8 n] w fun e w' => e = .returned (.bool true) ∧ Below w.heap.size w w' := by
  unfold Dr.val
  have b0 : Below w.heap.size w (w.alloc (.cells #[.int .i64 x.k, .string x.s, .int .u64 x.now, .int .u8 x.p.k, .int .u8 x.p.f, .int .u8 x.p.t, .int .u32 x.p.e, .int .u32 x.p.s, .string x.p.b, .int .u8 x.c, .bool x.own] 62)) := (Below.refl _ _).alloc (Nat.le_refl _) _
  have D0 : Hid (DrAt (w.alloc (.cells #[.int .i64 x.k, .string x.s, .int .u64 x.now, .int .u8 x.p.k, .int .u8 x.p.f, .int .u8 x.p.t, .int .u32 x.p.e, .int .u32 x.p.s, .string x.p.b, .int .u8 x.c, .bool x.own] 62)) w.heap.size x) := heap_alloc_new w _
  have B0 := hid b0
  clear b0
  have KT : Hid (∀ W, Calls Try.prog 17 #[.pointer none, .agg #[.int .u8 x.p.k, .int .u8 x.p.f, .int .u8 x.p.t, .int .u32 x.p.e, .int .u32 x.p.s, .string x.p.b]] W fun e w' => e = .returned (.tuple #[.string ⟨#[]⟩, .bool false, .agg #[.int .u8 0, .int .u8 0, .int .u8 0, .int .u32 0, .int .u32 0, .string ⟨#[]⟩], .bool false]) ∧ Below W.heap.size W w') := fun W => ktake_nil x.p W
  have TK : Hid (∀ W, Calls Try.prog 25 #[.pointer none, .agg #[.int .u8 x.p.k, .int .u8 x.p.f, .int .u8 x.p.t, .int .u32 x.p.e, .int .u32 x.p.s, .string x.p.b]] W fun e w' => e = .returned (.tuple #[.string ⟨#[]⟩, .bool false]) ∧ Below W.heap.size W w') := fun W => take_nil x.p W
  have NC : Hid (∀ W, Calls Try.prog 12 #[.int .u8 n, .int .u32 1] W fun e w' => e = .returned (.pointer none) ∧ Below W.heap.size W w') := fun W => by
    have := newCaller_any n 1 W
    rwa [show ncP n W = .pointer none from by unfold ncP; rw [if_pos (by omega)]] at this
  go_enter Try.func8, Try.ntmps8
  go_wp2_with fail
  generalize (w.alloc (.cells #[.int .i64 x.k, .string x.s, .int .u64 x.now, .int .u8 x.p.k, .int .u8 x.p.f, .int .u8 x.p.t, .int .u32 x.p.e, .int .u32 x.p.s, .string x.p.b, .int .u8 x.c, .bool x.own] 62)) = W0 at *
  refine (tick_nil _ _).mono ?_
  rintro _ w1 ⟨rfl, hb1⟩
  rw [show Fr.val zpk = .agg #[.int .u8 0, .int .u8 0, .int .u8 0, .int .u32 0, .int .u32 0, .string ⟨#[]⟩] from rfl]
  have c1 : Below w1.heap.size w1 (w1.alloc (.cells #[.int .u8 0, .int .u8 0, .int .u8 0, .int .u32 0, .int .u32 0, .string ⟨#[]⟩] 39)) := (Below.refl _ _).alloc (Nat.le_refl _) _
  have P1 : Hid (PkAt (w1.alloc (.cells #[.int .u8 0, .int .u8 0, .int .u8 0, .int .u32 0, .int .u32 0, .string ⟨#[]⟩] 39)) w1.heap.size zpk) := PkAt.new w1 zpk
  have D1 := hid ((D0.out.later hb1).later c1)
  have b1 := B0.out.trans (hb1.mono B0.out.size)
  have B1 := hid (b1.trans (c1.mono b1.size))
  have l1 : w.heap.size < w1.heap.size := (D0.out.later hb1).lt
  have n1 : ¬ w.heap.size = w1.heap.size := by omega
  obtain ⟨d0, d1, d2, d3, d4, d5, d6, d7, d8, d9, d10⟩ := (D0.out.later hb1).cells
  clear hb1 c1 b1
  go_wp2_with fail
  generalize (w1.alloc (.cells #[.int .u8 0, .int .u8 0, .int .u8 0, .int .u32 0, .int .u32 0, .string ⟨#[]⟩] 39)) = W1 at *
  refine (TK.out _).mono ?_
  rintro _ w2 ⟨rfl, hb2⟩
  have D2 := hid (D1.out.later hb2)
  have P2 := hid (P1.out.later hb2)
  have B2 := hid (B1.out.trans (hb2.mono B1.out.size))
  clear hb2 d0 d1 d2 d3 d4 d5 d6 d7 d8 d9 d10
  obtain ⟨d0, d1, d2, d3, d4, d5, d6, d7, d8, d9, d10⟩ := D2.out.cells
  go_wp2_with fail
  refine (KT.out _).mono ?_
  rintro _ w3 ⟨rfl, hb3⟩
  have c3 : Below w3.heap.size w3 (w3.alloc (.cells #[.int .u8 0, .int .u8 0, .int .u8 0, .int .u32 0, .int .u32 0, .string ⟨#[]⟩] 39)) := (Below.refl _ _).alloc (Nat.le_refl _) _
  have Q3 : Hid (PkAt (w3.alloc (.cells #[.int .u8 0, .int .u8 0, .int .u8 0, .int .u32 0, .int .u32 0, .string ⟨#[]⟩] 39)) w3.heap.size zpk) := PkAt.new w3 zpk
  have P3 := hid ((P2.out.later hb3).later c3)
  have D3 := hid ((D2.out.later hb3).later c3)
  have b3 := B2.out.trans (hb3.mono B2.out.size)
  have B3 := hid (b3.trans (c3.mono b3.size))
  have l3 : w.heap.size < w3.heap.size := (D2.out.later hb3).lt
  have n3 : ¬ w.heap.size = w3.heap.size := by omega
  clear d0 d1 d2 d3 d4 d5 d6 d7 d8 d9 d10
  obtain ⟨d0, d1, d2, d3, d4, d5, d6, d7, d8, d9, d10⟩ := (D2.out.later hb3).cells
  clear hb3 c3 b3
  go_wp2_with fail
  generalize (w3.alloc (.cells #[.int .u8 0, .int .u8 0, .int .u8 0, .int .u32 0, .int .u32 0, .string ⟨#[]⟩] 39)) = W3 at *
  refine (reply_nil _ _ _).mono ?_
  rintro _ w4 ⟨rfl, hb4⟩
  rw [show Fr.val zpk = .agg #[.int .u8 0, .int .u8 0, .int .u8 0, .int .u32 0, .int .u32 0, .string ⟨#[]⟩] from rfl]
  have c4 : Below w4.heap.size w4 (w4.alloc (.cells #[.int .u8 0, .int .u8 0, .int .u8 0, .int .u32 0, .int .u32 0, .string ⟨#[]⟩] 39)) := (Below.refl _ _).alloc (Nat.le_refl _) _
  have R4 : Hid (PkAt (w4.alloc (.cells #[.int .u8 0, .int .u8 0, .int .u8 0, .int .u32 0, .int .u32 0, .string ⟨#[]⟩] 39)) w4.heap.size zpk) := PkAt.new w4 zpk
  have P4 := hid ((P3.out.later hb4).later c4)
  have Q4 := hid ((Q3.out.later hb4).later c4)
  have D4 := hid ((D3.out.later hb4).later c4)
  have b4 := B3.out.trans (hb4.mono B3.out.size)
  have B4 := hid (b4.trans (c4.mono b4.size))
  clear hb4 c4 b4 d0 d1 d2 d3 d4 d5 d6 d7 d8 d9 d10
  go_wp2_with fail
  generalize (w4.alloc (.cells #[.int .u8 0, .int .u8 0, .int .u8 0, .int .u32 0, .int .u32 0, .string ⟨#[]⟩] 39)) = W4 at *
  refine (rlive_c _).mono ?_
  rintro _ w5 ⟨rfl, hb5⟩
  obtain ⟨d0, d1, d2, d3, d4, d5, d6, d7, d8, d9, d10⟩ := (D4.out.later hb5).cells
  obtain ⟨p0, p1, p2, p3, p4, p5, _⟩ := (P4.out.later hb5).cells
  obtain ⟨q0, q1, q2, q3, q4, q5, _⟩ := (Q4.out.later hb5).cells
  obtain ⟨r0, r1, r2, r3, r4, r5, _⟩ := (R4.out.later hb5).cells
  simp only [zpk] at p0 p1 p2 p3 p4 p5 q0 q1 q2 q3 q4 q5 r0 r1 r2 r3 r4 r5
  have B5 := hid (B4.out.trans (hb5.mono B4.out.size))
  clear hb5
  go_wp2_with (first
    | (go_at_call 14; refine (call_nil _ _).mono ?_; rintro _ v1 ⟨rfl, hv⟩; rw [hv])
    | (go_at_call 16; refine (cancel_nil _).mono ?_; rintro _ v1 ⟨rfl, hv⟩; rw [hv])
    | (go_at_call 20; refine (busy_nil _).mono ?_; rintro _ v1 ⟨rfl, hv⟩; rw [hv])
    | (go_at_call 19; refine (down_nil _).mono ?_; rintro _ v1 ⟨rfl, hv⟩; rw [hv])
    | (go_at_call 21; refine (fork_nil _).mono ?_; rintro _ v1 ⟨rfl, hv⟩; rw [hv])
    | (go_at_call 26; refine (bytes_nil _).mono ?_; rintro _ v1 ⟨rfl, hv⟩; rw [hv])
    | (go_at_call 12; refine (NC.out _).mono ?_; rintro _ v9 ⟨rfl, hb9⟩))
  go_ret
  exact ⟨by first | rfl | exact ret_bool (by simp; omega), B5.out.trans (hb9.mono B5.out.size)⟩
set_option maxHeartbeats 4000000 in
theorem none_mid (x : Dr) (n : Int) (w : World) (h1 : ¬ n < 1) (h3 : ¬ 3 < n) :
    Calls Try.prog 8 #[x.val, .int .u8 n] w fun e w' => e = .returned (.bool true) ∧ Below w.heap.size w w' := by
  unfold Dr.val
  have h1d : decide (n < 1) = false := decide_eq_false h1
  have h3d : decide (3 < n) = false := decide_eq_false h3
  have b0 : Below w.heap.size w (w.alloc (.cells #[.int .i64 x.k, .string x.s, .int .u64 x.now, .int .u8 x.p.k, .int .u8 x.p.f, .int .u8 x.p.t, .int .u32 x.p.e, .int .u32 x.p.s, .string x.p.b, .int .u8 x.c, .bool x.own] 62)) := (Below.refl _ _).alloc (Nat.le_refl _) _
  have D0 : Hid (DrAt (w.alloc (.cells #[.int .i64 x.k, .string x.s, .int .u64 x.now, .int .u8 x.p.k, .int .u8 x.p.f, .int .u8 x.p.t, .int .u32 x.p.e, .int .u32 x.p.s, .string x.p.b, .int .u8 x.c, .bool x.own] 62)) w.heap.size x) := heap_alloc_new w _
  have B0 := hid b0
  clear b0
  have KT : Hid (∀ W, Calls Try.prog 17 #[.pointer none, .agg #[.int .u8 x.p.k, .int .u8 x.p.f, .int .u8 x.p.t, .int .u32 x.p.e, .int .u32 x.p.s, .string x.p.b]] W fun e w' => e = .returned (.tuple #[.string ⟨#[]⟩, .bool false, .agg #[.int .u8 0, .int .u8 0, .int .u8 0, .int .u32 0, .int .u32 0, .string ⟨#[]⟩], .bool false]) ∧ Below W.heap.size W w') := fun W => ktake_nil x.p W
  have TK : Hid (∀ W, Calls Try.prog 25 #[.pointer none, .agg #[.int .u8 x.p.k, .int .u8 x.p.f, .int .u8 x.p.t, .int .u32 x.p.e, .int .u32 x.p.s, .string x.p.b]] W fun e w' => e = .returned (.tuple #[.string ⟨#[]⟩, .bool false]) ∧ Below W.heap.size W w') := fun W => take_nil x.p W
  have NC : Hid (∀ W, Calls Try.prog 12 #[.int .u8 n, .int .u32 1] W fun e w' => e = .returned (pC W.heap.size) ∧ Below W.heap.size W w') := fun W => by
    have := newCaller_any n 1 W
    rwa [show ncP n W = pC W.heap.size from by unfold ncP; rw [if_neg (by omega)]] at this
  go_enter Try.func8, Try.ntmps8
  go_wp2_with fail
  generalize (w.alloc (.cells #[.int .i64 x.k, .string x.s, .int .u64 x.now, .int .u8 x.p.k, .int .u8 x.p.f, .int .u8 x.p.t, .int .u32 x.p.e, .int .u32 x.p.s, .string x.p.b, .int .u8 x.c, .bool x.own] 62)) = W0 at *
  refine (tick_nil _ _).mono ?_
  rintro _ w1 ⟨rfl, hb1⟩
  rw [show Fr.val zpk = .agg #[.int .u8 0, .int .u8 0, .int .u8 0, .int .u32 0, .int .u32 0, .string ⟨#[]⟩] from rfl]
  have c1 : Below w1.heap.size w1 (w1.alloc (.cells #[.int .u8 0, .int .u8 0, .int .u8 0, .int .u32 0, .int .u32 0, .string ⟨#[]⟩] 39)) := (Below.refl _ _).alloc (Nat.le_refl _) _
  have P1 : Hid (PkAt (w1.alloc (.cells #[.int .u8 0, .int .u8 0, .int .u8 0, .int .u32 0, .int .u32 0, .string ⟨#[]⟩] 39)) w1.heap.size zpk) := PkAt.new w1 zpk
  have D1 := hid ((D0.out.later hb1).later c1)
  have b1 := B0.out.trans (hb1.mono B0.out.size)
  have B1 := hid (b1.trans (c1.mono b1.size))
  have l1 : w.heap.size < w1.heap.size := (D0.out.later hb1).lt
  have n1 : ¬ w.heap.size = w1.heap.size := by omega
  obtain ⟨d0, d1, d2, d3, d4, d5, d6, d7, d8, d9, d10⟩ := (D0.out.later hb1).cells
  clear hb1 c1 b1
  go_wp2_with fail
  generalize (w1.alloc (.cells #[.int .u8 0, .int .u8 0, .int .u8 0, .int .u32 0, .int .u32 0, .string ⟨#[]⟩] 39)) = W1 at *
  refine (TK.out _).mono ?_
  rintro _ w2 ⟨rfl, hb2⟩
  have D2 := hid (D1.out.later hb2)
  have P2 := hid (P1.out.later hb2)
  have B2 := hid (B1.out.trans (hb2.mono B1.out.size))
  clear hb2 d0 d1 d2 d3 d4 d5 d6 d7 d8 d9 d10
  obtain ⟨d0, d1, d2, d3, d4, d5, d6, d7, d8, d9, d10⟩ := D2.out.cells
  go_wp2_with fail
  refine (KT.out _).mono ?_
  rintro _ w3 ⟨rfl, hb3⟩
  have c3 : Below w3.heap.size w3 (w3.alloc (.cells #[.int .u8 0, .int .u8 0, .int .u8 0, .int .u32 0, .int .u32 0, .string ⟨#[]⟩] 39)) := (Below.refl _ _).alloc (Nat.le_refl _) _
  have Q3 : Hid (PkAt (w3.alloc (.cells #[.int .u8 0, .int .u8 0, .int .u8 0, .int .u32 0, .int .u32 0, .string ⟨#[]⟩] 39)) w3.heap.size zpk) := PkAt.new w3 zpk
  have P3 := hid ((P2.out.later hb3).later c3)
  have D3 := hid ((D2.out.later hb3).later c3)
  have b3 := B2.out.trans (hb3.mono B2.out.size)
  have B3 := hid (b3.trans (c3.mono b3.size))
  have l3 : w.heap.size < w3.heap.size := (D2.out.later hb3).lt
  have n3 : ¬ w.heap.size = w3.heap.size := by omega
  clear d0 d1 d2 d3 d4 d5 d6 d7 d8 d9 d10
  obtain ⟨d0, d1, d2, d3, d4, d5, d6, d7, d8, d9, d10⟩ := (D2.out.later hb3).cells
  clear hb3 c3 b3
  go_wp2_with fail
  generalize (w3.alloc (.cells #[.int .u8 0, .int .u8 0, .int .u8 0, .int .u32 0, .int .u32 0, .string ⟨#[]⟩] 39)) = W3 at *
  refine (reply_nil _ _ _).mono ?_
  rintro _ w4 ⟨rfl, hb4⟩
  rw [show Fr.val zpk = .agg #[.int .u8 0, .int .u8 0, .int .u8 0, .int .u32 0, .int .u32 0, .string ⟨#[]⟩] from rfl]
  have c4 : Below w4.heap.size w4 (w4.alloc (.cells #[.int .u8 0, .int .u8 0, .int .u8 0, .int .u32 0, .int .u32 0, .string ⟨#[]⟩] 39)) := (Below.refl _ _).alloc (Nat.le_refl _) _
  have R4 : Hid (PkAt (w4.alloc (.cells #[.int .u8 0, .int .u8 0, .int .u8 0, .int .u32 0, .int .u32 0, .string ⟨#[]⟩] 39)) w4.heap.size zpk) := PkAt.new w4 zpk
  have P4 := hid ((P3.out.later hb4).later c4)
  have Q4 := hid ((Q3.out.later hb4).later c4)
  have D4 := hid ((D3.out.later hb4).later c4)
  have b4 := B3.out.trans (hb4.mono B3.out.size)
  have B4 := hid (b4.trans (c4.mono b4.size))
  clear hb4 c4 b4 d0 d1 d2 d3 d4 d5 d6 d7 d8 d9 d10
  go_wp2_with fail
  generalize (w4.alloc (.cells #[.int .u8 0, .int .u8 0, .int .u8 0, .int .u32 0, .int .u32 0, .string ⟨#[]⟩] 39)) = W4 at *
  refine (rlive_c _).mono ?_
  rintro _ w5 ⟨rfl, hb5⟩
  obtain ⟨d0, d1, d2, d3, d4, d5, d6, d7, d8, d9, d10⟩ := (D4.out.later hb5).cells
  obtain ⟨p0, p1, p2, p3, p4, p5, _⟩ := (P4.out.later hb5).cells
  obtain ⟨q0, q1, q2, q3, q4, q5, _⟩ := (Q4.out.later hb5).cells
  obtain ⟨r0, r1, r2, r3, r4, r5, _⟩ := (R4.out.later hb5).cells
  simp only [zpk] at p0 p1 p2 p3 p4 p5 q0 q1 q2 q3 q4 q5 r0 r1 r2 r3 r4 r5
  have B5 := hid (B4.out.trans (hb5.mono B4.out.size))
  clear hb5
  go_wp2_with (first
    | (go_at_call 14; refine (call_nil _ _).mono ?_; rintro _ v1 ⟨rfl, hv⟩; rw [hv])
    | (go_at_call 16; refine (cancel_nil _).mono ?_; rintro _ v1 ⟨rfl, hv⟩; rw [hv])
    | (go_at_call 20; refine (busy_nil _).mono ?_; rintro _ v1 ⟨rfl, hv⟩; rw [hv])
    | (go_at_call 19; refine (down_nil _).mono ?_; rintro _ v1 ⟨rfl, hv⟩; rw [hv])
    | (go_at_call 21; refine (fork_nil _).mono ?_; rintro _ v1 ⟨rfl, hv⟩; rw [hv])
    | (go_at_call 26; refine (bytes_nil _).mono ?_; rintro _ v1 ⟨rfl, hv⟩; rw [hv])
    | (go_at_call 12; refine (NC.out _).mono ?_; rintro _ v9 ⟨rfl, hb9⟩))
  go_ret
  exact ⟨by first | rfl | exact ret_bool (by simp; omega), B5.out.trans (hb9.mono B5.out.size)⟩
set_option maxHeartbeats 4000000 in
theorem none_hi (x : Dr) (n : Int) (w : World) (h1 : ¬ n < 1) (h3 : 3 < n) :
    Calls Try.prog 8 #[x.val, .int .u8 n] w fun e w' => e = .returned (.bool true) ∧ Below w.heap.size w w' := by
  unfold Dr.val
  have h1d : decide (n < 1) = false := decide_eq_false h1
  have b0 : Below w.heap.size w (w.alloc (.cells #[.int .i64 x.k, .string x.s, .int .u64 x.now, .int .u8 x.p.k, .int .u8 x.p.f, .int .u8 x.p.t, .int .u32 x.p.e, .int .u32 x.p.s, .string x.p.b, .int .u8 x.c, .bool x.own] 62)) := (Below.refl _ _).alloc (Nat.le_refl _) _
  have D0 : Hid (DrAt (w.alloc (.cells #[.int .i64 x.k, .string x.s, .int .u64 x.now, .int .u8 x.p.k, .int .u8 x.p.f, .int .u8 x.p.t, .int .u32 x.p.e, .int .u32 x.p.s, .string x.p.b, .int .u8 x.c, .bool x.own] 62)) w.heap.size x) := heap_alloc_new w _
  have B0 := hid b0
  clear b0
  have KT : Hid (∀ W, Calls Try.prog 17 #[.pointer none, .agg #[.int .u8 x.p.k, .int .u8 x.p.f, .int .u8 x.p.t, .int .u32 x.p.e, .int .u32 x.p.s, .string x.p.b]] W fun e w' => e = .returned (.tuple #[.string ⟨#[]⟩, .bool false, .agg #[.int .u8 0, .int .u8 0, .int .u8 0, .int .u32 0, .int .u32 0, .string ⟨#[]⟩], .bool false]) ∧ Below W.heap.size W w') := fun W => ktake_nil x.p W
  have TK : Hid (∀ W, Calls Try.prog 25 #[.pointer none, .agg #[.int .u8 x.p.k, .int .u8 x.p.f, .int .u8 x.p.t, .int .u32 x.p.e, .int .u32 x.p.s, .string x.p.b]] W fun e w' => e = .returned (.tuple #[.string ⟨#[]⟩, .bool false]) ∧ Below W.heap.size W w') := fun W => take_nil x.p W
  have NC : Hid (∀ W, Calls Try.prog 12 #[.int .u8 n, .int .u32 1] W fun e w' => e = .returned (.pointer none) ∧ Below W.heap.size W w') := fun W => by
    have := newCaller_any n 1 W
    rwa [show ncP n W = .pointer none from by unfold ncP; rw [if_pos (by omega)]] at this
  go_enter Try.func8, Try.ntmps8
  go_wp2_with fail
  generalize (w.alloc (.cells #[.int .i64 x.k, .string x.s, .int .u64 x.now, .int .u8 x.p.k, .int .u8 x.p.f, .int .u8 x.p.t, .int .u32 x.p.e, .int .u32 x.p.s, .string x.p.b, .int .u8 x.c, .bool x.own] 62)) = W0 at *
  refine (tick_nil _ _).mono ?_
  rintro _ w1 ⟨rfl, hb1⟩
  rw [show Fr.val zpk = .agg #[.int .u8 0, .int .u8 0, .int .u8 0, .int .u32 0, .int .u32 0, .string ⟨#[]⟩] from rfl]
  have c1 : Below w1.heap.size w1 (w1.alloc (.cells #[.int .u8 0, .int .u8 0, .int .u8 0, .int .u32 0, .int .u32 0, .string ⟨#[]⟩] 39)) := (Below.refl _ _).alloc (Nat.le_refl _) _
  have P1 : Hid (PkAt (w1.alloc (.cells #[.int .u8 0, .int .u8 0, .int .u8 0, .int .u32 0, .int .u32 0, .string ⟨#[]⟩] 39)) w1.heap.size zpk) := PkAt.new w1 zpk
  have D1 := hid ((D0.out.later hb1).later c1)
  have b1 := B0.out.trans (hb1.mono B0.out.size)
  have B1 := hid (b1.trans (c1.mono b1.size))
  have l1 : w.heap.size < w1.heap.size := (D0.out.later hb1).lt
  have n1 : ¬ w.heap.size = w1.heap.size := by omega
  obtain ⟨d0, d1, d2, d3, d4, d5, d6, d7, d8, d9, d10⟩ := (D0.out.later hb1).cells
  clear hb1 c1 b1
  go_wp2_with fail
  generalize (w1.alloc (.cells #[.int .u8 0, .int .u8 0, .int .u8 0, .int .u32 0, .int .u32 0, .string ⟨#[]⟩] 39)) = W1 at *
  refine (TK.out _).mono ?_
  rintro _ w2 ⟨rfl, hb2⟩
  have D2 := hid (D1.out.later hb2)
  have P2 := hid (P1.out.later hb2)
  have B2 := hid (B1.out.trans (hb2.mono B1.out.size))
  clear hb2 d0 d1 d2 d3 d4 d5 d6 d7 d8 d9 d10
  obtain ⟨d0, d1, d2, d3, d4, d5, d6, d7, d8, d9, d10⟩ := D2.out.cells
  go_wp2_with fail
  refine (KT.out _).mono ?_
  rintro _ w3 ⟨rfl, hb3⟩
  have c3 : Below w3.heap.size w3 (w3.alloc (.cells #[.int .u8 0, .int .u8 0, .int .u8 0, .int .u32 0, .int .u32 0, .string ⟨#[]⟩] 39)) := (Below.refl _ _).alloc (Nat.le_refl _) _
  have Q3 : Hid (PkAt (w3.alloc (.cells #[.int .u8 0, .int .u8 0, .int .u8 0, .int .u32 0, .int .u32 0, .string ⟨#[]⟩] 39)) w3.heap.size zpk) := PkAt.new w3 zpk
  have P3 := hid ((P2.out.later hb3).later c3)
  have D3 := hid ((D2.out.later hb3).later c3)
  have b3 := B2.out.trans (hb3.mono B2.out.size)
  have B3 := hid (b3.trans (c3.mono b3.size))
  have l3 : w.heap.size < w3.heap.size := (D2.out.later hb3).lt
  have n3 : ¬ w.heap.size = w3.heap.size := by omega
  clear d0 d1 d2 d3 d4 d5 d6 d7 d8 d9 d10
  obtain ⟨d0, d1, d2, d3, d4, d5, d6, d7, d8, d9, d10⟩ := (D2.out.later hb3).cells
  clear hb3 c3 b3
  go_wp2_with fail
  generalize (w3.alloc (.cells #[.int .u8 0, .int .u8 0, .int .u8 0, .int .u32 0, .int .u32 0, .string ⟨#[]⟩] 39)) = W3 at *
  refine (reply_nil _ _ _).mono ?_
  rintro _ w4 ⟨rfl, hb4⟩
  rw [show Fr.val zpk = .agg #[.int .u8 0, .int .u8 0, .int .u8 0, .int .u32 0, .int .u32 0, .string ⟨#[]⟩] from rfl]
  have c4 : Below w4.heap.size w4 (w4.alloc (.cells #[.int .u8 0, .int .u8 0, .int .u8 0, .int .u32 0, .int .u32 0, .string ⟨#[]⟩] 39)) := (Below.refl _ _).alloc (Nat.le_refl _) _
  have R4 : Hid (PkAt (w4.alloc (.cells #[.int .u8 0, .int .u8 0, .int .u8 0, .int .u32 0, .int .u32 0, .string ⟨#[]⟩] 39)) w4.heap.size zpk) := PkAt.new w4 zpk
  have P4 := hid ((P3.out.later hb4).later c4)
  have Q4 := hid ((Q3.out.later hb4).later c4)
  have D4 := hid ((D3.out.later hb4).later c4)
  have b4 := B3.out.trans (hb4.mono B3.out.size)
  have B4 := hid (b4.trans (c4.mono b4.size))
  clear hb4 c4 b4 d0 d1 d2 d3 d4 d5 d6 d7 d8 d9 d10
  go_wp2_with fail
  generalize (w4.alloc (.cells #[.int .u8 0, .int .u8 0, .int .u8 0, .int .u32 0, .int .u32 0, .string ⟨#[]⟩] 39)) = W4 at *
  refine (rlive_c _).mono ?_
  rintro _ w5 ⟨rfl, hb5⟩
  obtain ⟨d0, d1, d2, d3, d4, d5, d6, d7, d8, d9, d10⟩ := (D4.out.later hb5).cells
  obtain ⟨p0, p1, p2, p3, p4, p5, _⟩ := (P4.out.later hb5).cells
  obtain ⟨q0, q1, q2, q3, q4, q5, _⟩ := (Q4.out.later hb5).cells
  obtain ⟨r0, r1, r2, r3, r4, r5, _⟩ := (R4.out.later hb5).cells
  simp only [zpk] at p0 p1 p2 p3 p4 p5 q0 q1 q2 q3 q4 q5 r0 r1 r2 r3 r4 r5
  have B5 := hid (B4.out.trans (hb5.mono B4.out.size))
  clear hb5
  go_wp2_with (first
    | (go_at_call 14; refine (call_nil _ _).mono ?_; rintro _ v1 ⟨rfl, hv⟩; rw [hv])
    | (go_at_call 16; refine (cancel_nil _).mono ?_; rintro _ v1 ⟨rfl, hv⟩; rw [hv])
    | (go_at_call 20; refine (busy_nil _).mono ?_; rintro _ v1 ⟨rfl, hv⟩; rw [hv])
    | (go_at_call 19; refine (down_nil _).mono ?_; rintro _ v1 ⟨rfl, hv⟩; rw [hv])
    | (go_at_call 21; refine (fork_nil _).mono ?_; rintro _ v1 ⟨rfl, hv⟩; rw [hv])
    | (go_at_call 26; refine (bytes_nil _).mono ?_; rintro _ v1 ⟨rfl, hv⟩; rw [hv])
    | (go_at_call 12; refine (NC.out _).mono ?_; rintro _ v9 ⟨rfl, hb9⟩))
  go_ret
  exact ⟨by first | rfl | exact ret_bool (by simp; omega), B5.out.trans (hb9.mono B5.out.size)⟩
theorem rpcNone_walk (x : Dr) (hx : x.Wf) (n : Int) (wn : (Lit.int .u8 n).wf = true) (w : World) :
    Calls Try.prog 8 #[x.val, .int .u8 n] w fun e w' => e = .returned (.bool true) ∧ Below w.heap.size w w' := by
  by_cases h1 : n < 1
  · exact none_lo x n w h1
  · by_cases h3 : 3 < n
    · exact none_hi x n w h1 h3
    · exact none_mid x n w h1 h3
/-! ### The row of RpcNone -/
theorem rpcNone_own : ownKnob Try.prog.godebug = none := by kernel_rfl
theorem rpcNone_laidOut : laidOutB Try.prog = true := by kernel_rfl
set_option maxRecDepth 100000 in
theorem rpcNone_lifted (os : Os) (started : os.Started) (H : Type) (enc : TypeId × Value → H) :
    ReturnsInHanded {} Try.checked os 8 .any (Rows.rpcNoneSpec.pre6 enc Try.prog Try.f8 Rows.rpcNoneRow.domain false) (Rows.rpcNoneSpec.post enc Try.prog Try.f8 false true false false) := by
  refine returnsInHanded_of_change (C := Try.checked) rpcNone_own started (by kernel_rfl) Try.func8
    (ChangeSpec.witness6 (enc := enc) (C := Try.checked) false ⟨#[], #[.agg #[.int .i64 0, .string ByteArray.empty, .int .u64 0, .int .u8 0, .int .u8 0, .int .u8 0, .int .u32 0, .int .u32 0, .string ByteArray.empty, .int .u8 0, .bool false], .int .u8 0], []⟩ 8 (by kernel_rfl) (by kernel_rfl) (by kernel_rfl) (by kernel_rfl)) ?_
  intro W base args ds gs before hval0 hW hcnd _
  have hval : ∀ (j : Nat) t v, Try.f8.params[j]? = some t → args[j]? = some v → Value.okWide Try.prog W .any base t v := hval0
  have hW' := hW
  obtain ⟨p, q, hA0, hV, rfl, hfz, hnd⟩ := hW
  have hA : DataW.TrodAll enc Try.prog W 0 (fun _ => true) true Try.f8.params.toList args.toList ds p := hA0
  rw [Try.params8] at hA hval
  obtain ⟨v0, vs0, d0, ds0, p0, q0, hargs, rfl, rfl, h0, r0⟩ := trodAll_cons hA
  obtain ⟨v1, vs1, d1, ds1, p1, q1, rfl, rfl, rfl, h1, r1⟩ := trodAll_cons r0
  obtain ⟨rfl, rfl, rfl⟩ := trodAll_nil r1
  obtain rfl : args = #[v0, v1] := by cases args; simp_all
  obtain ⟨rfl, rfl⟩ := trodVars_none hV
  have k0 := h0
  have lt0 : ∀ x ∈ p0, x.block < W.heap.size := by obtain ⟨m, hm⟩ := k0; exact DataW.trod_lt m _ _ _ hm
  obtain ⟨q0, rfl, wq0⟩ := open_dr (hval 0 62 v0 rfl rfl) h0
  obtain ⟨a1, rfl, rfl, rfl, w1⟩ := open_int Try.underlying5 (hval 1 5 v1 rfl rfl) h1
  clear hA0 hval0
  refine (rpcNone_walk q0 wq0 a1 w1 W).mono fun e W' ⟨he, bel⟩ => ?_
  subst he
  exact ⟨_, rfl, _, _, _, [], _, [], hW', trodAll_mk1 (shut_bool Try.underlying4 _), (trodAll_cons_mk (Below.trod rpcNone_laidOut (by kernel_rfl) (of_decide_eq_true (by kernel_rfl)) k0 bel lt0) (trodAll_cons_mk (shut_int Try.underlying5 w1) trodAll_mk0)), rfl, bel.frame _, fun h => by cases h⟩
theorem rpcNone_over : Rows.rpcNoneRow.holds Try.pinned (OpenSpec.ofChange Rows.rpcNoneSpec) :=
  OpenClaim.holds_of_wide 8 Try.f8 rfl rfl rfl rfl rfl rfl rfl ⟨rfl, rfl, rfl, rfl, rfl⟩ rfl rfl rfl rfl rfl (by kernel_rfl) Try.func8 (by kernel_rfl)
    (of_decide_eq_true (by kernel_rfl)) (by unfold Func.isWrapper; first | (rw [if_pos (by decide +kernel)]; kernel_rfl) | (rw [if_neg (by decide +kernel)]; exact ⟨rfl, rfl⟩))
    (fun os started H enc _ => rpcNone_lifted os started H enc)
/-- The statement. -/
theorem rpcNone_holds : Rows.RpcNoneSaid := rpcNone_over
#print axioms rpcNone_holds

end Go.Proofs.Ytjgpolaogneoaaa
