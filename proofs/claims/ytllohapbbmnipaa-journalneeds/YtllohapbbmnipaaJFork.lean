/-
  Fork of the package disk; Open, Free, Disk, Fork of the package journal.
-/
import Derived.Test.YtllohapbbmnipaaJReset
import Derived.Test.YtllohapbbmnipaaClo
namespace Go.Proofs.Ytllohapbbmnipaa
open Go.RowKit Go.ChangeShapes Go.WideShapes Go.ChangeAt Go.Maps
set_option linter.unusedVariables false
set_option linter.unusedSimpArgs false
theorem clone_c {w : World} {b N : Nat} {f : Int → Option Sec} (h : IsM w b N f) : Calls Try.prog 64 #[.map (some b)] w fun e w' => e = .returned (.map (some w.heap.size)) ∧ IsM w' w.heap.size N f ∧ Below w.heap.size w w' ∧ w'.heap.size = w.heap.size + 1 := by
  obtain ⟨⟨D, ⟨es, clock, hb, F, hs, hD⟩, hf⟩, h2⟩ := h
  refine (AnyW.maps_Clone Try.cloneA b es clock w hb).mono fun e w' ⟨he, hw⟩ => ?_
  subst hw
  exact ⟨he, ⟨⟨D, ⟨es, clock, (MapKept.heap_alloc w _).1, F, hs, hD⟩, hf⟩, h2⟩, (Below.refl _ w).alloc (Nat.le_refl _) _, by simp⟩
set_option maxRecDepth 100000 in
set_option maxHeartbeats 2000000 in
theorem fork_c {w : World} {d b1 b2 N : Nat} {on : Int → Sec} {c : Int → Option Sec} (h : IsD w d b1 b2 N on c) :
    Calls Try.prog 45 #[pD d] w fun e w' => ∃ d' p1 p2, e = .returned (pD d') ∧ IsD w' d' p1 p2 N on c ∧ (w.heap.size ≤ d' ∧ w.heap.size ≤ p1 ∧ w.heap.size ≤ p2) ∧ Below w.heap.size w w' := by
  obtain ⟨c0, c1, c2, l0, l1, l2, d1, d2, d3⟩ := h.cells
  obtain ⟨m, hm, he⟩ := h.2.2.2.2.2
  have HD : Hid (IsD w.drew d b1 b2 N on c) := h
  have HM1 : Hid (IsM w.drew b1 N m) := hm
  have HM2 : Hid (IsM w.drew b2 N c) := h.2.2.2.2.1
  have HE := hid he
  have HN := hid (And.intro h.2.2.1 h.2.2.2.1)
  clear h hm he l1 l2 d1 d2 d3
  go_enter Try.func45, Try.ntmps45
  go_wp2
  go_region_held3 (fun w' => w'.cell? ⟨d, 0, none⟩ = some (.int .i64 N) ∧ w'.cell? ⟨d, 1, none⟩ = some (.map (some b1)) ∧ w'.cell? ⟨d, 2, none⟩ = some (.map (some b2))) (first | go_keep | exact ⟨S2.out.cells.1, S2.out.cells.2.1, S2.out.cells.2.2.1⟩ | exact ⟨S1.out.cells.1, S1.out.cells.2.1, S1.out.cells.2.2.1⟩)
    (first
      | (go_at_call 64; refine (clone_c HM1.out).mono ?_; rintro _ w1 ⟨rfl, k1, hb1, hs1⟩; have K1 := hid k1; have S1 := hid (HD.out.later hb1); have M1 := hid (HM2.out.out (Out.of (S := fun _ => False) hb1) id); have B1 := hid hb1; have Z1 := hid hs1)
      | (go_at_call 64; refine (clone_c M1.out).mono ?_; rintro _ w2 ⟨rfl, k2, hb2, hs2⟩; have K2 := hid k2; have S2 := hid (S1.out.later hb2); have M2 := hid (K1.out.out (Out.of (S := fun _ => False) hb2) id); have B2 := hid hb2; have Z2 := hid hs2))
  go_wp2
  go_ret
  have z1 : w1.heap.size = w.heap.size + 1 := Z1.out
  have z2 : w2.heap.size = w.heap.size + 1 + 1 := by rw [Z2.out, z1]
  have q2 := K2.out
  rw [z1] at q2
  have q1 : IsM w2 w.heap.size N m := M2.out
  have hb : Below w.heap.size w w2 := (((Below.refl _ w).drew).trans B1.out).trans (B2.out.mono (by omega))
  have hn := heap_alloc_new w2 (.cells #[.int .i64 N, .map (some w.heap.size), .map (some (w.heap.size + 1))] 89 (0, 0))
  rw [z2] at hn
  have ho : Out (fun _ => False) w2 (w2.alloc (.cells #[.int .i64 N, .map (some w.heap.size), .map (some (w.heap.size + 1))] 89 (0, 0))) := (Out.refl _ _).alloc _
  exact ⟨_, _, _, rfl, ⟨hn, by omega, HN.out.1, HN.out.2, q2.out ho id, m, q1.out ho id, HE.out⟩, ⟨by omega, by omega, by omega⟩, hb.alloc hb.size _⟩
set_option maxHeartbeats 400000 in
theorem open_c {w : World} {d b1 b2 N : Nat} {on : Int → Sec} {c : Int → Option Sec} (h : IsD w d b1 b2 N on c) (h8 : 8 ≤ N) :
    Calls Try.prog 22 #[pD d] w fun e w' => ∃ j d' p1 p2, e = .returned (pB j) ∧ IsJ w' j d' p1 p2 N on c ∧ (w.heap.size ≤ j ∧ w.heap.size ≤ d' ∧ w.heap.size ≤ p1 ∧ w.heap.size ≤ p2) ∧ Below w.heap.size w w' := by
  have SC := hid (size_c h)
  have FC := hid (fork_c h)
  have hI : ¬ (N : Int) < 8 := by omega
  clear h
  go_enter Try.func22, Try.ntmps22
  go_wp2_with (first
    | (go_at_call 32; refine SC.out.mono ?_; rintro _ w1 ⟨rfl, rfl⟩)
    | (go_at_call 45; refine FC.out.mono ?_; rintro _ w2 ⟨d', p1, p2, rfl, hD, hl, hb⟩))
  go_ret
  have hb3 : Below w2.heap.size w2 (w2.alloc (.cells #[pD d'] 84 (0, 0))) := (Below.refl _ _).alloc (Nat.le_refl _) _
  exact ⟨_, _, _, _, rfl, ⟨heap_alloc_new w2 _, hD.later hb3, h8⟩, ⟨hb.size, hl⟩, hb.trans (hb3.mono hb.size)⟩
set_option maxHeartbeats 400000 in
theorem open_few {w : World} {d b1 b2 N : Nat} {on : Int → Sec} {c : Int → Option Sec} (h : IsD w d b1 b2 N on c) (h8 : N < 8) :
    Calls Try.prog 22 #[pD d] w fun e w' => e = .returned (.pointer none) ∧ w' = w := by
  have SC := hid (size_c h)
  have hI : (N : Int) < 8 := by omega
  clear h
  go_enter Try.func22, Try.ntmps22
  go_wp2_with (first
    | (go_at_call 32; refine SC.out.mono ?_; rintro _ w1 ⟨rfl, rfl⟩))
  go_ret
  exact ⟨rfl, rfl⟩
set_option maxHeartbeats 1000000 in
theorem free_c {w : World} {j d b1 b2 N : Nat} {on : Int → Sec} {c : Int → Option Sec} (h : IsJ w j d b1 b2 N on c) :
    Calls Try.prog 16 #[pB j] w fun e w' => e = .returned (.int .i64 (((arSt (vw on c) N + asz N : Nat) : Int) - (arEnd (vw on c) N : Nat))) ∧ Below w.heap.size w w' := by
  have hN := h.2.1.two
  have h8 := h.2.2
  have hbb := best_bd (fun i => h.2.1.sec i) 2 (Nat.le_refl _)
  have haz : asz N ≤ 1023 := by unfold asz; omega
  have CC := hid (counting_c h)
  have hse : arSt (vw on c) N ≤ arSt (vw on c) N + asz N := by omega
  have hen : arSt (vw on c) N + asz N ≤ N := by
    have h2 : 2 * asz N + 2 ≤ N := by unfold asz; omega
    have : (best (vw on c) 2).1 * asz N ≤ 1 * asz N := Nat.mul_le_mul_right _ hbb.1
    unfold arSt; omega
  have hgl : (grps (vw on c) N) = allG (best (vw on c) 2).2 (secs (vw on c) (arSt (vw on c) N) (arSt (vw on c) N + asz N - arSt (vw on c) N)) := by
    rw [Nat.add_sub_cancel_left]; rfl
  have TC : Hid (∀ W, Below w.heap.size w W → Calls Try.prog 38 #[pB j, .agg #[.int .i64 ((best (vw on c) 2).1 : Nat), .int .u32 (best (vw on c) 2).2, .int .i64 (arSt (vw on c) N : Nat), .int .i64 ((arSt (vw on c) N + asz N : Nat) : Int)]] W fun e w' => e = .returned (.tuple #[.int .u32 ((grps (vw on c) N).length : Nat), .int .i64 ((arEnd (vw on c) N : Nat) : Int)]) ∧ Below W.heap.size W w') := fun W hW => by
    have := tail_c (h.later hW) ((best (vw on c) 2).1 : Nat) (best (vw on c) 2).2 (arSt (vw on c) N) (arSt (vw on c) N + asz N) hse hen hbb.2
    rw [← hgl] at this
    exact this
  have hend : arEnd (vw on c) N ≤ 20000000 := by have := sumN_le (grps (vw on c) N); have := grps_len (vw on c) N; unfold arEnd; omega
  change Hid (Calls Try.prog 37 #[pB j] _ fun e w' => e = .returned (.agg #[.int .i64 ((best (vw on c) 2).1 : Nat), .int .u32 (best (vw on c) 2).2, .int .i64 (arSt (vw on c) N : Nat), .int .i64 ((arSt (vw on c) N + asz N : Nat) : Int)]) ∧ _) at CC
  clear hgl h hbb hse
  generalize (grps (vw on c) N).length = cn at *
  generalize arEnd (vw on c) N = en at *
  generalize arSt (vw on c) N + asz N = lim at *
  generalize arSt (vw on c) N = st at *
  generalize (best (vw on c) 2).2 = t at *
  generalize (best (vw on c) 2).1 = kk at *
  go_enter Try.func16, Try.ntmps16
  go_wp2_with (first
    | (go_at_call 38; refine (TC.out _ hB2).mono ?_; rintro e w3 ⟨rfl, hb3⟩; (have hB3 : Below w.heap.size w w3 := hB2.trans (hb3.mono hB2.size)); (have x3 : w3.heap[w1.heap.size]? = some (.cells #[.int .i64 kk, .int .u32 t, .int .i64 st, .int .i64 lim] 70 (0, 0)) := by rw [hb3.block _ (by simp)]; exact heap_alloc_new w1 _); (have c33 : w3.cell? ⟨w1.heap.size, 3, none⟩ = some (.int .i64 lim) := by rw [cell_of_row w3 _ 3 _ _ _ x3]; rfl))
    | (go_at_call 37; refine CC.out.mono ?_; rintro e w1 ⟨rfl, hb1⟩; (have hB2 : Below w.heap.size w (w1.alloc (.cells #[.int .i64 kk, .int .u32 t, .int .i64 st, .int .i64 lim] 70)) := hb1.alloc hb1.size _)))
  go_ret
  exact ⟨rfl, hB3⟩
set_option maxHeartbeats 400000 in
theorem jdisk_c {w : World} {j d b1 b2 N : Nat} {on : Int → Sec} {c : Int → Option Sec} (h : IsJ w j d b1 b2 N on c) :
    Calls Try.prog 27 #[pB j] w fun e w' => ∃ d' p1 p2, e = .returned (pD d') ∧ IsD w' d' p1 p2 N on c ∧ (w.heap.size ≤ d' ∧ w.heap.size ≤ p1 ∧ w.heap.size ≤ p2) ∧ Below w.heap.size w w' := by
  have c0 := h.cell
  have FC := hid (fork_c h.2.1)
  clear h
  go_enter Try.func27, Try.ntmps27
  go_wp2_with (go_at_call 45; refine FC.out.mono ?_; rintro _ w2 ⟨d', p1, p2, rfl, hD, hl, hb⟩)
  go_ret
  exact ⟨_, _, _, rfl, hD, hl, hb⟩
set_option maxHeartbeats 400000 in
theorem jfork_c {w : World} {j d b1 b2 N : Nat} {on : Int → Sec} {c : Int → Option Sec} (h : IsJ w j d b1 b2 N on c) :
    Calls Try.prog 21 #[pB j] w fun e w' => ∃ j' d' p1 p2, e = .returned (pB j') ∧ IsJ w' j' d' p1 p2 N on c ∧ (w.heap.size ≤ j' ∧ w.heap.size ≤ d' ∧ w.heap.size ≤ p1 ∧ w.heap.size ≤ p2) ∧ Below w.heap.size w w' := by
  have c0 := h.cell
  have FC := hid (fork_c h.2.1)
  have h8 := h.2.2
  clear h
  go_enter Try.func21, Try.ntmps21
  go_wp2_with (go_at_call 45; refine FC.out.mono ?_; rintro _ w2 ⟨d', p1, p2, rfl, hD, hl, hb⟩)
  go_ret
  have hb3 : Below w2.heap.size w2 (w2.alloc (.cells #[pD d'] 84 (0, 0))) := (Below.refl _ _).alloc (Nat.le_refl _) _
  exact ⟨_, _, _, _, rfl, ⟨heap_alloc_new w2 _, hD.later hb3, h8⟩, ⟨hb.size, hl⟩, hb.trans (hb3.mono hb.size)⟩
end Go.Proofs.Ytllohapbbmnipaa
