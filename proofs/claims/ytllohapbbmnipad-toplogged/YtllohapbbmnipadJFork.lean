/-
  Fork of the package disk; Open, Free, Disk, Fork of the package journal.
-/
import Derived.Test.YtllohapbbmnipadJReset
import Derived.Test.YtllohapbbmnipadClo
namespace Go.Proofs.Ytllohapbbmnipad
open Go.RowKit Go.ChangeShapes Go.WideShapes Go.ChangeAt Go.Maps
set_option linter.unusedVariables false
set_option linter.unusedSimpArgs false
theorem clone_c {w : World} {b N : Nat} {f : Int → Option Sec} (h : IsM w b N f) : Calls Try.prog 32 #[.map (some b)] w fun e w' => e = .returned (.map (some w.heap.size)) ∧ IsM w' w.heap.size N f ∧ Below w.heap.size w w' ∧ w'.heap.size = w.heap.size + 1 := by
  obtain ⟨⟨D, ⟨es, clock, hb, F, hs, hD⟩, hf⟩, h2⟩ := h
  refine (AnyW.maps_Clone Try.cloneA b es clock w hb).mono fun e w' ⟨he, hw⟩ => ?_
  subst hw
  exact ⟨he, ⟨⟨D, ⟨es, clock, (MapKept.heap_alloc w _).1, F, hs, hD⟩, hf⟩, h2⟩, (Below.refl _ w).alloc (Nat.le_refl _) _, by simp⟩
set_option maxRecDepth 100000 in
set_option maxHeartbeats 2000000 in
theorem fork_c {w : World} {d b1 b2 N : Nat} {on : Int → Sec} {c : Int → Option Sec} (h : IsD w d b1 b2 N on c) :
    Calls Try.prog 15 #[pD d] w fun e w' => ∃ d' p1 p2, e = .returned (pD d') ∧ IsD w' d' p1 p2 N on c ∧ (w.heap.size ≤ d' ∧ w.heap.size ≤ p1 ∧ w.heap.size ≤ p2) ∧ Below w.heap.size w w' := by
  obtain ⟨c0, c1, c2, l0, l1, l2, d1, d2, d3⟩ := h.cells
  obtain ⟨m, hm, he⟩ := h.2.2.2.2.2
  have HD : Hid (IsD w.drew d b1 b2 N on c) := h
  have HM1 : Hid (IsM w.drew b1 N m) := hm
  have HM2 : Hid (IsM w.drew b2 N c) := h.2.2.2.2.1
  have HE := hid he
  have HN := hid (And.intro h.2.2.1 h.2.2.2.1)
  clear h hm he l1 l2 d1 d2 d3
  go_enter Try.func15, Try.ntmps15
  go_wp2
  go_region_held3 (fun w' => w'.cell? ⟨d, 0, none⟩ = some (.int .i64 N) ∧ w'.cell? ⟨d, 1, none⟩ = some (.map (some b1)) ∧ w'.cell? ⟨d, 2, none⟩ = some (.map (some b2))) (first | go_keep | exact ⟨S2.out.cells.1, S2.out.cells.2.1, S2.out.cells.2.2.1⟩ | exact ⟨S1.out.cells.1, S1.out.cells.2.1, S1.out.cells.2.2.1⟩)
    (first
      | (go_at_call 32; refine (clone_c HM1.out).mono ?_; rintro _ w1 ⟨rfl, k1, hb1, hs1⟩; have K1 := hid k1; have S1 := hid (HD.out.later hb1); have M1 := hid (HM2.out.out (Out.of (S := fun _ => False) hb1) id); have B1 := hid hb1; have Z1 := hid hs1)
      | (go_at_call 32; refine (clone_c M1.out).mono ?_; rintro _ w2 ⟨rfl, k2, hb2, hs2⟩; have K2 := hid k2; have S2 := hid (S1.out.later hb2); have M2 := hid (K1.out.out (Out.of (S := fun _ => False) hb2) id); have B2 := hid hb2; have Z2 := hid hs2))
  go_wp2
  go_ret
  have z1 : w1.heap.size = w.heap.size + 1 := Z1.out
  have z2 : w2.heap.size = w.heap.size + 1 + 1 := by rw [Z2.out, z1]
  have q2 := K2.out
  rw [z1] at q2
  have q1 : IsM w2 w.heap.size N m := M2.out
  have hb : Below w.heap.size w w2 := (((Below.refl _ w).drew).trans B1.out).trans (B2.out.mono (by omega))
  have hn := heap_alloc_new w2 (.cells #[.int .i64 N, .map (some w.heap.size), .map (some (w.heap.size + 1))] 55 (0, 0))
  rw [z2] at hn
  have ho : Out (fun _ => False) w2 (w2.alloc (.cells #[.int .i64 N, .map (some w.heap.size), .map (some (w.heap.size + 1))] 55 (0, 0))) := (Out.refl _ _).alloc _
  exact ⟨_, _, _, rfl, ⟨hn, by omega, HN.out.1, HN.out.2, q2.out ho id, m, q1.out ho id, HE.out⟩, ⟨by omega, by omega, by omega⟩, hb.alloc hb.size _⟩
set_option maxHeartbeats 400000 in
theorem open_c {w : World} {d b1 b2 N : Nat} {on : Int → Sec} {c : Int → Option Sec} (h : IsD w d b1 b2 N on c) (h8 : 8 ≤ N) :
    Calls Try.prog 5 #[pD d] w fun e w' => ∃ j d' p1 p2, e = .returned (pB j) ∧ IsJ w' j d' p1 p2 N on c ∧ (w.heap.size ≤ j ∧ w.heap.size ≤ d' ∧ w.heap.size ≤ p1 ∧ w.heap.size ≤ p2) ∧ Below w.heap.size w w' := by
  have SC := hid (size_c h)
  have FC := hid (fork_c h)
  have hI : ¬ (N : Int) < 8 := by omega
  clear h
  go_enter Try.func5, Try.ntmps5
  go_wp2_with (first
    | (go_at_call 14; refine SC.out.mono ?_; rintro _ w1 ⟨rfl, rfl⟩)
    | (go_at_call 15; refine FC.out.mono ?_; rintro _ w2 ⟨d', p1, p2, rfl, hD, hl, hb⟩))
  go_ret
  have hb3 : Below w2.heap.size w2 (w2.alloc (.cells #[pD d'] 52 (0, 0))) := (Below.refl _ _).alloc (Nat.le_refl _) _
  exact ⟨_, _, _, _, rfl, ⟨heap_alloc_new w2 _, hD.later hb3, h8⟩, ⟨hb.size, hl⟩, hb.trans (hb3.mono hb.size)⟩
set_option maxHeartbeats 400000 in
theorem open_few {w : World} {d b1 b2 N : Nat} {on : Int → Sec} {c : Int → Option Sec} (h : IsD w d b1 b2 N on c) (h8 : N < 8) :
    Calls Try.prog 5 #[pD d] w fun e w' => e = .returned (.pointer none) ∧ w' = w := by
  have SC := hid (size_c h)
  have hI : (N : Int) < 8 := by omega
  clear h
  go_enter Try.func5, Try.ntmps5
  go_wp2_with (first
    | (go_at_call 14; refine SC.out.mono ?_; rintro _ w1 ⟨rfl, rfl⟩))
  go_ret
  exact ⟨rfl, rfl⟩
set_option maxHeartbeats 400000 in
theorem jdisk_c {w : World} {j d b1 b2 N : Nat} {on : Int → Sec} {c : Int → Option Sec} (h : IsJ w j d b1 b2 N on c) :
    Calls Try.prog 10 #[pB j] w fun e w' => ∃ d' p1 p2, e = .returned (pD d') ∧ IsD w' d' p1 p2 N on c ∧ (w.heap.size ≤ d' ∧ w.heap.size ≤ p1 ∧ w.heap.size ≤ p2) ∧ Below w.heap.size w w' := by
  have c0 := h.cell
  have FC := hid (fork_c h.2.1)
  clear h
  go_enter Try.func10, Try.ntmps10
  go_wp2_with (go_at_call 15; refine FC.out.mono ?_; rintro _ w2 ⟨d', p1, p2, rfl, hD, hl, hb⟩)
  go_ret
  exact ⟨_, _, _, rfl, hD, hl, hb⟩
end Go.Proofs.Ytllohapbbmnipad
