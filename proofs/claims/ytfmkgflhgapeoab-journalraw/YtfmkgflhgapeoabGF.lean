/-
  What the library's function that copies a map is in this program.
  Fork of the package disk; Open, Free, Disk, Fork of the package journal.
  Torn of the package journal.
  Torn of the package journal, where a Reset is torn.
  What the statements' own journal holds: three groups, by calculation.
  What live of the statements on journals returns.
  What is read of groups, and of a deed on journals, that came in.
  What the document's Need returns.
  What is read of deeds on journals that came in.
-/
import Derived.Shelf.SlMaps.Clone
import Derived.Test.YtfmkgflhgapeoabProg
import Derived.Test.YtfmkgflhgapeoabGE
import Derived.Deep.OwnRows
import Derived.ChangeArms
import Derived.ChangeOld
import Derived.Below
namespace Go.Proofs
open Go.Shelf
def Try.cloneA_ren : Go.Shelf.Ren := ⟨fun | 5 => 35 | 7 => 51 | n => n, fun | 23 => 45 | 25 => 3 | 3 => 34 | 4 => 4 | 20 => 20 | n => n, fun | n => n⟩
theorem Try.cloneA : Go.Proofs.SlLaysW.n5 Try.prog Try.cloneA_ren := {
  mixed := by kernel_rfl
  f5 := ⟨Try.f35.name, by decide, Try.func35.trans (congrArg some (by kernel_rfl))⟩
  f7 := Try.func51.trans (congrArg some (by kernel_rfl))
  t4 := Try.underlying4
  a4 := Try.isAgg4
  z4 := Try.sizeOf4
  v4 := Try.zeroValue4
  t20 := Try.underlying20
  a20 := Try.isAgg20
  z20 := Try.sizeOf20
  v20 := Try.zeroValue20
  t23 := Try.underlying45
  a23 := Try.isAgg45
  z23 := Try.sizeOf45
  v23 := Try.zeroValue45 }
end Go.Proofs
namespace Go.Proofs.Ytfmkgflhgapeoab
open Go.RowKit Go.ChangeShapes Go.WideShapes Go.ChangeAt Go.Maps
set_option linter.unusedVariables false
set_option linter.unusedSimpArgs false
theorem clone_c {w : World} {b N : Nat} {f : Int → Option Sec} (h : IsM w b N f) : Calls Try.prog 35 #[.map (some b)] w fun e w' => e = .returned (.map (some w.heap.size)) ∧ IsM w' w.heap.size N f ∧ Below w.heap.size w w' ∧ w'.heap.size = w.heap.size + 1 := by
  obtain ⟨⟨D, ⟨es, clock, hb, F, hs, hD⟩, hf⟩, h2⟩ := h
  refine (AnyW.maps_Clone Try.cloneA b es clock w hb).mono fun e w' ⟨he, hw⟩ => ?_
  subst hw
  exact ⟨he, ⟨⟨D, ⟨es, clock, (MapKept.heap_alloc w _).1, F, hs, hD⟩, hf⟩, h2⟩, (Below.refl _ w).alloc (Nat.le_refl _) _, by simp⟩
set_option maxRecDepth 100000 in
set_option maxHeartbeats 2000000 in
theorem fork_c {w : World} {d b1 b2 N : Nat} {on : Int → Sec} {c : Int → Option Sec} (h : IsD w d b1 b2 N on c) :
    Calls Try.prog 15 #[pD d] w fun e w' => ∃ d' p1 p2, e = .returned (pD d') ∧ IsD w' d' p1 p2 N on c ∧ (w.heap.size ≤ d' ∧ w.heap.size ≤ p1 ∧ w.heap.size ≤ p2) ∧ Below w.heap.size w w' := by
  obtain ⟨c0, c1, c2, l0, l1, l2, d1, d2, d3⟩ := h.cells
  obtain ⟨m, hm, he⟩ := h.2.2.2.2.2
  have HD : Hid (IsD w.drew d b1 b2 N on c) := h
  have HM1 : Hid (IsM w.drew b1 N m) := hm
  have HM2 : Hid (IsM w.drew b2 N c) := h.2.2.2.2.1
  have HE := hid he
  have HN := hid (And.intro h.2.2.1 h.2.2.2.1)
  clear h hm he l1 l2 d1 d2 d3
  go_enter Try.func15, Try.ntmps15
  go_wp2
  go_region_held3 (fun w' => w'.cell? ⟨d, 0, none⟩ = some (.int .i64 N) ∧ w'.cell? ⟨d, 1, none⟩ = some (.map (some b1)) ∧ w'.cell? ⟨d, 2, none⟩ = some (.map (some b2))) (first | go_keep | exact ⟨S2.out.cells.1, S2.out.cells.2.1, S2.out.cells.2.2.1⟩ | exact ⟨S1.out.cells.1, S1.out.cells.2.1, S1.out.cells.2.2.1⟩)
    (first
      | (go_at_call 35; refine (clone_c HM1.out).mono ?_; rintro _ w1 ⟨rfl, k1, hb1, hs1⟩; have K1 := hid k1; have S1 := hid (HD.out.later hb1); have M1 := hid (HM2.out.out (Out.of (S := fun _ => False) hb1) id); have B1 := hid hb1; have Z1 := hid hs1)
      | (go_at_call 35; refine (clone_c M1.out).mono ?_; rintro _ w2 ⟨rfl, k2, hb2, hs2⟩; have K2 := hid k2; have S2 := hid (S1.out.later hb2); have M2 := hid (K1.out.out (Out.of (S := fun _ => False) hb2) id); have B2 := hid hb2; have Z2 := hid hs2))
  go_wp2
  go_ret
  have z1 : w1.heap.size = w.heap.size + 1 := Z1.out
  have z2 : w2.heap.size = w.heap.size + 1 + 1 := by rw [Z2.out, z1]
  have q2 := K2.out
  rw [z1] at q2
  have q1 : IsM w2 w.heap.size N m := M2.out
  have hb : Below w.heap.size w w2 := (((Below.refl _ w).drew).trans B1.out).trans (B2.out.mono (by omega))
  have hn := heap_alloc_new w2 (.cells #[.int .i64 N, .map (some w.heap.size), .map (some (w.heap.size + 1))] 47 (0, 0))
  rw [z2] at hn
  have ho : Out (fun _ => False) w2 (w2.alloc (.cells #[.int .i64 N, .map (some w.heap.size), .map (some (w.heap.size + 1))] 47 (0, 0))) := (Out.refl _ _).alloc _
  exact ⟨_, _, _, rfl, ⟨hn, by omega, HN.out.1, HN.out.2, q2.out ho id, m, q1.out ho id, HE.out⟩, ⟨by omega, by omega, by omega⟩, hb.alloc hb.size _⟩
set_option maxHeartbeats 400000 in
theorem open_c {w : World} {d b1 b2 N : Nat} {on : Int → Sec} {c : Int → Option Sec} (h : IsD w d b1 b2 N on c) (h8 : 8 ≤ N) :
    Calls Try.prog 8 #[pD d] w fun e w' => ∃ j d' p1 p2, e = .returned (pB j) ∧ IsJ w' j d' p1 p2 N on c ∧ (w.heap.size ≤ j ∧ w.heap.size ≤ d' ∧ w.heap.size ≤ p1 ∧ w.heap.size ≤ p2) ∧ Below w.heap.size w w' := by
  have SC := hid (size_c h)
  have FC := hid (fork_c h)
  have hI : ¬ (N : Int) < 8 := by omega
  clear h
  go_enter Try.func8, Try.ntmps8
  go_wp2_with (first
    | (go_at_call 14; refine SC.out.mono ?_; rintro _ w1 ⟨rfl, rfl⟩)
    | (go_at_call 15; refine FC.out.mono ?_; rintro _ w2 ⟨d', p1, p2, rfl, hD, hl, hb⟩))
  go_ret
  have hb3 : Below w2.heap.size w2 (w2.alloc (.cells #[pD d'] 58 (0, 0))) := (Below.refl _ _).alloc (Nat.le_refl _) _
  exact ⟨_, _, _, _, rfl, ⟨heap_alloc_new w2 _, hD.later hb3, h8⟩, ⟨hb.size, hl⟩, hb.trans (hb3.mono hb.size)⟩
set_option maxHeartbeats 400000 in
theorem open_few {w : World} {d b1 b2 N : Nat} {on : Int → Sec} {c : Int → Option Sec} (h : IsD w d b1 b2 N on c) (h8 : N < 8) :
    Calls Try.prog 8 #[pD d] w fun e w' => e = .returned (.pointer none) ∧ w' = w := by
  have SC := hid (size_c h)
  have hI : (N : Int) < 8 := by omega
  clear h
  go_enter Try.func8, Try.ntmps8
  go_wp2_with (first
    | (go_at_call 14; refine SC.out.mono ?_; rintro _ w1 ⟨rfl, rfl⟩))
  go_ret
  exact ⟨rfl, rfl⟩
set_option maxHeartbeats 1000000 in
theorem free_c {w : World} {j d b1 b2 N : Nat} {on : Int → Sec} {c : Int → Option Sec} (h : IsJ w j d b1 b2 N on c) :
    Calls Try.prog 26 #[pB j] w fun e w' => e = .returned (.int .i64 (((arSt (vw on c) N + asz N : Nat) : Int) - (arEnd (vw on c) N : Nat))) ∧ Below w.heap.size w w' := by
  have hN := h.2.1.two
  have h8 := h.2.2
  have hbb := best_bd (fun i => h.2.1.sec i) 2 (Nat.le_refl _)
  have haz : asz N ≤ 1023 := by unfold asz; omega
  have CC := hid (counting_c h)
  have hse : arSt (vw on c) N ≤ arSt (vw on c) N + asz N := by omega
  have hen : arSt (vw on c) N + asz N ≤ N := by
    have h2 : 2 * asz N + 2 ≤ N := by unfold asz; omega
    have : (best (vw on c) 2).1 * asz N ≤ 1 * asz N := Nat.mul_le_mul_right _ hbb.1
    unfold arSt; omega
  have hgl : (grps (vw on c) N) = allG (best (vw on c) 2).2 (secs (vw on c) (arSt (vw on c) N) (arSt (vw on c) N + asz N - arSt (vw on c) N)) := by
    rw [Nat.add_sub_cancel_left]; rfl
  have TC : Hid (∀ W, Below w.heap.size w W → Calls Try.prog 42 #[pB j, .agg #[.int .i64 ((best (vw on c) 2).1 : Nat), .int .u32 (best (vw on c) 2).2, .int .i64 (arSt (vw on c) N : Nat), .int .i64 ((arSt (vw on c) N + asz N : Nat) : Int)]] W fun e w' => e = .returned (.tuple #[.int .u32 ((grps (vw on c) N).length : Nat), .int .i64 ((arEnd (vw on c) N : Nat) : Int)]) ∧ Below W.heap.size W w') := fun W hW => by
    have := tail_c (h.later hW) ((best (vw on c) 2).1 : Nat) (best (vw on c) 2).2 (arSt (vw on c) N) (arSt (vw on c) N + asz N) hse hen hbb.2
    rw [← hgl] at this
    exact this
  have hend : arEnd (vw on c) N ≤ 20000000 := by have := sumN_le (grps (vw on c) N); have := grps_len (vw on c) N; unfold arEnd; omega
  change Hid (Calls Try.prog 39 #[pB j] _ fun e w' => e = .returned (.agg #[.int .i64 ((best (vw on c) 2).1 : Nat), .int .u32 (best (vw on c) 2).2, .int .i64 (arSt (vw on c) N : Nat), .int .i64 ((arSt (vw on c) N + asz N : Nat) : Int)]) ∧ _) at CC
  clear hgl h hbb hse
  generalize (grps (vw on c) N).length = cn at *
  generalize arEnd (vw on c) N = en at *
  generalize arSt (vw on c) N + asz N = lim at *
  generalize arSt (vw on c) N = st at *
  generalize (best (vw on c) 2).2 = t at *
  generalize (best (vw on c) 2).1 = kk at *
  go_enter Try.func26, Try.ntmps26
  go_wp2_with (first
    | (go_at_call 42; refine (TC.out _ hB2).mono ?_; rintro e w3 ⟨rfl, hb3⟩; (have hB3 : Below w.heap.size w w3 := hB2.trans (hb3.mono hB2.size)); (have x3 : w3.heap[w1.heap.size]? = some (.cells #[.int .i64 kk, .int .u32 t, .int .i64 st, .int .i64 lim] 86 (0, 0)) := by rw [hb3.block _ (by simp)]; exact heap_alloc_new w1 _); (have c33 : w3.cell? ⟨w1.heap.size, 3, none⟩ = some (.int .i64 lim) := by rw [cell_of_row w3 _ 3 _ _ _ x3]; rfl))
    | (go_at_call 39; refine CC.out.mono ?_; rintro e w1 ⟨rfl, hb1⟩; (have hB2 : Below w.heap.size w (w1.alloc (.cells #[.int .i64 kk, .int .u32 t, .int .i64 st, .int .i64 lim] 86)) := hb1.alloc hb1.size _)))
  go_ret
  exact ⟨rfl, hB3⟩
set_option maxHeartbeats 400000 in
theorem jdisk_c {w : World} {j d b1 b2 N : Nat} {on : Int → Sec} {c : Int → Option Sec} (h : IsJ w j d b1 b2 N on c) :
    Calls Try.prog 22 #[pB j] w fun e w' => ∃ d' p1 p2, e = .returned (pD d') ∧ IsD w' d' p1 p2 N on c ∧ (w.heap.size ≤ d' ∧ w.heap.size ≤ p1 ∧ w.heap.size ≤ p2) ∧ Below w.heap.size w w' := by
  have c0 := h.cell
  have FC := hid (fork_c h.2.1)
  clear h
  go_enter Try.func22, Try.ntmps22
  go_wp2_with (go_at_call 15; refine FC.out.mono ?_; rintro _ w2 ⟨d', p1, p2, rfl, hD, hl, hb⟩)
  go_ret
  exact ⟨_, _, _, rfl, hD, hl, hb⟩
end Go.Proofs.Ytfmkgflhgapeoab
namespace Go.Proofs.Ytfmkgflhgapeoab
open Go.RowKit Go.ChangeShapes Go.WideShapes Go.ChangeAt Go.Maps
set_option linter.unusedVariables false
set_option linter.unusedSimpArgs false
theorem isZ_out {S : Nat → Prop} {w w' : World} {a : Option Addr} {len : Nat} {zs : List Int} (h : IsZ w a len zs) (ho : Out S w w') (hS : ∀ (b : Nat) (cur : Array Value) (t : TypeId) (fr : Nat × Nat), w.heap[b]? = some (.cells cur t fr) → ¬ S b) : IsZ w' a len zs := by
  obtain ⟨h1, h2, h3, h4⟩ := h
  refine ⟨h1, h2, fun hp => ?_, h4⟩
  obtain ⟨b, off, e, h5⟩ := h3 hp
  refine ⟨b, off, e, fun i hi => ?_⟩
  rw [← h5 i hi]
  have h6 : ∃ cur t fr, w.heap[b]? = some (.cells cur t fr) := by
    have := h5 i hi
    unfold World.cell? at this
    simp only at this
    split at this
    · rename_i cur t fr e; exact ⟨cur, t, fr, e⟩
    all_goals cases this
  obtain ⟨cur, t, fr, e6⟩ := h6
  exact World.cell?_of_block (ho.block b (lt_blk e6) (hS b cur t fr e6))
theorem IsZ.lat {w w' : World} {a : Option Addr} {len : Nat} {zs : List Int} (h : IsZ w a len zs) (hb : Below w.heap.size w w') : IsZ w' a len zs := isZ_out h (Out.of (S := fun _ => False) hb) (fun _ _ _ _ _ => id)
theorem IsZ.disk {w w' : World} {a : Option Addr} {len : Nat} {zs : List Int} {d b1 b2 M : Nat} {on : Int → Sec} {c : Int → Option Sec} (h : IsZ w a len zs) (hd : IsD w d b1 b2 M on c) (ho : Out (fun k => k = b1 ∨ k = b2) w w') : IsZ w' a len zs := by
  obtain ⟨⟨es2, cl2, h2⟩, es1, cl1, h1⟩ := hd.mapAt
  refine isZ_out h ho fun k cur t fr hk e => ?_
  rcases e with rfl | rfl
  · rw [h1] at hk; cases hk
  · rw [h2] at hk; cases hk
theorem row_disk {w w' : World} {q : Nat} {cs : Array Value} {t : TypeId} {fr : Nat × Nat} {d b1 b2 M : Nat} {on : Int → Sec} {c : Int → Option Sec} (h : w.heap[q]? = some (.cells cs t fr)) (hd : IsD w d b1 b2 M on c) (ho : Out (fun k => k = b1 ∨ k = b2) w w') : w'.heap[q]? = some (.cells cs t fr) := by
  obtain ⟨⟨es2, cl2, h2⟩, es1, cl1, h1⟩ := hd.mapAt
  rw [ho.block q (lt_blk h) (by rintro (rfl | rfl); (rw [h1] at h; cases h); (rw [h2] at h; cases h))]
  exact h
set_option maxHeartbeats 400000 in
theorem torn_nil (r : Bool) (st : Int) (a z : Option Addr) (len cap zl zc : Nat) (w : World) : Calls Try.prog 33 #[.pointer none, .slice a len cap, .bool r, .int .i64 st, .slice z zl zc] w fun e w' => e = .returned (.int .i64 1) ∧ w' = w := by
  go_enter Try.func33, Try.ntmps33
  go_wp2
  go_ret
  exact ⟨rfl, rfl⟩
set_option maxHeartbeats 400000 in
theorem torn_step (j : Nat) (r : Bool) (st : Int) (a z : Option Addr) (len cap zl zc : Nat) (w : World) (h0 : st ≠ 0) (h1 : st ≠ 1) : Calls Try.prog 33 #[pB j, .slice a len cap, .bool r, .int .i64 st, .slice z zl zc] w fun e w' => e = .returned (.int .i64 2) ∧ w' = w := by
  have e0 : (st != 0) = true := by simpa using h0
  have e1 : (st != 1) = true := by simpa using h1
  have e2 : (st == 0) = false := by simpa using h0
  have e3 : (st == 1) = false := by simpa using h1
  go_enter Try.func33, Try.ntmps33
  go_wp2
  go_ret
  exact ⟨rfl, rfl⟩
/-- What is on a disk behind a Torn, of what stood there behind the first batch's writing and the second one's. -/
def tornF (st : Int) (zs : List Int) (v0 v1 v2 : Int → Sec) : Int → Sec := if st = 0 then fun i => if i ∈ zs then v1 i else v0 i else fun i => if i ∈ zs then v2 i else v1 i
/-- What Torn answers where an Append is torn. -/
def TornPost (j d b1 b2 N : Nat) (on : Int → Sec) (c : Int → Option Sec) (g : Jo.Gr) (st : Int) (zs : List Int) (w : World) (e : Ending) (w' : World) : Prop :=
  (Jo.needF g = 0 ∧ e = .returned (.int .i64 2) ∧ Below w.heap.size w w') ∨
  (Jo.needF g ≠ 0 ∧ arSt (vw on c) N + asz N < arEnd (vw on c) N + Jo.needF g ∧ e = .returned (.int .i64 4) ∧ Below w.heap.size w w') ∨
  (Jo.needF g ≠ 0 ∧ arEnd (vw on c) N + Jo.needF g ≤ arSt (vw on c) N + asz N ∧ e = .returned (.int .i64 0) ∧
    IsJ w' j d b1 b2 N (tornF st zs on (updO (vw on c) (arEnd (vw on c) N) ((Jo.laid g (best (vw on c) 2).2 ((grps (vw on c) N).length + 1)).take (Jo.needF g - 1))) (added (vw on c) N g)) (fun _ => none) ∧ Out (fun k => k = b1 ∨ k = b2) w w')
set_option maxRecDepth 20000 in
set_option maxHeartbeats 2000000 in
theorem torn_a0 {w : World} {j d b1 b2 N : Nat} {on : Int → Sec} {c : Int → Option Sec} (h : IsJ w j d b1 b2 N on c) (a : Option Addr) (len cap : Nat) (g : Jo.Gr) (hG : IsG0 w a len g) (z : Option Addr) (zl zc : Nat) (zs : List Int) (hZ : IsZ w z zl zs) :
    Calls Try.prog 33 #[pB j, .slice a len cap, .bool false, .int .i64 0, .slice z zl zc] w (TornPost j d b1 b2 N on c g 0 zs w) := by
  have AC := hid (appending_c h a len cap g hG)
  have hbb := best_bd (fun i => h.2.1.sec i) 2 (Nat.le_refl _)
  have haz : 2 * asz N + 2 ≤ N := by have := h.2.2; unfold asz; omega
  have hst : arSt (vw on c) N + asz N ≤ N := by
    have : (best (vw on c) 2).1 * asz N ≤ 1 * asz N := Nat.mul_le_mul_right _ hbb.1
    unfold arSt; omega
  have H := hid h
  have HZ0 := hid hZ
  clear h hG hZ
  go_enter Try.func33, Try.ntmps33
  go_wp2_with fail
  refine AC.out.mono ?_
  rintro e w1 ⟨hb1, ⟨hz, rfl⟩ | ⟨hz, hf, rfl⟩ | ⟨hz, hf, p, o, k, rfl, hS⟩⟩
  · unfold noB
    have HZ := hid hz
    clear hz
    go_wp2
    go_ret
    exact .inl ⟨HZ.out, rfl, hb1.alloc hb1.size _⟩
  · unfold noB
    have HZ := hid hz
    have HF := hid hf
    clear hz hf
    go_wp2
    go_ret
    exact .inr (.inl ⟨HZ.out, HF.out, rfl, hb1.alloc hb1.size _⟩)
  · have h3 : 3 ≤ Jo.needF g := by
      have hp := Jo.need_pos hz
      have hl4 := (Jo.ok_load hp.1).1
      rw [hp.2]; unfold Jo.secsOf Jo.many; omega
    have S0 := hS.sub 0 (Jo.needF g - 1) (by omega)
    rw [List.drop_zero, Nat.zero_mul, Nat.add_zero] at S0
    have HZ := hid hz
    have HF := hid hf
    have HS0 := hid S0
    have hend : arEnd (vw on c) N + (Jo.needF g - 1) ≤ N := by omega
    have hm0 : 0 < Jo.needF g - 1 := by omega
    clear hz hf hS S0 h3
    generalize hq : arEnd (vw on c) N + (Jo.needF g - 1) = q at *
    have HQ := hid hq
    clear hq
    have hBw : Below w1.heap.size w1 (w1.alloc (.cells #[.int .i64 (arEnd (vw on c) N : Nat), .slice (some ⟨p, o, none⟩) (Jo.needF g - 1) k, .int .i64 (q : Int), .slice (some ⟨p, o + (Jo.needF g - 1) * 32, none⟩) 1 (k - (Jo.needF g - 1))] 78)) := (Below.refl _ _).alloc (Nat.le_refl _) _
    have HBw := hid hBw
    clear hBw
    go_wp2_with fail
    refine wp_loop_rounds 1 ?_
    rw [rounds_succ]
    go_wp2_with fail
    generalize (w1.alloc (.cells #[.int .i64 (arEnd (vw on c) N : Nat), .slice (some ⟨p, o, none⟩) (Jo.needF g - 1) k, .int .i64 (q : Int), .slice (some ⟨p, o + (Jo.needF g - 1) * 32, none⟩) 1 (k - (Jo.needF g - 1))] 78)) = Wa at *
    have hBa : Below w.heap.size w Wa := hb1.trans (HBw.out.mono hb1.size)
    refine (jwrite_c (H.out.later hBa) (arEnd (vw on c) N) p o (Jo.needF g - 1) k _ (HS0.out.later HBw.out) (by rw [HQ.out]; exact hend) hm0).mono ?_
    rintro _ w2 ⟨rfl, hJ2, hO2⟩
    have hO2' : Out (fun k => k = b1 ∨ k = b2) Wa w2 := hO2.mono (fun k e => .inr e)
    have HZ2 := hid ((HZ0.out.lat hBa).disk (H.out.later hBa).2.1 hO2')
    have cj2 := hJ2.cell
    have HJ2 := hid hJ2
    clear hJ2
    go_wp2_with fail
    refine (crash_c HJ2.out.2.1 z zl zc zs HZ2.out).mono ?_
    rintro _ w3 ⟨rfl, hD3, hO3⟩
    have HO3 := hid hO3
    have HD3 := hid hD3
    clear hD3 hO3
    go_wp2
    go_ret
    refine .inr (.inr ⟨HZ.out, HF.out, rfl, ?_, ((Out.of hBa).trans hO2').trans HO3.out⟩)
    have := HJ2.out.flushed HD3.out HO3.out
    have e : (fun i => if i ∈ zs then (updL c (arEnd (vw on c) N) ((Jo.laid g (best (vw on c) 2).2 ((grps (vw on c) N).length + 1)).take (Jo.needF g - 1)) i).getD (on i) else on i) = tornF 0 zs on (updO (vw on c) (arEnd (vw on c) N) ((Jo.laid g (best (vw on c) 2).2 ((grps (vw on c) N).length + 1)).take (Jo.needF g - 1))) (added (vw on c) N g) := by
      unfold tornF
      rw [if_pos rfl, ← updL_updO]
    rw [e] at this
    exact this
set_option maxRecDepth 20000 in
set_option maxHeartbeats 2000000 in
theorem torn_a1 {w : World} {j d b1 b2 N : Nat} {on : Int → Sec} {c : Int → Option Sec} (h : IsJ w j d b1 b2 N on c) (a : Option Addr) (len cap : Nat) (g : Jo.Gr) (hG : IsG0 w a len g) (z : Option Addr) (zl zc : Nat) (zs : List Int) (hZ : IsZ w z zl zs) :
    Calls Try.prog 33 #[pB j, .slice a len cap, .bool false, .int .i64 1, .slice z zl zc] w (TornPost j d b1 b2 N on c g 1 zs w) := by
  have AC := hid (appending_c h a len cap g hG)
  have hbb := best_bd (fun i => h.2.1.sec i) 2 (Nat.le_refl _)
  have haz : 2 * asz N + 2 ≤ N := by have := h.2.2; unfold asz; omega
  have hst : arSt (vw on c) N + asz N ≤ N := by
    have : (best (vw on c) 2).1 * asz N ≤ 1 * asz N := Nat.mul_le_mul_right _ hbb.1
    unfold arSt; omega
  have H := hid h
  have HZ0 := hid hZ
  clear h hG hZ
  go_enter Try.func33, Try.ntmps33
  go_wp2_with fail
  refine AC.out.mono ?_
  rintro e w1 ⟨hb1, ⟨hz, rfl⟩ | ⟨hz, hf, rfl⟩ | ⟨hz, hf, p, o, k, rfl, hS⟩⟩
  · unfold noB
    have HZ := hid hz
    clear hz
    go_wp2
    go_ret
    exact .inl ⟨HZ.out, rfl, hb1.alloc hb1.size _⟩
  · unfold noB
    have HZ := hid hz
    have HF := hid hf
    clear hz hf
    go_wp2
    go_ret
    exact .inr (.inl ⟨HZ.out, HF.out, rfl, hb1.alloc hb1.size _⟩)
  · have h3 : 3 ≤ Jo.needF g := by
      have hp := Jo.need_pos hz
      have hl4 := (Jo.ok_load hp.1).1
      rw [hp.2]; unfold Jo.secsOf Jo.many; omega
    have S0 := hS.sub 0 (Jo.needF g - 1) (by omega)
    rw [List.drop_zero, Nat.zero_mul, Nat.add_zero] at S0
    have HZ := hid hz
    have HF := hid hf
    have S1 := hS.rest (Jo.needF g - 1) (by omega)
    rw [show Jo.needF g - (Jo.needF g - 1) = 1 by omega] at S1
    have HS0 := hid S0
    have HS1 := hid S1
    have hend : arEnd (vw on c) N + (Jo.needF g - 1) ≤ N := by omega
    have hend1 : arEnd (vw on c) N + (Jo.needF g - 1) + 1 ≤ N := by omega
    have hm0 : 0 < Jo.needF g - 1 := by omega
    have hlen : Jo.needF g - 1 ≤ (Jo.laid g (best (vw on c) 2).2 ((grps (vw on c) N).length + 1)).length := by rw [hS.1]; omega
    have HLN := hid hlen
    clear hz hf hS S0 S1 h3 hlen
    generalize hq : arEnd (vw on c) N + (Jo.needF g - 1) = q at *
    have HQ := hid hq
    clear hq
    have hBw : Below w1.heap.size w1 ((w1.alloc (.cells #[.int .i64 (arEnd (vw on c) N : Nat), .slice (some ⟨p, o, none⟩) (Jo.needF g - 1) k, .int .i64 (q : Int), .slice (some ⟨p, o + (Jo.needF g - 1) * 32, none⟩) 1 (k - (Jo.needF g - 1))] 78)).alloc (.cells #[.int .i64 (arEnd (vw on c) N : Nat), .slice (some ⟨p, o, none⟩) (Jo.needF g - 1) k] 77)) := ((Below.refl _ _).alloc (Nat.le_refl _) _).alloc (by simp) _
    have hXw : ((w1.alloc (.cells #[.int .i64 (arEnd (vw on c) N : Nat), .slice (some ⟨p, o, none⟩) (Jo.needF g - 1) k, .int .i64 (q : Int), .slice (some ⟨p, o + (Jo.needF g - 1) * 32, none⟩) 1 (k - (Jo.needF g - 1))] 78)).alloc (.cells #[.int .i64 (arEnd (vw on c) N : Nat), .slice (some ⟨p, o, none⟩) (Jo.needF g - 1) k] 77)).heap[w1.heap.size]? = some (.cells #[.int .i64 (arEnd (vw on c) N : Nat), .slice (some ⟨p, o, none⟩) (Jo.needF g - 1) k, .int .i64 (q : Int), .slice (some ⟨p, o + (Jo.needF g - 1) * 32, none⟩) 1 (k - (Jo.needF g - 1))] 78 (0, 0)) := by
      rw [(alloc_facts _ _).2.1 _ (by simp)]; exact heap_alloc_new w1 _
    have HBw := hid hBw
    have HXw := hid hXw
    clear hBw hXw
    go_wp2_with fail
    refine wp_loop_rounds 2 ?_
    rw [rounds_succ]
    go_wp2_with fail
    generalize ((w1.alloc (.cells #[.int .i64 (arEnd (vw on c) N : Nat), .slice (some ⟨p, o, none⟩) (Jo.needF g - 1) k, .int .i64 (q : Int), .slice (some ⟨p, o + (Jo.needF g - 1) * 32, none⟩) 1 (k - (Jo.needF g - 1))] 78)).alloc (.cells #[.int .i64 (arEnd (vw on c) N : Nat), .slice (some ⟨p, o, none⟩) (Jo.needF g - 1) k] 77)) = Wa at *
    have hBa : Below w.heap.size w Wa := hb1.trans (HBw.out.mono hb1.size)
    refine (jwrite_c (H.out.later hBa) (arEnd (vw on c) N) p o (Jo.needF g - 1) k _ (HS0.out.later HBw.out) (by rw [HQ.out]; exact hend) hm0).mono ?_
    rintro _ w2 ⟨rfl, hJ2, hO2⟩
    have hO2' : Out (fun k => k = b1 ∨ k = b2) Wa w2 := hO2.mono (fun k e => .inr e)
    have HZ2 := hid ((HZ0.out.lat hBa).disk (H.out.later hBa).2.1 hO2')
    have HS12 := hid ((HS1.out.later HBw.out).disk (by omega) (H.out.later hBa).2.1 hO2')
    have HX2 : Hid (w2.heap[w1.heap.size]? = some (.cells #[.int .i64 (arEnd (vw on c) N : Nat), .slice (some ⟨p, o, none⟩) (Jo.needF g - 1) k, .int .i64 (q : Int), .slice (some ⟨p, o + (Jo.needF g - 1) * 32, none⟩) 1 (k - (Jo.needF g - 1))] 78 (0, 0))) := row_disk HXw.out (H.out.later hBa).2.1 hO2'
    have cj2 := hJ2.cell
    have HJ2 := hid hJ2
    clear hJ2
    go_wp2_with fail
    refine (flush_c HJ2.out.2.1).mono ?_
    rintro _ w3 ⟨rfl, hD3, hO3⟩
    rw [updL_updO] at hD3
    have HJ3 := hid (HJ2.out.flushed hD3 hO3)
    have HZ3 := hid (HZ2.out.disk HJ2.out.2.1 hO3)
    have HS13 := hid (HS12.out.disk (by omega) HJ2.out.2.1 hO3)
    have hX3 := row_disk HX2.out HJ2.out.2.1 hO3
    have x32 : w3.cell? ⟨w1.heap.size, 2, none⟩ = some (.int .i64 (q : Int)) := by rw [cell_of_row w3 _ 2 _ _ _ hX3]; rfl
    have x33 : w3.cell? ⟨w1.heap.size, 3, none⟩ = some (.slice (some ⟨p, o + (Jo.needF g - 1) * 32, none⟩) 1 (k - (Jo.needF g - 1))) := by rw [cell_of_row w3 _ 3 _ _ _ hX3]; rfl
    have HO3 := hid (((Out.of (S := fun k => k = b1 ∨ k = b2) hBa).trans hO2').trans hO3)
    clear hO2 hO2' hO3 cj2 hD3 HZ2 HS12 HX2 hX3
    go_wp2
    rw [rounds_succ]
    go_wp2_with fail
    refine (jwrite_c HJ3.out q p (o + (Jo.needF g - 1) * 32) 1 (k - (Jo.needF g - 1)) _ HS13.out hend1 (by omega)).mono ?_
    rintro _ w4 ⟨rfl, hJ4, hO4⟩
    have hO4' : Out (fun k => k = b1 ∨ k = b2) w3 w4 := hO4.mono (fun k e => .inr e)
    have HZ4 := hid (HZ3.out.disk HJ3.out.2.1 hO4')
    have HO4 := hid (HO3.out.trans hO4')
    have cj4 := hJ4.cell
    have HJ4 := hid hJ4
    clear hJ4 hO4 hO4'
    go_wp2_with fail
    refine (crash_c HJ4.out.2.1 z zl zc zs HZ4.out).mono ?_
    rintro _ w5 ⟨rfl, hD5, hO5⟩
    have HO5 := hid hO5
    have HD5 := hid hD5
    clear hD5 hO5
    go_wp2
    go_ret
    refine .inr (.inr ⟨HZ.out, HF.out, rfl, ?_, HO4.out.trans HO5.out⟩)
    have := HJ4.out.flushed HD5.out HO5.out
    have e : (fun i => if i ∈ zs then (updL (fun _ => none) q ((Jo.laid g (best (vw on c) 2).2 ((grps (vw on c) N).length + 1)).drop (Jo.needF g - 1)) i).getD (updO (vw on c) (arEnd (vw on c) N) ((Jo.laid g (best (vw on c) 2).2 ((grps (vw on c) N).length + 1)).take (Jo.needF g - 1)) i) else updO (vw on c) (arEnd (vw on c) N) ((Jo.laid g (best (vw on c) 2).2 ((grps (vw on c) N).length + 1)).take (Jo.needF g - 1)) i) = tornF 1 zs on (updO (vw on c) (arEnd (vw on c) N) ((Jo.laid g (best (vw on c) 2).2 ((grps (vw on c) N).length + 1)).take (Jo.needF g - 1))) (added (vw on c) N g) := by
      unfold tornF
      rw [if_neg (by decide)]
      have e2 : added (vw on c) N g = fun i => (updL (fun _ => none) q ((Jo.laid g (best (vw on c) 2).2 ((grps (vw on c) N).length + 1)).drop (Jo.needF g - 1)) i).getD (updO (vw on c) (arEnd (vw on c) N) ((Jo.laid g (best (vw on c) 2).2 ((grps (vw on c) N).length + 1)).take (Jo.needF g - 1)) i) := by
        rw [updL_updO, vw_none, ← HQ.out, updO_two _ _ _ _ HLN.out]; rfl
      rw [e2]
    rw [e] at this
    exact this
end Go.Proofs.Ytfmkgflhgapeoab
namespace Go.Proofs.Ytfmkgflhgapeoab
open Go.RowKit Go.ChangeShapes Go.WideShapes Go.ChangeAt Go.Maps
set_option linter.unusedVariables false
set_option linter.unusedSimpArgs false
/-- What Torn answers where a Reset is torn. -/
def TornRPost (j d b1 b2 N : Nat) (on : Int → Sec) (c : Int → Option Sec) (g : Jo.Gr) (st : Int) (zs : List Int) (w : World) (e : Ending) (w' : World) : Prop :=
  (Jo.needF g = 0 ∧ e = .returned (.int .i64 2) ∧ Below w.heap.size w w') ∨
  (Jo.needF g ≠ 0 ∧ (asz N < Jo.needF g ∨ (best (vw on c) 2).2 = 4294967295) ∧ e = .returned (.int .i64 4) ∧ Below w.heap.size w w') ∨
  (Jo.needF g ≠ 0 ∧ Jo.needF g ≤ asz N ∧ (best (vw on c) 2).2 ≠ 4294967295 ∧ e = .returned (.int .i64 0) ∧
    IsJ w' j d b1 b2 N (tornF st zs on (updO (vw on c) (otSt (vw on c) N) (Jo.laid g ((best (vw on c) 2).2 + 1) 1)) (setTo (vw on c) N g)) (fun _ => none) ∧ Out (fun k => k = b1 ∨ k = b2) w w')
set_option maxRecDepth 20000 in
set_option maxHeartbeats 2000000 in
theorem torn_r0 {w : World} {j d b1 b2 N : Nat} {on : Int → Sec} {c : Int → Option Sec} (h : IsJ w j d b1 b2 N on c) (a : Option Addr) (len cap : Nat) (g : Jo.Gr) (hG : IsG0 w a len g) (z : Option Addr) (zl zc : Nat) (zs : List Int) (hZ : IsZ w z zl zs) :
    Calls Try.prog 33 #[pB j, .slice a len cap, .bool true, .int .i64 0, .slice z zl zc] w (TornRPost j d b1 b2 N on c g 0 zs w) := by
  have AC := hid (resetting_c h a len cap g hG)
  have hbb := best_bd (fun i => h.2.1.sec i) 2 (Nat.le_refl _)
  have haz : 2 * asz N + 2 ≤ N := by have := h.2.2; unfold asz; omega
  have hst : otSt (vw on c) N + asz N ≤ N := by
    have : (1 - (best (vw on c) 2).1) * asz N ≤ 1 * asz N := Nat.mul_le_mul_right _ (by omega)
    unfold otSt; omega
  have h8 := h.2.2
  have H := hid h
  have HZ0 := hid hZ
  clear h hG hZ
  go_enter Try.func33, Try.ntmps33
  go_wp2_with fail
  refine AC.out.mono ?_
  rintro e w1 ⟨hb1, ⟨hz, rfl⟩ | ⟨hz, hf, rfl⟩ | ⟨hz, hf, hmx, p, o, k, q, r, rfl, hS, hH⟩⟩
  · unfold noB
    have HZ := hid hz
    clear hz
    go_wp2
    go_ret
    exact .inl ⟨HZ.out, rfl, hb1.alloc hb1.size _⟩
  · unfold noB
    have HZ := hid hz
    have HF := hid hf
    clear hz hf
    go_wp2
    go_ret
    exact .inr (.inl ⟨HZ.out, HF.out, rfl, hb1.alloc hb1.size _⟩)
  · have HZ := hid hz
    have HF := hid hf
    have HM := hid hmx
    have HS0 := hid hS
    have HS1 := hid hH
    have hend : otSt (vw on c) N + Jo.needF g ≤ N := by omega
    have hm0 : 0 < Jo.needF g := by omega
    have hend1 : (1 - (best (vw on c) 2).1) + 1 ≤ N := by omega
    clear hz hf hmx hS hH
    generalize hq : 1 - (best (vw on c) 2).1 = s1 at *
    have HQ := hid hq
    clear hq
    have hBw : Below w1.heap.size w1 (w1.alloc (.cells #[.int .i64 (otSt (vw on c) N : Nat), .slice (some ⟨p, o, none⟩) (Jo.needF g) k, .int .i64 (s1 : Int), .slice (some ⟨q, r, none⟩) 1 1] 78)) := (Below.refl _ _).alloc (Nat.le_refl _) _
    have HBw := hid hBw
    clear hBw
    go_wp2_with fail
    refine wp_loop_rounds 1 ?_
    rw [rounds_succ]
    go_wp2_with fail
    generalize (w1.alloc (.cells #[.int .i64 (otSt (vw on c) N : Nat), .slice (some ⟨p, o, none⟩) (Jo.needF g) k, .int .i64 (s1 : Int), .slice (some ⟨q, r, none⟩) 1 1] 78)) = Wa at *
    have hBa : Below w.heap.size w Wa := hb1.trans (HBw.out.mono hb1.size)
    refine (jwrite_c (H.out.later hBa) (otSt (vw on c) N) p o (Jo.needF g) k _ (HS0.out.later HBw.out) hend hm0).mono ?_
    rintro _ w2 ⟨rfl, hJ2, hO2⟩
    have hO2' : Out (fun k => k = b1 ∨ k = b2) Wa w2 := hO2.mono (fun k e => .inr e)
    have HZ2 := hid ((HZ0.out.lat hBa).disk (H.out.later hBa).2.1 hO2')
    have cj2 := hJ2.cell
    have HJ2 := hid hJ2
    clear hJ2
    go_wp2_with fail
    refine (crash_c HJ2.out.2.1 z zl zc zs HZ2.out).mono ?_
    rintro _ w3 ⟨rfl, hD3, hO3⟩
    have HO3 := hid hO3
    have HD3 := hid hD3
    clear hD3 hO3
    go_wp2
    go_ret
    refine .inr (.inr ⟨HZ.out, HF.out, HM.out, rfl, ?_, ((Out.of hBa).trans hO2').trans HO3.out⟩)
    have := HJ2.out.flushed HD3.out HO3.out
    have e : (fun i => if i ∈ zs then (updL c (otSt (vw on c) N) (Jo.laid g ((best (vw on c) 2).2 + 1) 1) i).getD (on i) else on i) = tornF 0 zs on (updO (vw on c) (otSt (vw on c) N) (Jo.laid g ((best (vw on c) 2).2 + 1) 1)) (setTo (vw on c) N g) := by
      unfold tornF
      rw [if_pos rfl, ← updL_updO]
    rw [e] at this
    exact this
set_option maxRecDepth 20000 in
set_option maxHeartbeats 2000000 in
theorem torn_r1 {w : World} {j d b1 b2 N : Nat} {on : Int → Sec} {c : Int → Option Sec} (h : IsJ w j d b1 b2 N on c) (a : Option Addr) (len cap : Nat) (g : Jo.Gr) (hG : IsG0 w a len g) (z : Option Addr) (zl zc : Nat) (zs : List Int) (hZ : IsZ w z zl zs) :
    Calls Try.prog 33 #[pB j, .slice a len cap, .bool true, .int .i64 1, .slice z zl zc] w (TornRPost j d b1 b2 N on c g 1 zs w) := by
  have AC := hid (resetting_c h a len cap g hG)
  have hbb := best_bd (fun i => h.2.1.sec i) 2 (Nat.le_refl _)
  have haz : 2 * asz N + 2 ≤ N := by have := h.2.2; unfold asz; omega
  have hst : otSt (vw on c) N + asz N ≤ N := by
    have : (1 - (best (vw on c) 2).1) * asz N ≤ 1 * asz N := Nat.mul_le_mul_right _ (by omega)
    unfold otSt; omega
  have h8 := h.2.2
  have H := hid h
  have HZ0 := hid hZ
  clear h hG hZ
  go_enter Try.func33, Try.ntmps33
  go_wp2_with fail
  refine AC.out.mono ?_
  rintro e w1 ⟨hb1, ⟨hz, rfl⟩ | ⟨hz, hf, rfl⟩ | ⟨hz, hf, hmx, p, o, k, q, r, rfl, hS, hH⟩⟩
  · unfold noB
    have HZ := hid hz
    clear hz
    go_wp2
    go_ret
    exact .inl ⟨HZ.out, rfl, hb1.alloc hb1.size _⟩
  · unfold noB
    have HZ := hid hz
    have HF := hid hf
    clear hz hf
    go_wp2
    go_ret
    exact .inr (.inl ⟨HZ.out, HF.out, rfl, hb1.alloc hb1.size _⟩)
  · have HZ := hid hz
    have HF := hid hf
    have HM := hid hmx
    have HS0 := hid hS
    have HS1 := hid hH
    have hend : otSt (vw on c) N + Jo.needF g ≤ N := by omega
    have hm0 : 0 < Jo.needF g := by omega
    have hend1 : (1 - (best (vw on c) 2).1) + 1 ≤ N := by omega
    clear hz hf hmx hS hH
    generalize hq : 1 - (best (vw on c) 2).1 = s1 at *
    have HQ := hid hq
    clear hq
    have hBw : Below w1.heap.size w1 ((w1.alloc (.cells #[.int .i64 (otSt (vw on c) N : Nat), .slice (some ⟨p, o, none⟩) (Jo.needF g) k, .int .i64 (s1 : Int), .slice (some ⟨q, r, none⟩) 1 1] 78)).alloc (.cells #[.int .i64 (otSt (vw on c) N : Nat), .slice (some ⟨p, o, none⟩) (Jo.needF g) k] 77)) := ((Below.refl _ _).alloc (Nat.le_refl _) _).alloc (by simp) _
    have hXw : ((w1.alloc (.cells #[.int .i64 (otSt (vw on c) N : Nat), .slice (some ⟨p, o, none⟩) (Jo.needF g) k, .int .i64 (s1 : Int), .slice (some ⟨q, r, none⟩) 1 1] 78)).alloc (.cells #[.int .i64 (otSt (vw on c) N : Nat), .slice (some ⟨p, o, none⟩) (Jo.needF g) k] 77)).heap[w1.heap.size]? = some (.cells #[.int .i64 (otSt (vw on c) N : Nat), .slice (some ⟨p, o, none⟩) (Jo.needF g) k, .int .i64 (s1 : Int), .slice (some ⟨q, r, none⟩) 1 1] 78 (0, 0)) := by
      rw [(alloc_facts _ _).2.1 _ (by simp)]; exact heap_alloc_new w1 _
    have HBw := hid hBw
    have HXw := hid hXw
    clear hBw hXw
    go_wp2_with fail
    refine wp_loop_rounds 2 ?_
    rw [rounds_succ]
    go_wp2_with fail
    generalize ((w1.alloc (.cells #[.int .i64 (otSt (vw on c) N : Nat), .slice (some ⟨p, o, none⟩) (Jo.needF g) k, .int .i64 (s1 : Int), .slice (some ⟨q, r, none⟩) 1 1] 78)).alloc (.cells #[.int .i64 (otSt (vw on c) N : Nat), .slice (some ⟨p, o, none⟩) (Jo.needF g) k] 77)) = Wa at *
    have hBa : Below w.heap.size w Wa := hb1.trans (HBw.out.mono hb1.size)
    refine (jwrite_c (H.out.later hBa) (otSt (vw on c) N) p o (Jo.needF g) k _ (HS0.out.later HBw.out) hend hm0).mono ?_
    rintro _ w2 ⟨rfl, hJ2, hO2⟩
    have hO2' : Out (fun k => k = b1 ∨ k = b2) Wa w2 := hO2.mono (fun k e => .inr e)
    have HZ2 := hid ((HZ0.out.lat hBa).disk (H.out.later hBa).2.1 hO2')
    have HS12 := hid ((HS1.out.later HBw.out).disk (by omega) (H.out.later hBa).2.1 hO2')
    have HX2 : Hid (w2.heap[w1.heap.size]? = some (.cells #[.int .i64 (otSt (vw on c) N : Nat), .slice (some ⟨p, o, none⟩) (Jo.needF g) k, .int .i64 (s1 : Int), .slice (some ⟨q, r, none⟩) 1 1] 78 (0, 0))) := row_disk HXw.out (H.out.later hBa).2.1 hO2'
    have cj2 := hJ2.cell
    have HJ2 := hid hJ2
    clear hJ2
    go_wp2_with fail
    refine (flush_c HJ2.out.2.1).mono ?_
    rintro _ w3 ⟨rfl, hD3, hO3⟩
    rw [updL_updO] at hD3
    have HJ3 := hid (HJ2.out.flushed hD3 hO3)
    have HZ3 := hid (HZ2.out.disk HJ2.out.2.1 hO3)
    have HS13 := hid (HS12.out.disk (by omega) HJ2.out.2.1 hO3)
    have hX3 := row_disk HX2.out HJ2.out.2.1 hO3
    have x32 : w3.cell? ⟨w1.heap.size, 2, none⟩ = some (.int .i64 (s1 : Int)) := by rw [cell_of_row w3 _ 2 _ _ _ hX3]; rfl
    have x33 : w3.cell? ⟨w1.heap.size, 3, none⟩ = some (.slice (some ⟨q, r, none⟩) 1 1) := by rw [cell_of_row w3 _ 3 _ _ _ hX3]; rfl
    have HO3 := hid (((Out.of (S := fun k => k = b1 ∨ k = b2) hBa).trans hO2').trans hO3)
    clear hO2 hO2' hO3 cj2 hD3 HZ2 HS12 HX2 hX3
    go_wp2
    rw [rounds_succ]
    go_wp2_with fail
    refine (jwrite_c HJ3.out s1 q r 1 1 _ HS13.out hend1 (by omega)).mono ?_
    rintro _ w4 ⟨rfl, hJ4, hO4⟩
    have hO4' : Out (fun k => k = b1 ∨ k = b2) w3 w4 := hO4.mono (fun k e => .inr e)
    have HZ4 := hid (HZ3.out.disk HJ3.out.2.1 hO4')
    have HO4 := hid (HO3.out.trans hO4')
    have cj4 := hJ4.cell
    have HJ4 := hid hJ4
    clear hJ4 hO4 hO4'
    go_wp2_with fail
    refine (crash_c HJ4.out.2.1 z zl zc zs HZ4.out).mono ?_
    rintro _ w5 ⟨rfl, hD5, hO5⟩
    have HO5 := hid hO5
    have HD5 := hid hD5
    clear hD5 hO5
    go_wp2
    go_ret
    refine .inr (.inr ⟨HZ.out, HF.out, HM.out, rfl, ?_, HO4.out.trans HO5.out⟩)
    have := HJ4.out.flushed HD5.out HO5.out
    have e : (fun i => if i ∈ zs then (updL (fun _ => none) s1 [Jo.headS ((best (vw on c) 2).2 + 1)] i).getD (updO (vw on c) (otSt (vw on c) N) (Jo.laid g ((best (vw on c) 2).2 + 1) 1) i) else updO (vw on c) (otSt (vw on c) N) (Jo.laid g ((best (vw on c) 2).2 + 1) 1) i) = tornF 1 zs on (updO (vw on c) (otSt (vw on c) N) (Jo.laid g ((best (vw on c) 2).2 + 1) 1)) (setTo (vw on c) N g) := by
      unfold tornF
      rw [if_neg (by decide)]
      have e2 : setTo (vw on c) N g = fun i => (updL (fun _ => none) s1 [Jo.headS ((best (vw on c) 2).2 + 1)] i).getD (updO (vw on c) (otSt (vw on c) N) (Jo.laid g ((best (vw on c) 2).2 + 1) 1) i) := by
        rw [updL_updO, vw_none, ← HQ.out]; rfl
      rw [e2]
    rw [e] at this
    exact this
end Go.Proofs.Ytfmkgflhgapeoab
namespace Go.Proofs.Ytfmkgflhgapeoab
open Go.RowKit Go.ChangeShapes Go.WideShapes Go.ChangeAt Go.Maps
set_option linter.unusedVariables false
set_option linter.unusedSimpArgs false
def lv0 : Int → Sec := fun _ => zsec
def lv1 : Int → Sec := added lv0 20 [[97]]
def lv2 : Int → Sec := added lv1 20 [[98], []]
def lv3 : Int → Sec := setTo lv2 20 [[99]]
theorem need1 : Jo.needF [[97]] = 3 := by decide +kernel
theorem need2 : Jo.needF [[98], []] = 3 := by decide +kernel
theorem need3 : Jo.needF [[99]] = 3 := by decide +kernel
theorem best0 : best lv0 2 = (0, 0) := by decide +kernel
theorem grps0 : grps lv0 20 = [] := by decide +kernel
theorem end0 : arEnd lv0 20 = 2 := by decide +kernel
theorem end1 : arEnd lv1 20 = 5 := by decide +kernel
theorem st1 : arSt lv1 20 = 2 := by decide +kernel
theorem grps2 : grps lv2 20 = [[[97]], [[98], []]] := by decide +kernel
theorem best2 : (best lv2 2).2 = 0 := by decide +kernel
theorem grps3 : grps lv3 20 = [[[99]]] := by decide +kernel
end Go.Proofs.Ytfmkgflhgapeoab
namespace Go.Proofs.Ytfmkgflhgapeoab
open Go.RowKit Go.ChangeShapes Go.WideShapes Go.ChangeAt Go.Maps
set_option linter.unusedVariables false
set_option linter.unusedSimpArgs false
theorem isB_one (W : World) (x : Int) (h0 : 0 ≤ x) (h1 : x ≤ 255) : IsB (W.alloc (.cells #[.int .u8 x] 5 (1, 2))) (some ⟨W.heap.size, 0, none⟩) 1 [x] := by
  refine ⟨rfl, by unfold maxLen; omega, fun _ => ⟨W.heap.size, 0, rfl, fun i hi => ?_⟩, fun i => ?_⟩
  · obtain rfl : i = 0 := by omega
    rw [cell_of_row _ _ _ _ _ _ (heap_alloc_new W _)]
    simp
  · rcases i with _ | i
    · simpa using ⟨h0, h1⟩
    · simp
theorem isB_nil (W : World) : IsB W none 0 [] := ⟨rfl, Nat.zero_le _, fun h => absurd h (by omega), fun i => by simp⟩
theorem isG_one (W : World) (x : Int) (h0 : 0 ≤ x) (h1 : x ≤ 255) : IsG0 ((W.alloc (.cells #[.int .u8 x] 5 (1, 2))).alloc (.cells #[.slice (some ⟨W.heap.size, 0, none⟩) 1 1] 31)) (some ⟨W.heap.size + 1, 0, none⟩) 1 [[x]] := by
  have hn := heap_alloc_new (W.alloc (.cells #[.int .u8 x] 5 (1, 2))) (.cells #[.slice (some ⟨W.heap.size, 0, none⟩) 1 1] 31)
  have hs : (W.alloc (.cells #[.int .u8 x] 5 (1, 2))).heap.size = W.heap.size + 1 := by simp
  rw [hs] at hn
  refine ⟨rfl, by unfold maxLen; omega, fun _ => ⟨W.heap.size + 1, 0, rfl, fun i hi => ?_⟩⟩
  obtain rfl : i = 0 := by omega
  refine ⟨some ⟨W.heap.size, 0, none⟩, 1, ?_, (isB_one W x h0 h1).later ((Below.refl _ _).alloc (Nat.le_refl _) _), Nat.le_refl _, fun e => by cases e⟩
  rw [cell_of_row _ _ _ _ _ _ hn]
  simp
theorem isG_two (W : World) (x : Int) (h0 : 0 ≤ x) (h1 : x ≤ 255) : IsG0 ((W.alloc (.cells #[.int .u8 x] 5 (1, 2))).alloc (.cells #[.slice (some ⟨W.heap.size, 0, none⟩) 1 1, .slice none 0 0] 31)) (some ⟨W.heap.size + 1, 0, none⟩) 2 [[x], []] := by
  have hn := heap_alloc_new (W.alloc (.cells #[.int .u8 x] 5 (1, 2))) (.cells #[.slice (some ⟨W.heap.size, 0, none⟩) 1 1, .slice none 0 0] 31)
  have hs : (W.alloc (.cells #[.int .u8 x] 5 (1, 2))).heap.size = W.heap.size + 1 := by simp
  rw [hs] at hn
  refine ⟨rfl, by unfold maxLen; omega, fun _ => ⟨W.heap.size + 1, 0, rfl, fun i hi => ?_⟩⟩
  rcases i with _ | i
  · refine ⟨some ⟨W.heap.size, 0, none⟩, 1, ?_, (isB_one W x h0 h1).later ((Below.refl _ _).alloc (Nat.le_refl _) _), Nat.le_refl _, fun e => by cases e⟩
    rw [cell_of_row _ _ _ _ _ _ hn]
    simp
  · obtain rfl : i = 0 := by omega
    refine ⟨none, 0, ?_, isB_nil _, Nat.le_refl _, fun _ => rfl⟩
    rw [cell_of_row _ _ _ _ _ _ hn]
    simp
theorem below_two {B : Nat} {a W : World} (h : Below B a W) (hB : B ≤ W.heap.size) (o o' : Obj) : Below B a ((W.alloc o).alloc o') := (h.alloc hB o).alloc (by simp; omega) o'
theorem isB_conv {w : World} {b off len cap : Nat} {zs : List Int} (h : IsB w (some ⟨b, off, none⟩) len zs) (hp : 0 < len) : (convert 31 9 (.slice (some ⟨b, off, none⟩) len cap)).run Try.prog w = .ok (.string (Fr.tx zs)) w := by
  obtain ⟨h1, h2, h3, h4⟩ := h
  refine run_convert_bytes_arg w 31 5 Try.underlying31 Try.underlying5 b off len cap zs h1 (fun i hi => ?_) 9 Try.underlying9
  obtain ⟨b', off', e, hc⟩ := h3 (by omega)
  cases e
  exact hc i hi
/-- A slice of groups. -/
def IsGs (w : World) (a : Option Addr) (n : Nat) (L : List Jo.Gr) : Prop :=
  L.length = n ∧ n ≤ maxLen ∧ (0 < n → ∃ b off, a = some ⟨b, off, none⟩ ∧ ∀ i, i < n → ∃ ga gc, w.cell? ⟨b, off + i, none⟩ = some (.slice ga (L.getD i []).length gc) ∧ IsG0 w ga (L.getD i []).length (L.getD i []))
theorem IsGs.later {w w' : World} {a : Option Addr} {n : Nat} {L : List Jo.Gr} (h : IsGs w a n L) (hb : Below w.heap.size w w') : IsGs w' a n L := by
  obtain ⟨h1, h2, h3⟩ := h
  refine ⟨h1, h2, fun hp => ?_⟩
  obtain ⟨b, off, e, hc⟩ := h3 hp
  refine ⟨b, off, e, fun i hi => ?_⟩
  obtain ⟨ga, gc, c1, c2⟩ := hc i hi
  exact ⟨ga, gc, cell_later hb c1, c2.later hb⟩
theorem PGs.isGs {B : Nat} {w : World} {v : Value} {L : List Jo.Gr} (h : PGs B w v L) (hm : L.length ≤ 100000) (hs : ∀ g ∈ L, g.length ≤ 100000) : ∃ a cap, v = .slice a L.length cap ∧ IsGs w a L.length L ∧ L.length ≤ cap := by
  obtain ⟨vals, h1, h2⟩ := h
  rcases h1.2 with ⟨rfl, hn⟩ | ⟨g, cap, cur, rfl, hg, hbk, hnc, hcm, hcs, ht⟩
  · exact ⟨none, 0, by rw [hn], ⟨rfl, by unfold maxLen; omega, fun hp => by omega⟩, by omega⟩
  · refine ⟨some ⟨g, 0, none⟩, cap, rfl, ⟨rfl, by unfold maxLen; omega, fun hp => ⟨g, 0, rfl, fun i hi => ?_⟩⟩, hnc⟩
    obtain ⟨u, e1, e2⟩ := h2 i hi
    have hmem : L.getD i [] ∈ L := by rw [List.getD, List.getElem?_eq_getElem hi]; exact List.getElem_mem hi
    obtain ⟨ga, gc, rfl, k1⟩ := e2.isG0 (hs _ hmem)
    refine ⟨ga, gc, ?_, k1⟩
    rw [cell_of_row w g _ cur 22 (0, 0) hbk]
    have e4 : (cur.toList.take (L.length * 1))[i]? = vals[i]? := by rw [ht]
    rw [List.getElem?_take, if_pos (by omega)] at e4
    rw [Nat.zero_add, ← Array.getElem?_toList, e4, e1]
theorem isG_zeros (W : World) (n : Nat) (hn : n ≤ 1000) : IsG ((W.alloc (.cells (Array.replicate n (.int .u8 0)) 5)).alloc (.cells #[.slice (some ⟨W.heap.size, 0, none⟩) n n] 31)) (some ⟨W.heap.size + 1, 0, none⟩) 1 [List.replicate n 0] := by
  have hn2 := heap_alloc_new (W.alloc (.cells (Array.replicate n (.int .u8 0)) 5)) (.cells #[.slice (some ⟨W.heap.size, 0, none⟩) n n] 31)
  have hs : (W.alloc (.cells (Array.replicate n (.int .u8 0)) 5)).heap.size = W.heap.size + 1 := by simp
  rw [hs] at hn2
  have hb : IsB (W.alloc (.cells (Array.replicate n (.int .u8 0)) 5)) (some ⟨W.heap.size, 0, none⟩) n (List.replicate n 0) := by
    refine ⟨by simp, by unfold maxLen; omega, fun _ => ⟨W.heap.size, 0, rfl, fun i hi => ?_⟩, fun i => ?_⟩
    · rw [cell_of_row _ _ _ _ _ _ (heap_alloc_new W _)]
      simp [hi, List.getD]
    · by_cases hi : i < n <;> simp [List.getD, hi]
  refine ⟨rfl, by unfold maxLen; omega, fun _ => ⟨W.heap.size + 1, 0, rfl, fun i hi => ?_⟩⟩
  obtain rfl : i = 0 := by omega
  refine ⟨some ⟨W.heap.size, 0, none⟩, n, ?_, by simpa using hb.later ((Below.refl _ _).alloc (Nat.le_refl _) _), by simp⟩
  rw [cell_of_row _ _ _ _ _ _ hn2]
  simp
theorem infoB : (Try.prog.info? 5).map (fun i => (i.zero, i.size, i.bytes)) = some (some (.int .u8 0), 1, 1) := by kernel_rfl
theorem made_rep (n : Nat) (z : Value) : madeCells #[z] n = Array.replicate n z := by
  apply Array.ext
  · simp [size_madeCells]
  · intro i h1 h2
    simp [madeCells, Nat.mod_one]
theorem make_bytes (n : Nat) (hn : n ≤ 100000) (W : World) : (Instr.makeSlice 31 (.int .i64 (n : Int)) (.int .i64 (n : Int))).run Try.prog W = .ok (.slice (some ⟨W.heap.size, 0, none⟩) n n) (W.alloc (.cells (Array.replicate n (.int .u8 0)) 5)) := by
  have := run_make_row' (P := Try.prog) 31 5 (.int .u8 0) 1 Try.underlying31 infoB rfl .i64 .i64 n (by omega) (by omega) W
  rw [made_rep] at this
  exact this
theorem need27 : Jo.needF [List.replicate 27 0] = 3 := by decide +kernel
set_option maxRecDepth 100000 in
set_option maxHeartbeats 4000000 in
theorem jlive_c (w : World) : Calls Try.prog 10 #[] w fun e w' => e = .returned (.bool true) ∧ Below w.heap.size w w' := by
  have kc := fun (w : World) (C : Array Value) (n c : Nat) => Lib.run_convert_bytes_const (P := Try.prog) w 31 5 C n c Try.underlying31 Try.underlying5
  go_enter Try.func10, Try.ntmps10
  go_wp2_with (first
    | (go_at_call 4; refine (new_c 20 _ (by omega) (by omega)).mono ?_; rintro _ w1 ⟨rfl, hD1, hb1, hs1⟩; have OC := hid (open_c hD1 (by omega)))
    | (go_at_call 8; refine OC.out.mono ?_; rintro _ w2 ⟨j, d, p1, p2, rfl, hJ2, hl2, hb2⟩))
  have HB2 := hid (hb1.trans (hb2.mono hb1.size))
  have hl : w.heap.size ≤ p1 ∧ w.heap.size ≤ p2 := by have := hb1.size; omega
  have hb3 := below_two (Below.refl _ w2) (Nat.le_refl _) (.cells #[.int .u8 97] 5 (1, 2)) (.cells #[.slice (some ⟨w2.heap.size, 0, none⟩) 1 1] 31)
  have HB3 := hid (HB2.out.trans (hb3.mono HB2.out.size))
  have AC := hid (append_c (hJ2.later hb3) (some ⟨w2.heap.size + 1, 0, none⟩) 1 1 [[97]] (isG_one w2 97 (by omega) (by omega)))
  clear hD1 hb1 hs1 OC hJ2 hl2 hb2
  refine AC.out.mono ?_
  rintro _ w4 (⟨hz, _⟩ | ⟨_, hz, _⟩ | ⟨_, _, rfl, hJ4, ho4⟩)
  · rw [need1] at hz; omega
  · rw [need1, show arSt (vw (fun x => zsec) fun x => none) 20 = 2 from by decide +kernel, show arEnd (vw (fun x => zsec) fun x => none) 20 = 2 from end0, show asz 20 = 9 from rfl] at hz; omega
  have HB4 := hid (HB3.out.trans (ho4.below HB3.out.size (fun k e => by omega)))
  change IsJ w4 j d p1 p2 20 lv1 _ at hJ4
  have HJ4 := hid hJ4
  clear AC hb3 hJ4 ho4
  go_wp2_with fail
  have hb5 := below_two (Below.refl _ w4) (Nat.le_refl _) (.cells #[.int .u8 98] 5 (1, 2)) (.cells #[.slice (some ⟨w4.heap.size, 0, none⟩) 1 1, .slice none 0 0] 31)
  have HB5 := hid (HB4.out.trans (hb5.mono HB4.out.size))
  have AC := hid (append_c (HJ4.out.later hb5) (some ⟨w4.heap.size + 1, 0, none⟩) 2 2 [[98], []] (isG_two w4 98 (by omega) (by omega)))
  refine AC.out.mono ?_
  rintro _ w6 (⟨hz, _⟩ | ⟨_, hz, _⟩ | ⟨_, _, rfl, hJ6, ho6⟩)
  · rw [need2] at hz; omega
  · change arSt lv1 20 + asz 20 < arEnd lv1 20 + _ at hz
    rw [need2, st1, end1, show asz 20 = 9 from rfl] at hz; omega
  have HB6 := hid (HB5.out.trans (ho6.below HB5.out.size (fun k e => by omega)))
  change IsJ w6 j d p1 p2 20 lv2 _ at hJ6
  have HJ6 := hid hJ6
  have GC := hid (groups_all_c hJ6)
  clear AC hb5 hJ6 ho6 HJ4
  go_wp2_with fail
  refine GC.out.mono ?_
  rintro _ w7 ⟨v7, rfl, hg7, hb7⟩
  change PGs _ _ _ (grps lv2 20) at hg7
  rw [grps2] at hg7
  obtain ⟨vals7, ho7, _⟩ := hg7
  obtain ⟨a7, cap7, rfl⟩ := own_shape6 ho7
  have HB7 := hid (HB6.out.trans (hb7.mono HB6.out.size))
  have HJ7 := hid (HJ6.out.later hb7)
  clear GC ho7 hb7 HJ6
  simp only [List.length_cons, List.length_nil, Nat.zero_add, Nat.reduceAdd]
  go_wp2_with fail
  have hb8 := below_two (Below.refl _ w7) (Nat.le_refl _) (.cells #[.int .u8 99] 5 (1, 2)) (.cells #[.slice (some ⟨w7.heap.size, 0, none⟩) 1 1] 31)
  have HB8 := hid (HB7.out.trans (hb8.mono HB7.out.size))
  have RC := hid (reset_c (HJ7.out.later hb8) (some ⟨w7.heap.size + 1, 0, none⟩) 1 1 [[99]] (isG_one w7 99 (by omega) (by omega)))
  refine RC.out.mono ?_
  rintro _ w9 (⟨hz, _⟩ | ⟨_, hz, _⟩ | ⟨_, _, _, rfl, hJ9, ho9⟩)
  · rw [need3] at hz; omega
  · change asz 20 < _ ∨ (best lv2 2).2 = _ at hz
    rw [need3, best2, show asz 20 = 9 from rfl] at hz; omega
  have HB9 := hid (HB8.out.trans (ho9.below HB8.out.size (fun k e => by omega)))
  change IsJ w9 j d p1 p2 20 lv3 _ at hJ9
  have GC := hid (groups_all_c hJ9)
  clear RC hb8 hJ9 ho9 HJ7
  go_wp2_with fail
  refine GC.out.mono ?_
  rintro _ w10 ⟨v10, rfl, hg10, hb10⟩
  change PGs _ _ _ (grps lv3 20) at hg10
  rw [grps3] at hg10
  have HB10 := hid (HB9.out.trans (hb10.mono HB9.out.size))
  obtain ⟨a10, cap10, rfl, hG10, hcap⟩ := hg10.isGs (by simp) (by simp)
  simp only [List.length_cons, List.length_nil, Nat.zero_add] at hG10 hcap ⊢
  obtain ⟨_, _, h3⟩ := hG10
  obtain ⟨b, off, rfl, hc⟩ := h3 (by omega)
  obtain ⟨ga, gc, c1, hgg⟩ := hc 0 (by omega)
  obtain ⟨_, _, h4⟩ := hgg
  obtain ⟨b', off', rfl, hc'⟩ := h4 (by simp)
  obtain ⟨pa, pc, c2, hB, hpc, _⟩ := hc' 0 (by simp)
  have hB' := hB
  obtain ⟨_, _, h5, _⟩ := hB'
  obtain ⟨b'', off'', rfl, _⟩ := h5 (by simp)
  have kv := isB_conv (cap := pc) hB (by simp)
  simp only [List.getD_cons_zero, List.length_cons, List.length_nil, Nat.zero_add, Nat.add_zero] at c1 c2 kv
  rw [show Fr.tx [99] = (⟨#[99]⟩ : ByteArray) from rfl] at kv
  have NC := hid (needs_c (some ⟨w10.heap.size + 1, 0, none⟩) 1 1 [List.replicate 27 0] _ (isG_zeros w10 27 (by omega)))
  rw [need27] at NC
  have hmk : ∀ W : World, (Instr.makeSlice 31 (.int .i64 27) (.int .i64 27)).run Try.prog W = .ok (.slice (some ⟨W.heap.size, 0, none⟩) 27 27) (W.alloc (.cells (Array.replicate 27 (.int .u8 0)) 5)) := make_bytes 27 (by omega)
  clear hg10 hc hc' hB h3 h4 h5 GC hb10 hcap hpc
  go_wp2_with (go_at_call 21; refine NC.out.mono ?_; rintro _ w11 ⟨rfl, rfl⟩)
  go_ret
  exact ⟨rfl, below_two HB10.out HB10.out.size _ _⟩
end Go.Proofs.Ytfmkgflhgapeoab
namespace Go.Proofs.Ytfmkgflhgapeoab
open Go.RowKit Go.ChangeShapes Go.WideShapes Go.ChangeAt
set_option linter.unusedVariables false
set_option linter.unusedSimpArgs false
set_option maxRecDepth 100000
theorem isB_trod {H : Type} {enc : TypeId × Value → H} {P : Program} {W : World} {t e : TypeId} {cs : List Value} {fuel : Nat} {x : DataW H × List MemPlace} {sp : Nat → Bool} {hd : Bool} {b0 : Nat}
    (ht : P.underlying t = some (.slice e)) (he : P.underlying e = some (.int .u8)) (hc : P.cellsOf e = 1)
    (hf : DataW.trod enc P W b0 sp hd fuel t cs = some x) (hsp : ∀ k, sp k = true) : ∃ a len cap zs, cs = [.slice a len cap] ∧ IsB W a len zs ∧ len ≤ cap ∧ (a = none → cap = 0) := by
  rcases open_ints ht he hc hf with ⟨hcs, _⟩ | ⟨x, l, c, zs, hcs, _, hl, hm, hz, _, hcell, hwz⟩
  · exact ⟨none, 0, 0, [], hcs, ⟨rfl, Nat.zero_le _, fun h => absurd h (by omega), fun i => by simp⟩, Nat.le_refl _, fun _ => rfl⟩
  · rw [hsp] at hz
    have hz' : zs.length = c := by simpa using hz
    have hb : IsB W (some x) c zs := by
      refine ⟨hz', hm, fun hp => ?_, fun i => ?_⟩
      · obtain ⟨b, off, spot⟩ := x
        have hc0 := hcell 0 (by omega)
        have hspot : spot = none := by simpa [Addr.add] using World.cell?_spot hc0
        subst hspot
        exact ⟨b, off, rfl, fun i hi => by
          have h := hcell i (by omega)
          rcases i with _ | i <;> simpa [Addr.add] using h⟩
      · by_cases hi : i < zs.length
        · have hmem : zs.getD i 0 ∈ zs := by simp [List.getD, hi]
          have := bd_u8 (hwz _ hmem)
          omega
        · simp [List.getD, List.getElem?_eq_none (by omega : zs.length ≤ i)]
    exact ⟨some x, l, c, zs.take l, hcs, hb.front l hl, hl, fun e => by cases e⟩
theorem isG_trod {H : Type} {enc : TypeId × Value → H} {W : World} {cs : List Value} {fuel : Nat} {x : DataW H × List MemPlace} {sp : Nat → Bool} {hd : Bool} {b0 : Nat}
    (hf : DataW.trod enc Try.prog W b0 sp hd fuel 22 cs = some x) (hsp : ∀ k, sp k = true) : ∃ a len cap g, cs = [.slice a len cap] ∧ IsG0 W a len g ∧ len ≤ cap ∧ (a = none → cap = 0) := by
  have hct : Try.prog.cellsOf 31 = 1 := by kernel_rfl
  have hcu : Try.prog.cellsOf 5 = 1 := by kernel_rfl
  rcases DataW.trod_slice Try.underlying22 hf with ⟨hcs, _⟩ | ⟨y, l, c, elems, rest, n, _, hcs, _, hb, hl, hm, hlen, hel, _⟩
  · exact ⟨none, 0, 0, [], hcs, ⟨rfl, Nat.zero_le _, fun h => absurd h (by omega)⟩, Nat.le_refl _, fun _ => rfl⟩
  · rw [hct] at hel
    have each : ∀ i, i < l → ∃ (q : (Option Addr × Nat) × List Int), W.cell? ((y.add (i * 1)).add 0) = some (.slice q.1.1 q.2.length q.1.2) ∧ IsB W q.1.1 q.2.length q.2 ∧ q.2.length ≤ q.1.2 ∧ (q.1.1 = none → q.1.2 = 0) := by
      intro i hi
      have h1 := hel i hi
      have h2 : elems[i]? = some elems[i] := List.getElem?_eq_getElem (by omega)
      rw [h2, Option.bind_eq_some_iff] at h1
      obtain ⟨cs', hc, hy⟩ := h1
      obtain ⟨pa, pl, pc, zs, hq, hB, hpl, hpn⟩ := isB_trod Try.underlying31 Try.underlying5 hcu hy hsp
      obtain ⟨_, hl6, hg⟩ := World.cells?_some hc
      refine ⟨((pa, pc), zs), ?_, ?_, ?_, hpn⟩
      · rw [hg 0 (by omega), hq, hB.1]; rfl
      · rw [hB.1]; exact hB
      · rw [hB.1]; exact hpl
    obtain ⟨f, hf'⟩ : ∃ f : Nat → (Option Addr × Nat) × List Int, ∀ i, i < l → W.cell? ((y.add (i * 1)).add 0) = some (.slice (f i).1.1 (f i).2.length (f i).1.2) ∧ IsB W (f i).1.1 (f i).2.length (f i).2 ∧ (f i).2.length ≤ (f i).1.2 ∧ ((f i).1.1 = none → (f i).1.2 = 0) := by
      classical
      refine ⟨fun i => if h : i < l then (each i h).choose else ((none, 0), []), fun i hi => ?_⟩
      simp only [hi, dif_pos]
      exact (each i hi).choose_spec
    refine ⟨some y, l, c, (List.range l).map fun i => (f i).2, hcs, ⟨by simp, by omega, fun hp => ?_⟩, hl, fun e => by cases e⟩
    obtain ⟨b, off, spot⟩ := y
    have hc0 := (hf' 0 hp).1
    have hspot : spot = none := by simpa [Addr.add] using World.cell?_spot hc0
    subst hspot
    refine ⟨b, off, rfl, fun i hi => ?_⟩
    have hadd : ((⟨b, off, none⟩ : Addr).add (i * 1)).add 0 = ⟨b, off + i, none⟩ := by unfold Addr.add; split <;> split <;> simp_all
    have g : ((List.range l).map fun i => (f i).2).getD i [] = (f i).2 := by simp [List.getD, hi]
    rw [g]
    obtain ⟨k1, k2, k3, k4⟩ := hf' i hi
    rw [hadd] at k1
    exact ⟨_, _, k1, k2, k3, k4⟩
theorem isG_of {H : Type} {enc : TypeId × Value → H} {W : World} {a : Option Addr} {len cap : Nat} {d : DataW H} {p : List MemPlace}
    (h : DataW.Trod enc Try.prog W 0 (fun _ => true) true 22 (.slice a len cap) d p) : ∃ g, IsG0 W a len g ∧ len ≤ cap ∧ (a = none → cap = 0) := by
  obtain ⟨fuel, hf⟩ := h
  obtain ⟨a', l', c', g, hcs, hG, hl, hn⟩ := isG_trod hf (fun _ => rfl)
  simp [Value.cells] at hcs
  obtain ⟨rfl, rfl, rfl⟩ := hcs
  exact ⟨g, hG, hl, hn⟩
theorem IsG0.front {w : World} {a : Option Addr} {len : Nat} {g : Jo.Gr} (h : IsG0 w a len g) (m : Nat) (hm : m ≤ len) : IsG0 w a m (g.take m) := by
  obtain ⟨h1, h2, h3⟩ := h
  refine ⟨by rw [List.length_take]; omega, by omega, fun hp => ?_⟩
  obtain ⟨b, off, e, hc⟩ := h3 (by omega)
  refine ⟨b, off, e, fun i hi => ?_⟩
  have hg : (g.take m).getD i [] = g.getD i [] := by simp [List.getD, List.getElem?_take, hi]
  rw [hg]
  exact hc i (by omega)
end Go.Proofs.Ytfmkgflhgapeoab
namespace Go.Proofs.Ytfmkgflhgapeoab
open Go.RowKit Go.ChangeShapes Go.WideShapes Go.ChangeAt Go.Maps
set_option linter.unusedVariables false
set_option linter.unusedSimpArgs false
set_option maxHeartbeats 1000000 in
theorem rneed_c (a : Option Addr) (len cap : Nat) (g : Jo.Gr) (w : World) (h : IsG w a len g) :
    Calls Try.prog 63 #[.slice a len cap] w fun e w' => e = .returned (.int .i64 (Jo.needF g : Nat)) ∧ w' = w := by
  obtain ⟨h1, h2, h3⟩ := h
  unfold maxLen at h2
  by_cases hs : len < 1
  · have E := hid (need_len (g := g) (by omega))
    have hs' : (len : Int) < 1 := by omega
    clear h3
    go_enter Try.func63, Try.ntmps63
    go_wp2
    go_ret
    exact ⟨ret_int (by rw [E.out]; rfl), rfl⟩
  by_cases hg : 8 < len
  · have E := hid (need_len (g := g) (by omega))
    have hs' : ¬ (len : Int) < 1 := by omega
    have hg' : (8 : Int) < len := by omega
    clear h3
    go_enter Try.func63, Try.ntmps63
    go_wp2
    go_ret
    exact ⟨ret_int (by rw [E.out]; rfl), rfl⟩
  obtain ⟨b, off, rfl, hc⟩ := h3 (by omega)
  have hs' : ¬ (len : Int) < 1 := by omega
  have hg' : ¬ (8 : Int) < len := by omega
  have HC := hid hc
  have HL := hid h1
  clear hc h3 h1
  go_enter Try.func63, Try.ntmps63
  go_wp2
  go_loop [3, 4] (fun n i => ∃ k : Nat, k ≤ len ∧ i = .int .i64 k ∧ n = .int .i64 ((Jo.loadF (g.take k)).length : Nat) ∧ ∀ j, j < k → (g.getD j []).length ≤ 16384) (fun _ i => len - (intOf i).toNat)
  case atStart => exact ⟨0, Nat.zero_le _, rfl, by simp [Jo.loadF], fun j hj => by omega⟩
  case round =>
    obtain ⟨k, hk, rfl, rfl, hall⟩ := hrel
    have hle := load_take_le (g := g) (k := k) (by rw [HL.out]; exact hk) (by rw [HL.out]; omega) hall
    by_cases hlt : k < len
    · obtain ⟨pa, pc, c1, c2, c3⟩ := HC.out k hlt
      have hpl := c2.2.1
      unfold maxLen at hpl
      have HT := hid (load_len_take (g := g) (k := k) (by rw [HL.out]; exact hlt))
      have hltI : (k : Int) < len := by omega
      by_cases hbig : 16384 < (g.getD k []).length
      · have E := hid (need_big (g := g) k (by rw [HL.out]; exact hlt) hbig)
        generalize (g.getD k []).length = pl at *
        go_wp2
        go_ret
        exact ⟨ret_int (by rw [E.out]; rfl), rfl⟩
      · have HA := hid hall
        have HB := hid hbig
        clear hall
        generalize (Jo.loadF (g.take k)).length = q at *
        have hbig' : ¬ (16384 : Int) < ((g.getD k []).length : Nat) := by omega
        go_wp2
        go_round
        case rel => exact ⟨k + 1, by omega, by go_num, by rw [HT.out]; go_num, fun j hj => by
          by_cases e : j = k
          · subst e; exact Nat.le_of_not_lt HB.out
          · exact HA.out j (by omega)⟩
        case measure => simp [intOf]; omega
    · have ek : k = len := by omega
      subst ek
      have hne := need_all (g := g) (by rw [HL.out]; omega) (by rw [HL.out]; omega) (fun j hj => hall j (by rw [HL.out] at hj; exact hj))
      have ht : g.take k = g := List.take_of_length_le (by rw [HL.out]; exact Nat.le_refl _)
      rw [ht] at hle ⊢
      have E : Hid (((Jo.needF g : Nat) : Int) = 2 + (((Jo.loadF g).length : Int) + 30) / 31) := by show _ = _; rw [hne]; unfold Jo.secsOf Jo.many; omega
      clear hne ht hall
      go_wp2
      go_ret
      exact ⟨ret_int E.out.symm, rfl⟩
end Go.Proofs.Ytfmkgflhgapeoab
namespace Go.Proofs.Ytfmkgflhgapeoab
open Go.RowKit Go.ChangeShapes Go.WideShapes Go.ChangeAt
set_option linter.unusedVariables false
set_option linter.unusedSimpArgs false
set_option maxRecDepth 100000
/-- A deed: its kind, its group, whether it resets, its step, and the numbers that are kept. -/
structure De where
  k : Int
  ga : Option Addr
  gl : Nat
  gc : Nat
  g : Jo.Gr
  r : Bool
  st : Int
  a : Option Addr
  len : Nat
  cap : Nat
  zs : List Int
def De.cells (x : De) : List Value := [.int .i64 x.k, .slice x.ga x.gl x.gc, .bool x.r, .int .i64 x.st, .slice x.a x.len x.cap]
def De.val (x : De) : Value := .agg #[.int .i64 x.k, .slice x.ga x.gl x.gc, .bool x.r, .int .i64 x.st, .slice x.a x.len x.cap]
def De.Ok (w : World) (x : De) : Prop := (-9223372036854775808 ≤ x.k ∧ x.k < 9223372036854775808) ∧ (-9223372036854775808 ≤ x.st ∧ x.st < 9223372036854775808) ∧ (IsG0 w x.ga x.gl x.g ∧ x.gl ≤ x.gc ∧ (x.ga = none → x.gc = 0)) ∧ IsZ w x.a x.len x.zs
theorem isZ_trod {H : Type} {enc : TypeId × Value → H} {P : Program} {W : World} {t e : TypeId} {v : Value} {fuel : Nat} {x : DataW H × List MemPlace} {sp : Nat → Bool} {hd : Bool} {b0 : Nat}
    (ht : P.underlying t = some (.slice e)) (he : P.underlying e = some (.int .i64)) (hc : P.cellsOf e = 1)
    (hf : DataW.trod enc P W b0 sp hd fuel t [v] = some x) (hsp : ∀ k, sp k = true) : ∃ a len cap zs, v = .slice a len cap ∧ IsZ W a len zs := by
  rcases open_ints ht he hc hf with ⟨hcs, _⟩ | ⟨x, l, c, zs, hcs, _, hl, hm, hz, _, hcell, hwz⟩
  · simp at hcs
    exact ⟨none, 0, 0, [], hcs, rfl, Nat.zero_le _, fun h => absurd h (by omega), fun i => by simp⟩
  · simp at hcs
    rw [hsp] at hz
    have hz' : zs.length = c := by simpa using hz
    refine ⟨some x, l, c, zs.take l, hcs, by rw [List.length_take]; omega, by omega, fun hp => ?_, fun i => ?_⟩
    · obtain ⟨b, off, spot⟩ := x
      have hc0 := hcell 0 (by omega)
      have hspot : spot = none := by simpa [Addr.add] using World.cell?_spot hc0
      subst hspot
      refine ⟨b, off, rfl, fun i hi => ?_⟩
      have h := hcell i (by omega)
      have h2 : (⟨b, off, none⟩ : Addr).add i = ⟨b, off + i, none⟩ := by rcases i with _ | i <;> simp [Addr.add]
      rw [h2] at h
      rw [h]
      simp [List.getD, List.getElem?_take, hi]
    · by_cases hi : i < l
      · have hmem : (zs.take l).getD i 0 ∈ zs := by
          have : i < zs.length := by omega
          simp [List.getD, List.getElem?_take, hi, this]
        exact bd_i64 (hwz _ hmem)
      · simp [List.getD, List.getElem?_take, hi]
theorem trod_deed5 {H : Type} {enc : TypeId × Value → H} {W : World} {cs : List Value} {fuel : Nat} {x : DataW H × List MemPlace} {sp : Nat → Bool} {hd : Bool} {b0 : Nat} (hf : DataW.trod enc Try.prog W b0 sp hd fuel 25 cs = some x) (hsp : ∀ k, sp k = true) :
    ∃ q : De, cs = q.cells ∧ q.Ok W := by
  obtain ⟨xs, m, _, _, hlc, hlen, hel⟩ := DataW.trod_struct Try.underlying25 hf
  have hct : Try.prog.cellsOf 25 = 5 := by kernel_rfl
  have e1 : Try.prog.cellsOf 3 = 1 := by kernel_rfl
  have e2 : Try.prog.cellsOf 22 = 1 := by kernel_rfl
  have e3 : Try.prog.cellsOf 4 = 1 := by kernel_rfl
  have e4 : Try.prog.cellsOf 23 = 1 := by kernel_rfl
  rw [hct] at hlc
  match cs, hlc with
  | [c0, c1, c2, c3, c4], _ =>
    match xs, hlen with
    | [x0, x1, x2, x3, x4], _ =>
      have h0 := hel 0 _ rfl
      have h1 := hel 1 _ rfl
      have h2 := hel 2 _ rfl
      have h3 := hel 3 _ rfl
      have h4 := hel 4 _ rfl
      simp [e1, e2, e3, e4] at h0 h1 h2 h3 h4
      obtain ⟨n0, q0, _, w0⟩ := DataW.trod_int Try.underlying3 h0
      obtain ⟨ga, gl, gc, g, q1, hg⟩ := isG_trod h1 hsp
      obtain ⟨n2, q2, _⟩ := DataW.trod_bool Try.underlying4 h2
      obtain ⟨n3, q3, _, w3⟩ := DataW.trod_int Try.underlying3 h3
      obtain ⟨a, l, c, zs, q4, hz⟩ := isZ_trod Try.underlying23 Try.underlying3 e1 h4 hsp
      simp at q0 q1 q2 q3
      subst q0 q1 q2 q3 q4
      exact ⟨⟨n0, ga, gl, gc, g, n2, n3, a, l, c, zs⟩, rfl, bd_i64 w0, bd_i64 w3, hg, hz⟩
theorem open_deed5 {H : Type} {enc : TypeId × Value → H} {W : World} {r : Reach} {b0 : Nat} {v : Value} {d : DataW H} {p : List MemPlace}
    (hv : Value.okWide Try.prog W r b0 25 v) (h : DataW.Trod enc Try.prog W 0 (fun _ => true) true 25 v d p) :
    ∃ q : De, v = q.val ∧ q.Ok W := by
  simp only [Value.okWide, Try.underlying25] at hv
  obtain ⟨cs, rfl, hsz, _⟩ := hv
  obtain ⟨fuel, hf⟩ := h
  obtain ⟨q, hq, hw⟩ := trod_deed5 hf (fun _ => rfl)
  refine ⟨q, ?_, hw⟩
  have : cs = #[.int .i64 q.k, .slice q.ga q.gl q.gc, .bool q.r, .int .i64 q.st, .slice q.a q.len q.cap] := by
    apply Array.ext'
    simpa [Value.cells, De.cells] using hq
  rw [this]; rfl
def De.no : De := ⟨0, none, 0, 0, [], false, 0, none, 0, 0, []⟩
/-- Deeds that came in. -/
def IsD5s (w : World) (a : Option Addr) (len : Nat) (f : Nat → De) : Prop :=
  len ≤ maxLen ∧ ∀ m, m < len → ∃ b off, a = some ⟨b, off, none⟩ ∧ w.rangeAt b (off + m * 5) (f m).cells ∧ (f m).Ok w
theorem isD5s_of {H : Type} {enc : TypeId × Value → H} {W : World} {t : TypeId} {a : Option Addr} {len cap : Nat} {d : DataW H} {p : List MemPlace} (ht : Try.prog.underlying t = some (.slice 25))
    (h : DataW.Trod enc Try.prog W 0 (fun _ => true) true t (.slice a len cap) d p) : ∃ f, IsD5s W a len f := by
  obtain ⟨fuel, hf⟩ := h
  have hct : Try.prog.cellsOf 25 = 5 := by kernel_rfl
  rcases DataW.trod_slice ht hf with ⟨hcs, _⟩ | ⟨x, l, c, elems, rest, n, _, hcs, _, hb, hl, hm, hlen, hel, _⟩
  · simp [Value.cells] at hcs
    obtain ⟨rfl, rfl, rfl⟩ := hcs
    exact ⟨fun _ => De.no, Nat.zero_le _, fun m h => absurd h (by omega)⟩
  · simp [Value.cells] at hcs
    obtain ⟨rfl, rfl, rfl⟩ := hcs
    rw [hct] at hel
    have each : ∀ i, i < len → ∃ q : De, (∀ j, j < 5 → W.cell? ((x.add (i * 5)).add j) = (q.cells)[j]?) ∧ q.Ok W := by
      intro i hi
      have h1 := hel i hi
      have h2 : elems[i]? = some elems[i] := List.getElem?_eq_getElem (by omega)
      rw [h2, Option.bind_eq_some_iff] at h1
      obtain ⟨cs, hc, hy⟩ := h1
      obtain ⟨q, hq, hw⟩ := trod_deed5 hy (fun _ => rfl)
      obtain ⟨_, hl6, hg⟩ := World.cells?_some hc
      refine ⟨q, fun j hj => ?_, hw⟩
      rw [hg j hj, hq]
    obtain ⟨f, hf'⟩ : ∃ f : Nat → De, ∀ i, i < len → (∀ j, j < 5 → W.cell? ((x.add (i * 5)).add j) = ((f i).cells)[j]?) ∧ (f i).Ok W := by
      classical
      refine ⟨fun i => if h : i < len then (each i h).choose else De.no, fun i hi => ?_⟩
      simp only [hi, dif_pos]
      exact (each i hi).choose_spec
    refine ⟨f, by omega, fun m hm => ?_⟩
    obtain ⟨b, off, spot⟩ := x
    have hc0 := (hf' 0 (by omega)).1 0 (by omega)
    have hspot : spot = none := by
      have e0 : ((f 0).cells)[0]? = some (.int .i64 (f 0).k) := rfl
      rw [e0] at hc0
      simpa [Addr.add] using World.cell?_spot hc0
    subst hspot
    have hadd : ∀ j, ((⟨b, off, none⟩ : Addr).add (m * 5)).add j = ⟨b, off + m * 5 + j, none⟩ := fun j => by unfold Addr.add; split <;> split <;> simp_all <;> omega
    obtain ⟨key, k2⟩ := hf' m hm
    refine ⟨b, off, rfl, fun j v hv => ?_, k2⟩
    have hj : j < 5 := (List.getElem?_eq_some_iff.1 hv).1
    have := key j hj
    rw [hadd] at this
    rw [this]; exact hv
theorem range_out {w w' : World} {g o : Nat} {cs : List Value} (h : w.rangeAt g o cs) (hb : Below w.heap.size w w') : w'.rangeAt g o cs := fun j v hv => cell_later hb (h j v hv)
theorem De.Ok.later {w w' : World} {x : De} (h : x.Ok w) (hb : Below w.heap.size w w') : x.Ok w' :=
  ⟨h.1, h.2.1, ⟨h.2.2.1.1.later hb, h.2.2.1.2⟩, h.2.2.2.lat hb⟩
theorem IsD5s.later {w w' : World} {a : Option Addr} {len : Nat} {f : Nat → De} (h : IsD5s w a len f) (hb : Below w.heap.size w w') : IsD5s w' a len f :=
  ⟨h.1, fun m hm => by
    obtain ⟨b, off, e, h1, h2⟩ := h.2 m hm
    exact ⟨b, off, e, range_out h1 hb, h2.later hb⟩⟩
end Go.Proofs.Ytfmkgflhgapeoab
