/-
  A journal over its disk: read, area, readHead of the package journal.
-/
import Derived.Test.YtllohapbbmnipadJGroup
namespace Go.Proofs.Ytllohapbbmnipad
open Go.RowKit Go.ChangeShapes Go.WideShapes Go.ChangeAt Go.Maps
set_option linter.unusedVariables false
set_option linter.unusedSimpArgs false
/-- A journal: its cell in block j, its disk. -/
def IsJ (w : World) (j d b1 b2 N : Nat) (on : Int → Sec) (c : Int → Option Sec) : Prop :=
  w.heap[j]? = some (.cells #[pD d] 52 (0, 0)) ∧ IsD w d b1 b2 N on c ∧ 8 ≤ N
/-- What is read. -/
def vw (on : Int → Sec) (c : Int → Option Sec) (i : Int) : Sec := (c i).getD (on i)
theorem IsD.sec {w : World} {d b1 b2 N : Nat} {on : Int → Sec} {c : Int → Option Sec} (h : IsD w d b1 b2 N on c) (i : Int) : Jo.Sct (vw on c i) := by
  obtain ⟨_, _, _, _, h2, m, h3, h4⟩ := h
  have key : IsSec ((c i).getD (on i)) := by
    cases hc : c i with
    | some s => exact (h2.2 i s hc).1
    | none =>
      rw [Option.getD_none, h4 i]
      cases hm : m i with
      | none => exact zsec_is
      | some u => exact (h3.2 i u hm).1
  exact ⟨key.1, key.2⟩
theorem IsD.two {w : World} {d b1 b2 N : Nat} {on : Int → Sec} {c : Int → Option Sec} (h : IsD w d b1 b2 N on c) : N ≤ 2048 := h.2.2.2.1
theorem IsJ.later {w w' : World} {j d b1 b2 N : Nat} {on : Int → Sec} {c : Int → Option Sec} (h : IsJ w j d b1 b2 N on c) (hb : Below w.heap.size w w') : IsJ w' j d b1 b2 N on c :=
  ⟨by rw [hb.block j (lt_blk h.1)]; exact h.1, h.2.1.later hb, h.2.2⟩
theorem IsJ.cell {w : World} {j d b1 b2 N : Nat} {on : Int → Sec} {c : Int → Option Sec} (h : IsJ w j d b1 b2 N on c) : w.cell? ⟨j, 0, none⟩ = some (pD d) := by
  rw [cell_of_row w j 0 _ _ _ h.1]; rfl
set_option maxRecDepth 100000 in
set_option maxHeartbeats 1000000 in
theorem jread_c {w : World} {j d b1 b2 N : Nat} {on : Int → Sec} {c : Int → Option Sec} (h : IsJ w j d b1 b2 N on c) (i : Int) (h0 : 0 ≤ i) (h1 : i < N) :
    Calls Try.prog 38 #[pB j, .int .i64 i] w fun e w' => e = .returned (secV (vw on c i)) ∧ Below w.heap.size w w' := by
  have zz := zlit
  have hs := (h.2.1.sec i).1
  have hb1 : Below w.heap.size w (w.alloc (.cells (zsec.map by8).toArray 90)) := (Below.refl _ _).alloc (Nat.le_refl _) _
  have hJ1 := h.later hb1
  have c1 := hJ1.cell
  have RC := hid (read_c hJ1.2.1 i h0 h1)
  have R0 : (w.alloc (.cells (zsec.map by8).toArray 90)).heap[w.heap.size]? = some (.cells (zsec.map by8).toArray 90 (0, 0)) := heap_alloc_new w _
  have hz1 : (w.alloc (.cells (zsec.map by8).toArray 90)).heap.size = w.heap.size + 1 := by simp
  clear h hJ1
  change Hid (Calls Try.prog 69 #[pD d, .int .i64 i] _ fun e w' => e = .returned (.tuple #[secV (vw on c i), .int .i64 0]) ∧ _) at RC
  generalize vw on c i = S at *
  go_enter Try.func38, Try.ntmps38
  go_wp2_with fail
  generalize (w.alloc (.cells (zsec.map by8).toArray 90)) = W1 at *
  refine RC.out.mono ?_
  rintro _ w2 ⟨rfl, hb2⟩
  have R2 : w2.heap[w.heap.size]? = some (.cells (zsec.map by8).toArray 90 (0, 0)) := by rw [hb2.block _ (by omega)]; exact R0
  have hz2 : w.heap.size < w2.heap.size := by have := hb2.size; omega
  have n3 := heap_alloc_new w2 (.cells (S.map by8).toArray 90)
  have A3 := alloc_facts w2 (.cells (S.map by8).toArray 90)
  have B3 : Below w.heap.size w (w2.alloc (.cells (S.map by8).toArray 90)) := (hb1.trans (hb2.mono (by omega))).alloc (by omega) _
  have R3 : (w2.alloc (.cells (S.map by8).toArray 90)).heap[w.heap.size]? = some (.cells (zsec.map by8).toArray 90 (0, 0)) := by rw [A3.2.1 _ hz2]; exact R2
  go_wp2_with (first
    | (refine wpList_storeS _ rfl _ _ _ rfl sizeS _ rfl (by simp) S rfl hs _ (by simp; decide) ?_)
    | (refine wpList_loadS _ rfl _ _ rfl sizeS Try.underlying90 _ rfl S hs _ _ n3 ?_)
    | (refine wpList_storeA _ rfl _ _ _ rfl sizeS _ rfl S rfl hs _ _ R3 (by simp; decide) ?_; intro w4 k1 k2 k3))
  exact bodyPost_ret (v := secV S) (res_sec1 rfl _ _ sizeS Try.underlying90 w.heap.size rfl _ hs _ _ k1) rfl ⟨rfl, B3.trans (k2.below (by rw [A3.1]; omega) (fun k e => by omega))⟩
/-- An area: its number, its turn, its first sector, the first one behind it. -/
def arV (k t st en : Int) : Value := .agg #[.int .i64 k, .int .u32 t, .int .i64 st, .int .i64 en]
def asz (N : Nat) : Nat := (N - 2) / 2
set_option maxHeartbeats 1000000 in
theorem area_c {w : World} {j d b1 b2 N : Nat} {on : Int → Sec} {c : Int → Option Sec} (h : IsJ w j d b1 b2 N on c) (k : Nat) (hk : k ≤ 1) (t : Int) :
    Calls Try.prog 36 #[pB j, .int .i64 k, .int .u32 t] w fun e w' => e = .returned (arV k t ((2 + k * asz N : Nat) : Int) ((2 + k * asz N + asz N : Nat) : Int)) ∧ Below w.heap.size w w' := by
  have hb1 : Below w.heap.size w (w.alloc (.cells #[.int .i64 0, .int .u32 0, .int .i64 0, .int .i64 0] 60)) := (Below.refl _ _).alloc (Nat.le_refl _) _
  have hJ1 := h.later hb1
  have c1 := hJ1.cell
  have SC := hid (size_c hJ1.2.1)
  have hN := h.2.1.two
  have h8 := h.2.2
  have n1 := heap_alloc_new w (.cells #[.int .i64 0, .int .u32 0, .int .i64 0, .int .i64 0] 60)
  clear h hJ1
  have e1 : (((N : Int) - 2) / 2) = ((asz N : Nat) : Int) := by unfold asz; omega
  have hk2 : k = 0 ∨ k = 1 := by omega
  have haz : asz N ≤ 1023 := by unfold asz; omega
  rcases hk2 with rfl | rfl
  all_goals
    go_enter Try.func36, Try.ntmps36
    go_wp2_with (go_at_call 14; refine SC.out.mono ?_; rintro e w' ⟨rfl, rfl⟩)
    refine bodyPost_ret (results_cell_row rfl _ _ w.heap.size _ _ _ _ rfl (heap_alloc_new w _) Try.underlying60 rfl (by kernel_rfl)) rfl ⟨?_, (Below.refl _ _).alloc (Nat.le_refl _) _⟩
    unfold arV
    simp
    try omega
theorem turn_none {s : List Int} (h : Fr.at4 s 1 = 0 ∨ ¬ s = Jo.headS (Fr.at4 s 1)) : Jo.turnOf s = 0 := by unfold Jo.turnOf; rw [if_neg (by rintro ⟨h1, h2⟩; rcases h with h | h; exact h1 h; exact h h2)]
set_option maxRecDepth 20000 in
set_option maxHeartbeats 2000000 in
theorem readHead_c (s : List Int) (w : World) (hs : Jo.Sct s) :
    Calls Try.prog 37 #[secV s] w fun e w' => e = .returned (.tuple #[.int .u32 (Jo.turnOf s), .bool (Jo.turnOf s != 0)]) ∧ Below w.heap.size w w' := by
  unfold secV
  have hx1 : Bx (w.alloc (.cells (s.map by8).toArray 90)) w.heap.size 90 s := heap_alloc_new w _
  have hB1 : Below w.heap.size w (w.alloc (.cells (s.map by8).toArray 90)) := (Below.refl _ _).alloc (Nat.le_refl _) _
  have hI1 := bx_isB hx1 hs.2 1 4 (by rw [hs.1]; omega) (by decide)
  have RN := readNumber_c _ 4 _ _ hI1
  rw [at4_drop] at RN
  have hbd := at4_bd hs.2 1
  have HRN := hid RN
  have hr1 := range_sec hx1
  clear RN hI1
  by_cases h0 : Fr.at4 s 1 = 0
  · have E := hid (turn_none (.inl h0))
    rw [h0] at HRN
    go_enter Try.func37, Try.ntmps37
    go_wp2_with (first
      | (go_at_call 63; refine HRN.out.mono ?_; rintro e w' ⟨rfl, rfl⟩)
      | (go_at_call 64; refine (field_c w.heap.size 1 _ (by omega)).mono ?_; rintro e w' ⟨rfl, rfl⟩))
    refine wp_region_class (by kernel_rfl) (by kernel_rfl) ?_
    repeat (first
      | go_big_quiet_skip
      | (go_big_quiet_want
         apply quiet_by
         · intro w1 hw1
           go_simp
           rfl
         · go_simp; rfl
         go_big_quiet_on))
    refine wpQuiet_nil ?_
    intro w12 hw12
    go_wp2
    go_ret2
    exact ⟨by rw [E.out]; rfl, hB1.trans (hw12.mono hB1.size)⟩
  · obtain ⟨t, hte⟩ : ∃ t, t = Fr.at4 s 1 := ⟨_, rfl⟩
    rw [← hte] at HRN hbd h0
    have HTE := hid hte
    clear hte
    have hsT := Jo.head_sct t
    have h0b : ((t : Int) == 0) = false := by simpa using h0
    cases hq : (s == Jo.headS t) with
    | true =>
      have hq' : s = Jo.headS t := by simpa using hq
      have E : Hid (Jo.turnOf s = t) := by
        show _ = _
        unfold Jo.turnOf
        rw [← HTE.out, if_pos ⟨h0, hq'⟩]
      have HQ := hid hq
      clear hq hq'
      go_enter Try.func37, Try.ntmps37
      go_wp2_with (first
        | (go_at_call 63; refine HRN.out.mono ?_; rintro e w' ⟨rfl, rfl⟩)
        | (go_at_call 64; refine (field_c w.heap.size 1 _ (by omega)).mono ?_; rintro e w' ⟨rfl, rfl⟩))
      generalize (w.alloc (.cells (s.map by8).toArray 90)) = W1 at *
      refine wp_region_class (by kernel_rfl) (by kernel_rfl) ?_
      repeat (first
        | go_big_quiet_skip
        | (go_big_quiet_want
           apply quiet_by
           · intro w1 hw1
             exact qload _ 90 _ rfl rfl (qsec (range_later hr1 hw1) hs.1) hw1
           · go_simp; rfl
           go_big_quiet_on)
        | (go_big_quiet_want
           apply quiet_by
           · intro w1 hw1
             exact qneq _ _ _ s (Jo.headS t) rfl rfl rfl (sct_sec hs) (sct_sec hsT) _ HQ.out hw1
           · go_simp; rfl
           go_big_quiet_on)
        | (go_big_quiet_want
           apply quiet_by
           · intro w1 hw1
             go_simp
             first
               | rfl
               | (go_at_call 42; exact class_of hw1 (headSector_c t _ hbd))
           · go_simp; rfl
           go_big_quiet_on))
      refine wpQuiet_nil ?_
      intro w12 hw12
      go_wp2
      go_ret2
      exact ⟨by rw [E.out]; simp [h0], hB1.trans (hw12.mono hB1.size)⟩
    | false =>
      have E := hid (turn_none (s := s) (.inr (by rw [← HTE.out]; simpa using hq)))
      have HQ := hid hq
      clear hq
      go_enter Try.func37, Try.ntmps37
      go_wp2_with (first
        | (go_at_call 63; refine HRN.out.mono ?_; rintro e w' ⟨rfl, rfl⟩)
        | (go_at_call 64; refine (field_c w.heap.size 1 _ (by omega)).mono ?_; rintro e w' ⟨rfl, rfl⟩))
      generalize (w.alloc (.cells (s.map by8).toArray 90)) = W1 at *
      refine wp_region_class (by kernel_rfl) (by kernel_rfl) ?_
      repeat (first
        | go_big_quiet_skip
        | (go_big_quiet_want
           apply quiet_by
           · intro w1 hw1
             exact qload _ 90 _ rfl rfl (qsec (range_later hr1 hw1) hs.1) hw1
           · go_simp; rfl
           go_big_quiet_on)
        | (go_big_quiet_want
           apply quiet_by
           · intro w1 hw1
             exact qneq _ _ _ s (Jo.headS t) rfl rfl rfl (sct_sec hs) (sct_sec hsT) _ HQ.out hw1
           · go_simp; rfl
           go_big_quiet_on)
        | (go_big_quiet_want
           apply quiet_by
           · intro w1 hw1
             go_simp
             first
               | rfl
               | (go_at_call 42; exact class_of hw1 (headSector_c t _ hbd))
           · go_simp; rfl
           go_big_quiet_on))
      refine wpQuiet_nil ?_
      intro w12 hw12
      go_wp2
      go_ret2
      exact ⟨by rw [E.out]; rfl, hB1.trans (hw12.mono hB1.size)⟩
end Go.Proofs.Ytllohapbbmnipad
