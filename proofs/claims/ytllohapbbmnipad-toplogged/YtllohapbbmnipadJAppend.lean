/-
  appending and Append of the package journal.
-/
import Derived.Test.YtllohapbbmnipadJCarry
namespace Go.Proofs.Ytllohapbbmnipad
open Go.RowKit Go.ChangeShapes Go.WideShapes Go.ChangeAt Go.Maps
set_option linter.unusedVariables false
set_option linter.unusedSimpArgs false
/-- The area that counts: where it begins, how many groups it has, the first sector behind them. -/
def arSt (v : Int → Sec) (N : Nat) : Nat := 2 + (best v 2).1 * asz N
def arEnd (v : Int → Sec) (N : Nat) : Nat := arSt v N + sumN (grps v N)
def noB : Array Value := #[.int .i64 0, .slice none 0 0, .int .i64 0, .slice none 0 0]
theorem res_row {fn : Func} {p u : Tmp} {ty : TypeId} {nn : Nat} {ee : TypeId} (h : fn.results = #[.cell p ty, .tmp u]) (tmps : Array Value) (w : World) (g : Nat) (hp : tmps.getD p undef = .pointer (some ⟨g, 0, none⟩)) (cs : Array Value) (t : TypeId) (fr : Nat × Nat) (hb : w.heap[g]? = some (.cells cs t fr))
    (hu : Try.prog.underlying ty = some (.array nn ee)) (hi : (Try.prog.info? ty).map (·.size) = some cs.size) (v : Value) (hv : tmps.getD u undef = v) : (results fn tmps).run Try.prog w = .ok (.tuple #[.agg cs, v]) w := by
  have hl := run_loadVar_row (P := Try.prog) w g t ty cs fr _ hb hu rfl hi
  rw [results_cell_tmp h, hp, hv]
  simp [asAddr, Result.andThen, hl]
theorem groupsF_len (t : Int) : ∀ (m : Nat) (n : Int) (ss : List (List Int)), (Jo.groupsF t m n ss).length ≤ m
  | 0, n, ss => by simp [Jo.groupsF]
  | m + 1, n, ss => by
    unfold Jo.groupsF
    split
    · simp
    · have := groupsF_len t m (n + 1) (ss.drop (Jo.needF ‹_›)); simp; omega
theorem grps_len (v : Int → Sec) (N : Nat) : (grps v N).length ≤ asz N + 1 := by
  unfold grps allG
  have := groupsF_len (best v 2).2 ((secs v (2 + (best v 2).1 * asz N) (asz N)).length + 1) 1 (secs v (2 + (best v 2).1 * asz N) (asz N))
  rw [secs_len] at this ⊢
  exact this
theorem heap_set4 {W : World} {B : Nat} {a b c d : Value} {t : TypeId} (a' b' c' d' : Value) (h : W.heap[B]? = some (.cells #[a, b, c, d] t (0, 0))) :
    ((((W.setCell ⟨B, 0, none⟩ a').setCell ⟨B, 1, none⟩ b').setCell ⟨B, 2, none⟩ c').setCell ⟨B, 3, none⟩ d').heap[B]? = some (.cells #[a', b', c', d'] t (0, 0)) := by
  have h1 := heap_setCell_same W B 0 _ t a' h
  have h2 := heap_setCell_same _ B 1 _ t b' h1
  have h3 := heap_setCell_same _ B 2 _ t c' h2
  have h4 := heap_setCell_same _ B 3 _ t d' h3
  rw [h4]; rfl
theorem size78 : (Try.prog.info? 66).map (·.size) = some 4 := by kernel_rfl
/-- What appending answers. -/
def AppPost (v : Int → Sec) (N : Nat) (g : Jo.Gr) (w : World) (e : Ending) (w' : World) : Prop :=
  Below w.heap.size w w' ∧
  (Jo.needF g = 0 ∧ e = .returned (.tuple #[.agg noB, .int .i64 2]) ∨
   Jo.needF g ≠ 0 ∧ arSt v N + asz N < arEnd v N + Jo.needF g ∧ e = .returned (.tuple #[.agg noB, .int .i64 4]) ∨
   Jo.needF g ≠ 0 ∧ arEnd v N + Jo.needF g ≤ arSt v N + asz N ∧ ∃ p o k, e = .returned (.tuple #[.agg #[.int .i64 (arEnd v N : Nat), .slice (some ⟨p, o, none⟩) (Jo.needF g - 1) k, .int .i64 ((arEnd v N + (Jo.needF g - 1) : Nat) : Int), .slice (some ⟨p, o + (Jo.needF g - 1) * 32, none⟩) 1 (k - (Jo.needF g - 1))], .int .i64 0]) ∧
     IsSS w' (some ⟨p, o, none⟩) (Jo.needF g) (Jo.laid g (best v 2).2 ((grps v N).length + 1)))
set_option maxRecDepth 200000 in
set_option maxHeartbeats 4000000 in
theorem appending_c {w : World} {j d b1 b2 N : Nat} {on : Int → Sec} {c : Int → Option Sec} (h : IsJ w j d b1 b2 N on c) (a : Option Addr) (len cap : Nat) (g : Jo.Gr) (hG : IsG0 w a len g) :
    Calls Try.prog 18 #[pB j, .slice a len cap] w (AppPost (vw on c) N g w) := by
  have hN := h.2.1.two
  have h8 := h.2.2
  have hbb := best_bd (fun i => h.2.1.sec i) 2 (Nat.le_refl _)
  have haz : asz N ≤ 1023 := by unfold asz; omega
  have hb0 : Below w.heap.size w (w.alloc (.cells noB 66)) := (Below.refl _ _).alloc (Nat.le_refl _) _
  have n0 := heap_alloc_new w (.cells noB 66)
  have A0 := alloc_facts w (.cells noB 66)
  have NC := hid (needs_c a len cap g (w.alloc (.cells noB 66)) (hG.later hb0).isG)
  by_cases hz : Jo.needF g = 0
  · rw [hz] at NC
    have HZ := hid hz
    clear hz
    unfold noB at *
    go_enter Try.func18, Try.ntmps18
    go_wp2_with (go_at_call 39; refine NC.out.mono ?_; rintro e w' ⟨rfl, rfl⟩)
    exact bodyPost_ret (v := .tuple #[.agg noB, .int .i64 2]) (res_row rfl _ _ w.heap.size rfl noB _ _ n0 Try.underlying66 size78 _ rfl) rfl ⟨hb0, .inl ⟨HZ.out, rfl⟩⟩
  · have hnl := need_le g
    have hok := (Jo.need_pos hz).1
    have CC := hid (counting_c (h.later hb0))
    have hse : arSt (vw on c) N ≤ arSt (vw on c) N + asz N := by omega
    have hen : arSt (vw on c) N + asz N ≤ N := by
      have h2 : 2 * asz N + 2 ≤ N := by unfold asz; omega
      have : (best (vw on c) 2).1 * asz N ≤ 1 * asz N := Nat.mul_le_mul_right _ hbb.1
      unfold arSt; omega
    have hgl : (grps (vw on c) N) = allG (best (vw on c) 2).2 (secs (vw on c) (arSt (vw on c) N) (arSt (vw on c) N + asz N - arSt (vw on c) N)) := by
      rw [Nat.add_sub_cancel_left]; rfl
    have TC : Hid (∀ W, Below w.heap.size w W → Calls Try.prog 40 #[pB j, .agg #[.int .i64 ((best (vw on c) 2).1 : Nat), .int .u32 (best (vw on c) 2).2, .int .i64 (arSt (vw on c) N : Nat), .int .i64 ((arSt (vw on c) N + asz N : Nat) : Int)]] W fun e w' => e = .returned (.tuple #[.int .u32 ((grps (vw on c) N).length : Nat), .int .i64 ((arEnd (vw on c) N : Nat) : Int)]) ∧ Below W.heap.size W w') := fun W hW => by
      have := tail_c (h.later hW) ((best (vw on c) 2).1 : Nat) (best (vw on c) 2).2 (arSt (vw on c) N) (arSt (vw on c) N + asz N) hse hen hbb.2
      rw [← hgl] at this
      exact this
    have hlen : (grps (vw on c) N).length ≤ 2048 := by have := grps_len (vw on c) N; omega
    have hend : arEnd (vw on c) N ≤ 20000000 := by have := sumN_le (grps (vw on c) N); unfold arEnd; omega
    have hst : arSt (vw on c) N ≤ 2048 := by omega
    change Hid (Calls Try.prog 17 #[pB j] _ fun e w' => e = .returned (.agg #[.int .i64 ((best (vw on c) 2).1 : Nat), .int .u32 (best (vw on c) 2).2, .int .i64 (arSt (vw on c) N : Nat), .int .i64 ((arSt (vw on c) N + asz N : Nat) : Int)]) ∧ _) at CC
    have HG := hid hG
    have hb := hbb.2
    clear hgl h hG hbb
    unfold AppPost
    generalize (grps (vw on c) N).length = cn at *
    generalize arEnd (vw on c) N = en at *
    generalize arSt (vw on c) N + asz N = lim at *
    generalize arSt (vw on c) N = st at *
    generalize (best (vw on c) 2).2 = t at *
    generalize (best (vw on c) 2).1 = kk at *
    have hz0 := A0.1
    have HLD : Hid (Jo.needF g = (Jo.laid g t (cn + 1)).length) := by show _ = _; rw [Jo.laid_len, Jo.need_ok hok]
    have HSC := hid (Jo.laid_sct HG.out.isG.bytes (Jo.ok_iff.1 hok).2.1 t (cn + 1))
    have HGS : Hid (∀ W, Below w.heap.size w W → Calls Try.prog 41 #[.slice a len cap, .int .u32 t, .int .u32 ((cn : Int) + 1)] W fun e w' => ∃ v, e = .returned v ∧ w'.ownsRow W.heap.size 90 32 v (Jo.laid g t (cn + 1)).length (scells (Jo.laid g t (cn + 1))) ∧ Below W.heap.size W w') := fun W hW => groupSectors_c a len cap g t (cn + 1) W (HG.out.later hW) hok hb (by omega)
    generalize Jo.needF g = ng at *
    have hng0 : ((ng : Int) == 0) = false := by simp; omega
    have hng1 : ¬ (ng : Int) = 0 := by omega
    generalize Jo.laid g t (cn + 1) = LD at *
    unfold noB at *
    by_cases hfit : lim < en + ng
    · have hf' : (lim : Int) - en < ng := by omega
      go_enter Try.func18, Try.ntmps18
      go_wp2_with (first
        | (have _q := K3.out; clear _q; refine wpList_store_row rfl _ _ _ rfl w.heap.size #[.int .i64 0, .slice none 0 0, .int .i64 0, .slice none 0 0] rfl rfl _ _ r3 size78 rfl (by simp [Value.oneCell']) ?_; clear K3)
        | (go_at_call 40; refine (TC.out _ hB2).mono ?_; rintro e w3 ⟨rfl, hb3⟩; (have hB3 : Below w.heap.size w w3 := hB2.trans (hb3.mono hB2.size)); (have x3 : w3.heap[w1.heap.size]? = some (.cells #[.int .i64 kk, .int .u32 t, .int .i64 st, .int .i64 lim] 60 (0, 0)) := by rw [hb3.block _ (by simp)]; exact heap_alloc_new w1 _); (have c31 : w3.cell? ⟨w1.heap.size, 1, none⟩ = some (.int .u32 t) := by rw [cell_of_row w3 _ 1 _ _ _ x3]; rfl); (have c33 : w3.cell? ⟨w1.heap.size, 3, none⟩ = some (.int .i64 lim) := by rw [cell_of_row w3 _ 3 _ _ _ x3]; rfl); (have r3 : w3.heap[w.heap.size]? = some (.cells #[.int .i64 0, .slice none 0 0, .int .i64 0, .slice none 0 0] 66 (0, 0)) := by rw [hb3.block _ (by have := hb1.size; simp; omega), Below.heap_alloc _ _ _ (by have := hb1.size; omega), hb1.block _ (by omega)]; exact n0); (have K3 : Hid True := hid trivial))
        | (go_at_call 17; refine CC.out.mono ?_; rintro e w1 ⟨rfl, hb1⟩; (have hB2 : Below w.heap.size w (w1.alloc (.cells #[.int .i64 kk, .int .u32 t, .int .i64 st, .int .i64 lim] 60)) := (hb0.trans (hb1.mono hb0.size)).alloc (Nat.le_trans hb0.size hb1.size) _))
        | (go_at_call 39; refine NC.out.mono ?_; rintro e w' ⟨rfl, rfl⟩))
      exact bodyPost_ret (v := .tuple #[.agg #[.int .i64 0, .slice none 0 0, .int .i64 0, .slice none 0 0], .int .i64 4]) (res_row rfl _ _ w.heap.size rfl #[.int .i64 0, .slice none 0 0, .int .i64 0, .slice none 0 0] _ _ (setRow_heap w3 _ _ _ _ _ r3) Try.underlying66 size78 _ rfl) rfl ⟨Below.setRow hB3 _ _ (Nat.le_refl _), .inr (.inl ⟨hz, hfit, rfl⟩)⟩
    · obtain ⟨q, hq⟩ : ∃ q : Nat, (lim : Int) - en = q := ⟨lim - en, by omega⟩
      have hq2 : (ng : Int) ≤ q := by omega
      have hq3 : ¬ (q : Int) < ng := by omega
      have HFIT := hid hfit
      clear hfit
      go_enter Try.func18, Try.ntmps18
      go_wp2_with (first
        | (go_at_call 40; refine (TC.out _ hB2).mono ?_; rintro e w3 ⟨rfl, hb3⟩; (have hB3 : Below w.heap.size w w3 := hB2.trans (hb3.mono hB2.size)); (have x3 : w3.heap[w1.heap.size]? = some (.cells #[.int .i64 kk, .int .u32 t, .int .i64 st, .int .i64 lim] 60 (0, 0)) := by rw [hb3.block _ (by simp)]; exact heap_alloc_new w1 _); (have c31 : w3.cell? ⟨w1.heap.size, 1, none⟩ = some (.int .u32 t) := by rw [cell_of_row w3 _ 1 _ _ _ x3]; rfl); (have c33 : w3.cell? ⟨w1.heap.size, 3, none⟩ = some (.int .i64 lim) := by rw [cell_of_row w3 _ 3 _ _ _ x3]; rfl); (have r3 : w3.heap[w.heap.size]? = some (.cells #[.int .i64 0, .slice none 0 0, .int .i64 0, .slice none 0 0] 66 (0, 0)) := by rw [hb3.block _ (by have := hb1.size; simp; omega), Below.heap_alloc _ _ _ (by have := hb1.size; omega), hb1.block _ (by omega)]; exact n0))
        | (go_at_call 17; refine CC.out.mono ?_; rintro e w1 ⟨rfl, hb1⟩; (have hB2 : Below w.heap.size w (w1.alloc (.cells #[.int .i64 kk, .int .u32 t, .int .i64 st, .int .i64 lim] 60)) := (hb0.trans (hb1.mono hb0.size)).alloc (Nat.le_trans hb0.size hb1.size) _))
        | (go_at_call 39; refine NC.out.mono ?_; rintro e w' ⟨rfl, rfl⟩))
      refine (HGS.out w3 hB3).mono ?_
      rintro e w5 ⟨v5, rfl, hown5, hb5⟩
      obtain ⟨sa, k, hv5, hS5, hsc5, hin5⟩ := own_isSS hown5 HSC.out (by rw [← HLD.out]; omega)
      rw [← HLD.out] at hv5 hS5 hsc5
      subst hv5
      obtain ⟨p, o, rfl, _⟩ := hS5.2.2.2 (by omega)
      have hB5 : Below w.heap.size w w5 := hB3.trans (hb5.mono hB3.size)
      have r5 : w5.heap[w.heap.size]? = some (.cells #[.int .i64 0, .slice none 0 0, .int .i64 0, .slice none 0 0] 66 (0, 0)) := by rw [hb5.block _ (lt_blk r3)]; exact r3
      have HS5 := hid hS5
      have HIN := hid (hin5 _ rfl)
      clear hown5 hin5 hS5
      go_wp2_with fail
      have q0 : w5.cell? ⟨w.heap.size, 0, none⟩ = some (.int .i64 0) := by rw [cell_of_row w5 _ 0 _ _ _ r5]; rfl
      have q1 : w5.cell? ⟨w.heap.size, 1, none⟩ = some (.slice none 0 0) := by rw [cell_of_row w5 _ 1 _ _ _ r5]; rfl
      have q2 : w5.cell? ⟨w.heap.size, 2, none⟩ = some (.int .i64 0) := by rw [cell_of_row w5 _ 2 _ _ _ r5]; rfl
      have q3 : w5.cell? ⟨w.heap.size, 3, none⟩ = some (.slice none 0 0) := by rw [cell_of_row w5 _ 3 _ _ _ r5]; rfl
      have f0 : ∀ i, w5.frozen? ⟨w.heap.size, i, none⟩ = false := fun i => by simp [World.frozen?, r5]
      have f00 := f0 0
      have f01 := f0 1
      have f02 := f0 2
      have f03 := f0 3
      obtain ⟨nm, hnm⟩ : ∃ nm, nm = ng - 1 := ⟨_, rfl⟩
      obtain ⟨e2, he2⟩ : ∃ e2, e2 = en + (ng - 1) := ⟨_, rfl⟩
      have z7 : (ng : Int) - 1 = (nm : Int) := by omega
      have z8 : (en : Int) + (ng : Int) - 1 = (e2 : Int) := by omega
      have z0 : (0 : Int) ≤ (nm : Int) := by omega
      have z1 : (nm : Int) ≤ k := by omega
      have z2 : (nm : Int) ≤ ng := by omega
      have z3 : (ng : Int) ≤ k := by omega
      have z4 : ¬ k = nm := by omega
      have z5 : ng - nm = 1 := by omega
      have w1' : IntKind.i64.wrap (nm : Int) = (nm : Int) := by rw [M.wrap_i64]; unfold wrap64; omega
      have w2' : IntKind.i64.wrap ((en : Int) + (ng : Int)) = (en : Int) + ng := by rw [M.wrap_i64]; unfold wrap64; omega
      have w3' : IntKind.i64.wrap (e2 : Int) = (e2 : Int) := by rw [M.wrap_i64]; unfold wrap64; omega
      have HNM := hid hnm
      have HE2 := hid he2
      clear hnm he2
      go_region_held3 (fun w' => True) (trivial) (fail)
      go_wp2
      have y5 : ((((w5.setCell ⟨w.heap.size, 0, none⟩ (.int .i64 en)).setCell ⟨w.heap.size, 1, none⟩ (.slice (some ⟨p, o, none⟩) nm k)).setCell ⟨w.heap.size, 2, none⟩ (.int .i64 e2)).setCell ⟨w.heap.size, 3, none⟩ (.slice (some ⟨p, o + nm * 32, none⟩) 1 (k - nm))).drew.heap[w.heap.size]? = some (.cells #[.int .i64 en, .slice (some ⟨p, o, none⟩) nm k, .int .i64 e2, .slice (some ⟨p, o + nm * 32, none⟩) 1 (k - nm)] 66 (0, 0)) := heap_set4 (.int .i64 en) (.slice (some ⟨p, o, none⟩) nm k) (.int .i64 e2) (.slice (some ⟨p, o + nm * 32, none⟩) 1 (k - nm)) r5
      have hpw : p ≠ w.heap.size := by have h1 : w3.heap.size ≤ p := HIN.out.1; have h2 := lt_blk r3; omega
      have hB6 : Below w.heap.size w ((((w5.setCell ⟨w.heap.size, 0, none⟩ (.int .i64 en)).setCell ⟨w.heap.size, 1, none⟩ (.slice (some ⟨p, o, none⟩) nm k)).setCell ⟨w.heap.size, 2, none⟩ (.int .i64 e2)).setCell ⟨w.heap.size, 3, none⟩ (.slice (some ⟨p, o + nm * 32, none⟩) 1 (k - nm))) := (((hB5.setCell (p := ⟨w.heap.size, 0, none⟩) (Nat.le_refl _) _).setCell (p := ⟨w.heap.size, 1, none⟩) (Nat.le_refl _) _).setCell (p := ⟨w.heap.size, 2, none⟩) (Nat.le_refl _) _).setCell (p := ⟨w.heap.size, 3, none⟩) (Nat.le_refl _) _
      have hS6 : IsSS ((((w5.setCell ⟨w.heap.size, 0, none⟩ (.int .i64 en)).setCell ⟨w.heap.size, 1, none⟩ (.slice (some ⟨p, o, none⟩) nm k)).setCell ⟨w.heap.size, 2, none⟩ (.int .i64 e2)).setCell ⟨w.heap.size, 3, none⟩ (.slice (some ⟨p, o + nm * 32, none⟩) 1 (k - nm))) (some ⟨p, o, none⟩) ng LD := HS5.out.blk (by rw [heap_setCell_other _ _ _ _ hpw, heap_setCell_other _ _ _ _ hpw, heap_setCell_other _ _ _ _ hpw, heap_setCell_other _ _ _ _ hpw])
      refine bodyPost_ret (v := .tuple #[.agg #[.int .i64 en, .slice (some ⟨p, o, none⟩) nm k, .int .i64 e2, .slice (some ⟨p, o + nm * 32, none⟩) 1 (k - nm)], .int .i64 0]) (res_row rfl _ _ w.heap.size rfl _ _ _ y5 Try.underlying66 size78 _ rfl) rfl ⟨Below.drew hB6, .inr (.inr ⟨hz, Nat.le_of_not_lt HFIT.out, p, o, k, by rw [← HE2.out, ← HNM.out], hS6⟩)⟩
end Go.Proofs.Ytllohapbbmnipad
