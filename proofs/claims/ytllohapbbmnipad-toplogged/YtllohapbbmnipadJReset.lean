/-
  resetting and Reset of the package journal.
-/
import Derived.Test.YtllohapbbmnipadJAdd
namespace Go.Proofs.Ytllohapbbmnipad
open Go.RowKit Go.ChangeShapes Go.WideShapes Go.ChangeAt Go.Maps
set_option linter.unusedVariables false
set_option linter.unusedSimpArgs false
/-- The other area: where it begins. -/
def otSt (v : Int → Sec) (N : Nat) : Nat := 2 + (1 - (best v 2).1) * asz N
/-- What resetting answers. -/
def RstPost (v : Int → Sec) (N : Nat) (g : Jo.Gr) (w : World) (e : Ending) (w' : World) : Prop :=
  Below w.heap.size w w' ∧
  (Jo.needF g = 0 ∧ e = .returned (.tuple #[.agg noB, .int .i64 2]) ∨
   Jo.needF g ≠ 0 ∧ (asz N < Jo.needF g ∨ (best v 2).2 = 4294967295) ∧ e = .returned (.tuple #[.agg noB, .int .i64 4]) ∨
   Jo.needF g ≠ 0 ∧ Jo.needF g ≤ asz N ∧ (best v 2).2 ≠ 4294967295 ∧ ∃ p o k q r, e = .returned (.tuple #[.agg #[.int .i64 (otSt v N : Nat), .slice (some ⟨p, o, none⟩) (Jo.needF g) k, .int .i64 ((1 - (best v 2).1 : Nat) : Int), .slice (some ⟨q, r, none⟩) 1 1], .int .i64 0]) ∧
     IsSS w' (some ⟨p, o, none⟩) (Jo.needF g) (Jo.laid g ((best v 2).2 + 1) 1) ∧ IsSS w' (some ⟨q, r, none⟩) 1 [Jo.headS ((best v 2).2 + 1)])
set_option maxRecDepth 20000 in
set_option maxHeartbeats 4000000 in
theorem resetting_c {w : World} {j d b1 b2 N : Nat} {on : Int → Sec} {c : Int → Option Sec} (h : IsJ w j d b1 b2 N on c) (a : Option Addr) (len cap : Nat) (g : Jo.Gr) (hG : IsG0 w a len g) :
    Calls Try.prog 19 #[pB j, .slice a len cap] w (RstPost (vw on c) N g w) := by
  have hN := h.2.1.two
  have h8 := h.2.2
  have hbb := best_bd (fun i => h.2.1.sec i) 2 (Nat.le_refl _)
  have haz : asz N ≤ 1023 := by unfold asz; omega
  have hb0 : Below w.heap.size w (w.alloc (.cells noB 66)) := (Below.refl _ _).alloc (Nat.le_refl _) _
  have n0 := heap_alloc_new w (.cells noB 66)
  have A0 := alloc_facts w (.cells noB 66)
  have NC := hid (needs_c a len cap g (w.alloc (.cells noB 66)) (hG.later hb0).isG)
  by_cases hz : Jo.needF g = 0
  · rw [hz] at NC
    have HZ := hid hz
    clear hz
    unfold noB at *
    go_enter Try.func19, Try.ntmps19
    go_wp2_with (go_at_call 39; refine NC.out.mono ?_; rintro e w' ⟨rfl, rfl⟩)
    exact bodyPost_ret (v := .tuple #[.agg noB, .int .i64 2]) (res_row rfl _ _ w.heap.size rfl noB _ _ n0 Try.underlying66 size78 _ rfl) rfl ⟨hb0, .inl ⟨HZ.out, rfl⟩⟩
  · have hnl := need_le g
    have hok := (Jo.need_pos hz).1
    have CC := hid (counting_c (h.later hb0))
    have hst : arSt (vw on c) N ≤ 2048 := by
      have : (best (vw on c) 2).1 * asz N ≤ 1 * asz N := Nat.mul_le_mul_right _ hbb.1
      unfold arSt; omega
    have hot : otSt (vw on c) N ≤ 2048 := by
      have : (1 - (best (vw on c) 2).1) * asz N ≤ 1 * asz N := Nat.mul_le_mul_right _ (by omega)
      unfold otSt; omega
    have AR : Hid (∀ W (t : Int), Below w.heap.size w W → Calls Try.prog 36 #[pB j, .int .i64 ((1 - (best (vw on c) 2).1 : Nat) : Int), .int .u32 t] W fun e w' => e = .returned (.agg #[.int .i64 ((1 - (best (vw on c) 2).1 : Nat) : Int), .int .u32 t, .int .i64 (otSt (vw on c) N : Nat), .int .i64 ((otSt (vw on c) N + asz N : Nat) : Int)]) ∧ Below W.heap.size W w') := fun W t hW => area_c (h.later hW) (1 - (best (vw on c) 2).1) (by omega) t
    change Hid (Calls Try.prog 17 #[pB j] _ fun e w' => e = .returned (.agg #[.int .i64 ((best (vw on c) 2).1 : Nat), .int .u32 (best (vw on c) 2).2, .int .i64 (arSt (vw on c) N : Nat), .int .i64 ((arSt (vw on c) N + asz N : Nat) : Int)]) ∧ _) at CC
    have HG := hid hG
    have hk1 := hbb.1
    have ht := hbb.2
    clear h hG hbb
    unfold RstPost
    have hz0 := A0.1
    have hls := Jo.laid_sct HG.out.isG.bytes (Jo.ok_iff.1 hok).2.1 ((best (vw on c) 2).2 + 1) 1
    have HLD : Hid (Jo.needF g = (Jo.laid g ((best (vw on c) 2).2 + 1) 1).length) := by show _ = _; rw [Jo.laid_len, Jo.need_ok hok]
    generalize otSt (vw on c) N + asz N = oen at *
    generalize otSt (vw on c) N = ost at *
    generalize hlim : arSt (vw on c) N + asz N = lim at *
    generalize arSt (vw on c) N = st at *
    generalize (best (vw on c) 2).2 = t at *
    obtain ⟨kk, hkk⟩ : ∃ kk, kk = (best (vw on c) 2).1 := ⟨_, rfl⟩
    rw [← hkk] at CC AR hk1 ⊢
    clear hkk
    have HGS : Hid (∀ W, t + 1 < 4294967296 → Below w.heap.size w W → Calls Try.prog 41 #[.slice a len cap, .int .u32 (t + 1), .int .u32 1] W fun e w' => ∃ v, e = .returned v ∧ w'.ownsRow W.heap.size 90 32 v (Jo.laid g (t + 1) 1).length (scells (Jo.laid g (t + 1) 1)) ∧ Below W.heap.size W w') := fun W h1 hW => groupSectors_c a len cap g (t + 1) 1 W (HG.out.later hW) hok (by omega) (by omega)
    generalize Jo.laid g (t + 1) 1 = LD at *
    generalize Jo.needF g = ng at *
    have hng0 : ((ng : Int) == 0) = false := by simp; omega
    have hng1 : ¬ (ng : Int) = 0 := by omega
    have hls2 : (lim : Int) - (st : Int) = (asz N : Nat) := by omega
    generalize asz N = az at *
    clear hlim
    unfold noB at *
    by_cases hbig : az < ng
    · have hb' : (az : Int) < ng := by omega
      go_enter Try.func19, Try.ntmps19
      go_wp2_with (first
        | (have _q := K3.out; clear _q; refine wpList_store_row rfl _ _ _ rfl w.heap.size #[.int .i64 0, .slice none 0 0, .int .i64 0, .slice none 0 0] rfl rfl _ _ r3 size78 rfl (by simp [Value.oneCell']) ?_; clear K3)
        | (go_at_call 17; refine CC.out.mono ?_; rintro e w1 ⟨rfl, hb1⟩; (have hB2 : Below w.heap.size w (w1.alloc (.cells #[.int .i64 kk, .int .u32 t, .int .i64 st, .int .i64 lim] 60)) := (hb0.trans (hb1.mono hb0.size)).alloc (Nat.le_trans hb0.size hb1.size) _); (have r3 : (w1.alloc (.cells #[.int .i64 kk, .int .u32 t, .int .i64 st, .int .i64 lim] 60)).heap[w.heap.size]? = some (.cells #[.int .i64 0, .slice none 0 0, .int .i64 0, .slice none 0 0] 66 (0, 0)) := by rw [Below.heap_alloc _ _ _ (by have := hb1.size; omega), hb1.block _ (by omega)]; exact n0); (have K3 : Hid True := hid trivial))
        | (go_at_call 39; refine NC.out.mono ?_; rintro e w' ⟨rfl, rfl⟩))
      exact bodyPost_ret (v := .tuple #[.agg #[.int .i64 0, .slice none 0 0, .int .i64 0, .slice none 0 0], .int .i64 4]) (res_row rfl _ _ w.heap.size rfl #[.int .i64 0, .slice none 0 0, .int .i64 0, .slice none 0 0] _ _ (setRow_heap _ _ _ _ _ _ r3) Try.underlying66 size78 _ rfl) rfl ⟨Below.setRow hB2 _ _ (Nat.le_refl _), .inr (.inl ⟨hz, .inl hbig, rfl⟩)⟩
    · have hb' : ¬ (az : Int) < ng := by omega
      by_cases hmx : t = 4294967295
      · have hm1 : (t == 4294967295) = true := by simpa using hmx
        have HMX := hid hmx
        clear hmx
        go_enter Try.func19, Try.ntmps19
        go_wp2_with (first
          | (have _q := K3.out; clear _q; refine wpList_store_row rfl _ _ _ rfl w.heap.size #[.int .i64 0, .slice none 0 0, .int .i64 0, .slice none 0 0] rfl rfl _ _ r3 size78 rfl (by simp [Value.oneCell']) ?_; clear K3)
          | (go_at_call 17; refine CC.out.mono ?_; rintro e w1 ⟨rfl, hb1⟩; (have hB2 : Below w.heap.size w (w1.alloc (.cells #[.int .i64 kk, .int .u32 t, .int .i64 st, .int .i64 lim] 60)) := (hb0.trans (hb1.mono hb0.size)).alloc (Nat.le_trans hb0.size hb1.size) _); (have r3 : (w1.alloc (.cells #[.int .i64 kk, .int .u32 t, .int .i64 st, .int .i64 lim] 60)).heap[w.heap.size]? = some (.cells #[.int .i64 0, .slice none 0 0, .int .i64 0, .slice none 0 0] 66 (0, 0)) := by rw [Below.heap_alloc _ _ _ (by have := hb1.size; omega), hb1.block _ (by omega)]; exact n0); (have K3 : Hid True := hid trivial))
          | (go_at_call 39; refine NC.out.mono ?_; rintro e w' ⟨rfl, rfl⟩))
        exact bodyPost_ret (v := .tuple #[.agg #[.int .i64 0, .slice none 0 0, .int .i64 0, .slice none 0 0], .int .i64 4]) (res_row rfl _ _ w.heap.size rfl #[.int .i64 0, .slice none 0 0, .int .i64 0, .slice none 0 0] _ _ (setRow_heap _ _ _ _ _ _ r3) Try.underlying66 size78 _ rfl) rfl ⟨Below.setRow hB2 _ _ (Nat.le_refl _), .inr (.inl ⟨hz, .inr HMX.out, rfl⟩)⟩
      · have hm1 : (t == 4294967295) = false := by simpa using hmx
        have ht2 : t < 4294967295 := by omega
        have ht0 : 0 ≤ t := ht.1
        obtain ⟨k', hk'⟩ : ∃ k' : Nat, k' = 1 - kk := ⟨_, rfl⟩
        rw [← hk'] at AR ⊢
        have hk2 : (1 : Int) - (kk : Int) = (k' : Int) := by omega
        have HMX := hid hmx
        have HT := hid ht
        have HB := hid hbig
        clear hk' hmx ht hbig
        go_enter Try.func19, Try.ntmps19
        go_wp2_with (first
          | (go_at_call 42; refine (headSector_c (t + 1) _ (by have := HT.out; omega)).mono ?_; rintro e w5 ⟨rfl, hb5⟩; (have K5 : Hid True := hid trivial))
          | (have _q := K5.out; clear _q; refine wpList_exec rfl (exec_slice1 _ rfl (Jo.headS (t + 1)) rfl (Jo.head_sct (t + 1)).1) ?_; clear K5)
          | (go_at_call 36; refine (AR.out _ _ hB2).mono ?_; rintro e w3 ⟨rfl, hb3⟩)
          | (go_at_call 17; refine CC.out.mono ?_; rintro e w1 ⟨rfl, hb1⟩; (have hB2 : Below w.heap.size w (w1.alloc (.cells #[.int .i64 kk, .int .u32 t, .int .i64 st, .int .i64 lim] 60)) := (hb0.trans (hb1.mono hb0.size)).alloc (Nat.le_trans hb0.size hb1.size) _); (have r3 : (w1.alloc (.cells #[.int .i64 kk, .int .u32 t, .int .i64 st, .int .i64 lim] 60)).heap[w.heap.size]? = some (.cells #[.int .i64 0, .slice none 0 0, .int .i64 0, .slice none 0 0] 66 (0, 0)) := by rw [Below.heap_alloc _ _ _ (by have := hb1.size; omega), hb1.block _ (by omega)]; exact n0); (have K3 : Hid True := hid trivial))
          | (go_at_call 39; refine NC.out.mono ?_; rintro e w' ⟨rfl, rfl⟩))
        have z1 := hb1.size
        have z3 : w1.heap.size + 1 ≤ w3.heap.size := by have := hb3.size; simp at this; omega
        have hB4 : Below w.heap.size w (w3.alloc (.cells #[.int .i64 k', .int .u32 (t + 1), .int .i64 ost, .int .i64 oen] 60)) := (hB2.trans (hb3.mono hB2.size)).alloc (by omega) _
        have r4 : (w3.alloc (.cells #[.int .i64 k', .int .u32 (t + 1), .int .i64 ost, .int .i64 oen] 60)).heap[w.heap.size]? = some (.cells #[.int .i64 0, .slice none 0 0, .int .i64 0, .slice none 0 0] 66 (0, 0)) := by rw [Below.heap_alloc _ _ _ (by omega), hb3.block _ (by simp; omega)]; exact r3
        have x4 := heap_alloc_new w3 (.cells #[.int .i64 k', .int .u32 (t + 1), .int .i64 ost, .int .i64 oen] 60)
        have s4 : (w3.alloc (.cells #[.int .i64 k', .int .u32 (t + 1), .int .i64 ost, .int .i64 oen] 60)).heap.size = w3.heap.size + 1 := by simp
        generalize (w3.alloc (.cells #[.int .i64 k', .int .u32 (t + 1), .int .i64 ost, .int .i64 oen] 60)) = W4 at *
        have z5 := hb5.size
        have hB5 : Below w.heap.size w w5 := hB4.trans (hb5.mono (by omega))
        have x5 : w5.heap[w3.heap.size]? = some (.cells #[.int .i64 k', .int .u32 (t + 1), .int .i64 ost, .int .i64 oen] 60 (0, 0)) := by rw [hb5.block _ (by omega)]; exact x4
        have r5 : w5.heap[w.heap.size]? = some (.cells #[.int .i64 0, .slice none 0 0, .int .i64 0, .slice none 0 0] 66 (0, 0)) := by rw [hb5.block _ (by omega)]; exact r4
        have A6 := alloc_facts w5 (.cells ((Jo.headS (t + 1)).map by8).toArray 90)
        have n6 := heap_alloc_new w5 (.cells ((Jo.headS (t + 1)).map by8).toArray 90)
        have hB6 : Below w.heap.size w (w5.alloc (.cells ((Jo.headS (t + 1)).map by8).toArray 90)) := hB5.alloc hB5.size _
        have x6 : (w5.alloc (.cells ((Jo.headS (t + 1)).map by8).toArray 90)).heap[w3.heap.size]? = some (.cells #[.int .i64 k', .int .u32 (t + 1), .int .i64 ost, .int .i64 oen] 60 (0, 0)) := by rw [A6.2.1 _ (by omega)]; exact x5
        have r6 : (w5.alloc (.cells ((Jo.headS (t + 1)).map by8).toArray 90)).heap[w.heap.size]? = some (.cells #[.int .i64 0, .slice none 0 0, .int .i64 0, .slice none 0 0] 66 (0, 0)) := by rw [A6.2.1 _ (by omega)]; exact r5
        generalize (w5.alloc (.cells ((Jo.headS (t + 1)).map by8).toArray 90)) = W6 at *
        have ar : ∀ V : World, V.heap[w3.heap.size]? = some (.cells #[.int .i64 k', .int .u32 (t + 1), .int .i64 ost, .int .i64 oen] 60 (0, 0)) → V.cell? ⟨w3.heap.size, 0, none⟩ = some (.int .i64 k') ∧ V.cell? ⟨w3.heap.size, 1, none⟩ = some (.int .u32 (t + 1)) ∧ V.cell? ⟨w3.heap.size, 2, none⟩ = some (.int .i64 ost) := fun V hV => ⟨by rw [cell_of_row V _ 0 _ _ _ hV]; rfl, by rw [cell_of_row V _ 1 _ _ _ hV]; rfl, by rw [cell_of_row V _ 2 _ _ _ hV]; rfl⟩
        obtain ⟨g60, g61, g62⟩ := ar W6 x6
        have HAR := hid ar
        have HLS := hid hls
        have hGS7 := hid (HGS.out W6.drew (by have := HT.out; omega) (Below.drew hB6))
        have K6 : W6.drew.cell? ⟨w3.heap.size, 0, none⟩ = some (.int .i64 k') ∧ W6.drew.cell? ⟨w3.heap.size, 1, none⟩ = some (.int .u32 (t + 1)) ∧ W6.drew.cell? ⟨w3.heap.size, 2, none⟩ = some (.int .i64 ost) := ar W6.drew x6
        clear ar hls
        go_region_held3 (fun w' => w'.cell? ⟨w3.heap.size, 0, none⟩ = some (.int .i64 k') ∧ w'.cell? ⟨w3.heap.size, 1, none⟩ = some (.int .u32 (t + 1)) ∧ w'.cell? ⟨w3.heap.size, 2, none⟩ = some (.int .i64 ost)) (first | (with_reducible exact K8 _ _ _ _) | (with_reducible exact K7) | (with_reducible exact K6) | go_keep)
          ((go_at_call 41; refine hGS7.out.mono ?_; rintro e w7 ⟨v7, rfl, hown7, hb7⟩; obtain ⟨sa, k, hv7, hS7, hsc7, hin7⟩ := own_isSS hown7 HLS.out (by rw [← HLD.out]; omega); rw [← HLD.out] at hv7 hS7 hsc7; subst hv7; obtain ⟨p, o, rfl, _⟩ := hS7.2.2.2 (by omega); (have B7 : Below W6.heap.size W6 w7 := ((Below.refl _ W6).drew).trans hb7); (have x7 : w7.heap[w3.heap.size]? = some (.cells #[.int .i64 k', .int .u32 (t + 1), .int .i64 ost, .int .i64 oen] 60 (0, 0)) := by rw [B7.block _ (lt_blk x6)]; exact x6); (have r7 : w7.heap[w.heap.size]? = some (.cells #[.int .i64 0, .slice none 0 0, .int .i64 0, .slice none 0 0] 66 (0, 0)) := by rw [B7.block _ (lt_blk r6)]; exact r6); (have K7 := HAR.out w7 x7); (have K8 : ∀ a b c d : Value, (((((w7.setCell ⟨w.heap.size, 0, none⟩ a).setCell ⟨w.heap.size, 1, none⟩ b).setCell ⟨w.heap.size, 2, none⟩ c).setCell ⟨w.heap.size, 3, none⟩ d)).cell? ⟨w3.heap.size, 0, none⟩ = some (.int .i64 k') ∧ (((((w7.setCell ⟨w.heap.size, 0, none⟩ a).setCell ⟨w.heap.size, 1, none⟩ b).setCell ⟨w.heap.size, 2, none⟩ c).setCell ⟨w.heap.size, 3, none⟩ d)).cell? ⟨w3.heap.size, 1, none⟩ = some (.int .u32 (t + 1)) ∧ (((((w7.setCell ⟨w.heap.size, 0, none⟩ a).setCell ⟨w.heap.size, 1, none⟩ b).setCell ⟨w.heap.size, 2, none⟩ c).setCell ⟨w.heap.size, 3, none⟩ d)).cell? ⟨w3.heap.size, 2, none⟩ = some (.int .i64 ost) := fun a b c d => HAR.out _ (by rw [heap_setCell_other _ _ _ _ (by simp only; omega), heap_setCell_other _ _ _ _ (by simp only; omega), heap_setCell_other _ _ _ _ (by simp only; omega), heap_setCell_other _ _ _ _ (by simp only; omega)]; exact x7)); (have q0 : w7.cell? ⟨w.heap.size, 0, none⟩ = some (.int .i64 0) := by rw [cell_of_row w7 _ 0 _ _ _ r7]; rfl); (have q1 : w7.cell? ⟨w.heap.size, 1, none⟩ = some (.slice none 0 0) := by rw [cell_of_row w7 _ 1 _ _ _ r7]; rfl); (have q2 : w7.cell? ⟨w.heap.size, 2, none⟩ = some (.int .i64 0) := by rw [cell_of_row w7 _ 2 _ _ _ r7]; rfl); (have q3 : w7.cell? ⟨w.heap.size, 3, none⟩ = some (.slice none 0 0) := by rw [cell_of_row w7 _ 3 _ _ _ r7]; rfl); (have f0 : w7.frozen? ⟨w.heap.size, 0, none⟩ = false := by simp [World.frozen?, r7]); (have f1 : w7.frozen? ⟨w.heap.size, 1, none⟩ = false := by simp [World.frozen?, r7]); (have f2 : w7.frozen? ⟨w.heap.size, 2, none⟩ = false := by simp [World.frozen?, r7]); (have f3 : w7.frozen? ⟨w.heap.size, 3, none⟩ = false := by simp [World.frozen?, r7])))
        go_wp2
        have hB7 : Below w.heap.size w w7 := hB6.trans (B7.mono hB6.size)
        have s7 : W6.heap.size ≤ p := (hin7 _ rfl).1
        have hpw : p ≠ w.heap.size := by have := lt_blk r6; omega
        have h5w : w5.heap.size ≠ w.heap.size := by have := lt_blk r5; omega
        have hH7 : IsSS w7 (some ⟨w5.heap.size, 0, none⟩) 1 [Jo.headS (t + 1)] := by
          refine ⟨rfl, by omega, fun s hs => by rw [List.mem_singleton.1 hs]; exact Jo.head_sct _, fun _ => ⟨_, _, rfl, fun i hi => ?_⟩⟩
          have hi0 : i = 0 := by omega
          subst hi0
          exact range_sec (t := 90) (fr := (0, 0)) (by rw [B7.block _ (lt_blk n6)]; exact n6)
        have y8 := heap_set4 (.int .i64 ost) (.slice (some ⟨p, o, none⟩) ng k) (.int .i64 k') (.slice (some ⟨w5.heap.size, 0, none⟩) 1 1) r7
        have hB8 : Below w.heap.size w ((((w7.setCell ⟨w.heap.size, 0, none⟩ (.int .i64 ost)).setCell ⟨w.heap.size, 1, none⟩ (.slice (some ⟨p, o, none⟩) ng k)).setCell ⟨w.heap.size, 2, none⟩ (.int .i64 k')).setCell ⟨w.heap.size, 3, none⟩ (.slice (some ⟨w5.heap.size, 0, none⟩) 1 1)) := (((hB7.setCell (p := ⟨w.heap.size, 0, none⟩) (Nat.le_refl _) _).setCell (p := ⟨w.heap.size, 1, none⟩) (Nat.le_refl _) _).setCell (p := ⟨w.heap.size, 2, none⟩) (Nat.le_refl _) _).setCell (p := ⟨w.heap.size, 3, none⟩) (Nat.le_refl _) _
        have hS8 : IsSS ((((w7.setCell ⟨w.heap.size, 0, none⟩ (.int .i64 ost)).setCell ⟨w.heap.size, 1, none⟩ (.slice (some ⟨p, o, none⟩) ng k)).setCell ⟨w.heap.size, 2, none⟩ (.int .i64 k')).setCell ⟨w.heap.size, 3, none⟩ (.slice (some ⟨w5.heap.size, 0, none⟩) 1 1)) (some ⟨p, o, none⟩) ng LD := hS7.blk (by rw [heap_setCell_other _ _ _ _ hpw, heap_setCell_other _ _ _ _ hpw, heap_setCell_other _ _ _ _ hpw, heap_setCell_other _ _ _ _ hpw])
        have hH8 : IsSS ((((w7.setCell ⟨w.heap.size, 0, none⟩ (.int .i64 ost)).setCell ⟨w.heap.size, 1, none⟩ (.slice (some ⟨p, o, none⟩) ng k)).setCell ⟨w.heap.size, 2, none⟩ (.int .i64 k')).setCell ⟨w.heap.size, 3, none⟩ (.slice (some ⟨w5.heap.size, 0, none⟩) 1 1)) (some ⟨w5.heap.size, 0, none⟩) 1 [Jo.headS (t + 1)] := hH7.blk (by rw [heap_setCell_other _ _ _ _ h5w, heap_setCell_other _ _ _ _ h5w, heap_setCell_other _ _ _ _ h5w, heap_setCell_other _ _ _ _ h5w])
        exact bodyPost_ret (v := .tuple #[.agg #[.int .i64 ost, .slice (some ⟨p, o, none⟩) ng k, .int .i64 k', .slice (some ⟨w5.heap.size, 0, none⟩) 1 1], .int .i64 0]) (res_row rfl _ _ w.heap.size rfl _ _ _ y8 Try.underlying66 size78 _ rfl) rfl ⟨hB8, .inr (.inr ⟨hz, Nat.le_of_not_lt HB.out, HMX.out, p, o, k, _, _, rfl, hS8, hH8⟩)⟩
/-- What is on a disk behind a Reset that is done. -/
def setTo (v : Int → Sec) (N : Nat) (g : Jo.Gr) : Int → Sec := updO (updO v (otSt v N) (Jo.laid g ((best v 2).2 + 1) 1)) (1 - (best v 2).1) [Jo.headS ((best v 2).2 + 1)]
end Go.Proofs.Ytllohapbbmnipad
