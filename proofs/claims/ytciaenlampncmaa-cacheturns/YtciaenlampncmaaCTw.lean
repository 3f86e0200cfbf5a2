/-
  CacheTurns, gone through.
-/
import Derived.Test.YtciaenlampncmaaCRw
import Derived.Test.YtciaenlampncmaaCTm
import Derived.Test.YtciaenlampncmaaCLv
namespace Go.Proofs.Ytciaenlampncmaa
open Go.RowKit Go.ChangeShapes Go.WideShapes Go.ChangeAt
open Go.ChangeMaps (open_string shut_string)
set_option linter.unusedVariables false
set_option linter.unusedSimpArgs false
set_option maxRecDepth 100000
theorem turns_n {n : Int} (h0 : 0 ≤ n) (h1 : n < 256) : n.tmod 10 = ((n.toNat % 10 : Nat) : Int) := by
  rw [Int.tmod_eq_emod_of_nonneg h0]; omega
theorem turns_z {n : Int} (h0 : 0 ≤ n) : n.tmod 16 = ((n.toNat % 16 : Nat) : Int) := by
  rw [Int.tmod_eq_emod_of_nonneg h0]; omega
theorem TI.new (M : Nat) : TI ⟨M, 0, 0, fun _ => none, 0, fun _ => none⟩ M [] where
  most := rfl
  nd := List.nodup_nil
  rng := fun x h => by simp at h
  len := Nat.zero_le _
  m := rfl
  dear := fun x => rfl
  mem := fun x => by simp
  clean := fun x => rfl
  ord := List.Pairwise.nil
  low := fun x h => by simp at h
theorem RowF.base {w : World} {B B' : Nat} {v : Value} {us : List Int} (h : RowF w B v us) (hB : B' ≤ B) : RowF w B' v us := by
  obtain ⟨a, cap, e, h1, h2, h3⟩ := h
  refine ⟨a, cap, e, h1, h2, fun hp => ?_⟩
  obtain ⟨g, off, cur, e1, e2, e3⟩ := h3 hp
  exact ⟨g, off, cur, e1, Nat.le_trans hB e2, e3⟩
theorem turnR_snoc {f : Int} {us : List Int} {q : Nat} (h : q < us.length) : turnR f (us.take (q + 1)) = if us.getD q 0 = f then turnR f (us.take q) else turnR f (us.take q) ++ [us.getD q 0] := by
  have e : us.take (q + 1) = us.take q ++ [us.getD q 0] := take_snoc us q h
  unfold turnR
  rw [e, List.filter_append]
  by_cases hq : us.getD q 0 = f
  · rw [if_pos hq, hq]; simp
  · rw [if_neg hq]
    congr 1
    simp only [List.filter_cons, List.filter_nil]
    rw [if_pos (decide_eq_true hq)]
theorem turnR_le (f : Int) (us : List Int) : (turnR f us).length ≤ us.length := List.length_filter_le _ _
theorem ssOf_len {c : Ca} {M : Nat} {us : List Int} (h : TI c M us) : (ssOf us).length = us.length := by
  have hn : (ssOf us).Nodup := List.Pairwise.imp (fun h => by omega) (srt_ssOf us)
  exact ((List.perm_ext_iff_of_nodup hn h.nd).2 (fun x => mem_ssOf h.rng x)).length_eq
/-- The end of CacheTurns. -/
theorem turns_list {w : World} {g b1 b2 : Nat} {c : Ca} {M : Nat} {us : List Int} (h : IsCa w g b1 b2 c) (hT : TI c M us) (hM : M ≤ 10) :
    Calls Try.prog 12 #[pA g] w fun e w' => (∃ a cap, e = .returned (.slice a us.length cap)) ∧ Below w.heap.size w w' := by
  refine (list_c h (by rw [hT.m]; have := hT.len; omega) hT.rise).mono ?_
  rintro _ w' ⟨v, rfl, ho, hb⟩
  refine ⟨?_, hb⟩
  have hR := RowF.of_own ho rfl
  obtain ⟨a, cap, rfl, _⟩ := hR
  exact ⟨a, cap, by rw [ssOf_len hT]⟩
theorem new_fid (w : World) (y : Int) : (w.alloc (.cells #[.int .u32 y] 24)).cell? ⟨w.heap.size, 0, none⟩ = some (.int .u32 y) := by
  have := heap_alloc_new w (.cells #[.int .u32 y] 24)
  unfold World.cell?
  rw [this]
  rfl
set_option maxHeartbeats 8000000 in
theorem cacheTurns_walk (n : Int) (wn : (Lit.int .u8 n).wf = true) (a : Option Addr) (len cap : Nat) (zs : List Int) (lc : len ≤ cap) (w : World) (hB : IsB w a len zs) :
    Calls Try.prog 8 #[.int .u8 n, .slice a len cap] w fun e w' => e = .returned (.bool true) ∧ Below w.heap.size w w' := by
  have hn := bd_u8 wn
  obtain ⟨M0, hM0, eM⟩ : ∃ M0 : Nat, M0 < 10 ∧ n.tmod 10 = (M0 : Int) := ⟨n.toNat % 10, by omega, turns_n hn.1 hn.2⟩
  have HB := hid hB
  clear hB wn
  go_enter Try.func8, Try.ntmps8
  go_wp2_with fail
  refine (new_c ((M0 : Int) + 1) (by omega) (by omega) w).mono ?_
  rintro _ w1 ⟨rfl, hC1, hb1⟩
  have C1 := hid hC1
  have B1 := hid hb1
  obtain ⟨_, _, _, _, _, lg, _⟩ := hC1.cells
  clear hC1 hb1
  have T0 : Hid (TI ⟨(M0 : Int) + 1, 0, 0, fun _ => none, 0, fun _ => none⟩ (M0 + 1) []) := hid (TI.new (M0 + 1))
  go_wp2_with fail
  go_loopw [6, 7] (fun u i wr => ∃ (k : Nat) (us : List Int) (c : Ca), i = .int .i64 k ∧ k ≤ 60 ∧ Hid (c.uses = k) ∧ Hid (TI c (M0 + 1) us) ∧ Hid (RowF wr w1.heap.size u us) ∧ Hid (IsCa wr (w.heap.size + 2) w.heap.size (w.heap.size + 1) c) ∧ Hid (Below w.heap.size w wr) ∧ w1.heap.size ≤ wr.heap.size) (fun _ i _ => (60 - intOf i).toNat)
  case atStart => exact ⟨0, [], _, rfl, by omega, hid rfl, T0, hid (RowF.nil _ _), C1, B1, Nat.le_refl _⟩
  case round =>
    obtain ⟨k, us, c, rfl, hk, UK, TK, RK, CK, BK, zk⟩ := hrel
    obtain ⟨wo, hwo⟩ : ∃ wo, wo = wr := ⟨_, rfl⟩
    subst hwo
    have hMI : (M0 : Int) < 10 := by omega
    by_cases hgo : k < len ∧ k < 60
    · obtain ⟨hkl, hk60⟩ := hgo
      have hklI : (k : Int) < (len : Int) := by omega
      have hk60I : (k : Int) < 60 := by omega
      obtain ⟨sb, so, ea, hcell⟩ := (HB.out.later BK.out).2.2.1 (by omega)
      have hc := hcell k hkl
      have hzb := HB.out.2.2.2 k
      have HB' := HB
      subst ea
      clear hcell
      generalize zs.getD k 0 = z at *
      obtain ⟨z0, hz0, eZ⟩ : ∃ z0 : Nat, z0 < 16 ∧ z.tmod 16 = (z0 : Int) := ⟨z.toNat % 16, by omega, turns_z hzb.1⟩
      have hus : us.length ≤ 10 := by have := TK.out.len; omega
      obtain ⟨a6, cap6, rfl, q61, _⟩ := RK.out
      go_wp2_with fail
      go_loopw [9, 10] (fun r j wx => ∃ q : Nat, j = .int .i64 q ∧ q ≤ us.length ∧ Hid (RowF wx wo.heap.size r (turnR ((z0 : Int) + 1) (us.take q))) ∧ Hid (Below wo.heap.size wo wx)) (fun _ j _ => us.length - (intOf j).toNat)
      case atStart => exact ⟨0, rfl, by omega, hid (RowF.nil _ _), hid (Below.refl _ _)⟩
      case round =>
        obtain ⟨q, rfl, hq, RQ, BQ⟩ := hrel
        by_cases hqi : q < us.length
        · have hqI : (q : Int) < (us.length : Int) := by omega
          obtain ⟨_, _, hat⟩ := (RK.out.later BQ.out).at
          obtain ⟨gu, ou, ea6, _, hcl⟩ := hat (by omega)
          have hcq := hcl q hqi
          subst ea6
          clear hcl hat
          have hsn := turnR_snoc (f := (z0 : Int) + 1) hqi
          have hlr : (turnR ((z0 : Int) + 1) (us.take q)).length < 1000 := by have := turnR_le ((z0 : Int) + 1) (us.take q); rw [List.length_take] at this; omega
          have HSN := hid hsn
          clear hsn
          generalize us.getD q 0 = y at *
          by_cases hy : y = (z0 : Int) + 1
          · have hyb : (y != (z0 : Int) + 1) = false := by simp [hy]
            have RQ2 : Hid (RowF wr wo.heap.size u9 (turnR ((z0 : Int) + 1) (us.take (q + 1)))) := hid (by rw [HSN.out, if_pos hy]; exact RQ.out)
            go_wp2_with fail
            go_roundw
            case rel => exact ⟨q + 1, by first | rfl | go_num, by omega, RQ2, BQ⟩
            case measure => simp [intOf]; omega
          · have hyb : (y != (z0 : Int) + 1) = true := by simp [hy]
            have CN : Hid ((wr.alloc (.cells #[.int .u32 y] 24)).cell? ⟨wr.heap.size, 0, none⟩ = some (.int .u32 y)) := hid (new_fid wr y)
            have RN : Hid (RowF (wr.alloc (.cells #[.int .u32 y] 24)) wo.heap.size u9 (turnR ((z0 : Int) + 1) (us.take q))) := hid (RQ.out.later ((Below.refl _ _).alloc (Nat.le_refl _) _))
            have BN : Hid (Below wo.heap.size wo (wr.alloc (.cells #[.int .u32 y] 24))) := hid (BQ.out.alloc BQ.out.size _)
            go_wp2_with (at_builtin; refine wpList_appendF _ rfl _ _ rfl wo.heap.size _ _ rfl RN.out BN.out.size hlr wr.heap.size y rfl CN.out ?_; intro v8 w8 hR8 hO8; (have R8 := hid hR8); (have B8 := hid (BN.out.trans (hO8.below BN.out.size (fun k e => e)))); clear hR8 hO8)
            have R9 : Hid (RowF w8 wo.heap.size v8 (turnR ((z0 : Int) + 1) (us.take (q + 1)))) := hid (by rw [HSN.out, if_neg hy]; exact R8.out)
            go_roundw
            case rel => exact ⟨q + 1, by first | rfl | go_num, by omega, R9, B8⟩
            case measure => simp [intOf]; omega
        · have hqe : q = us.length := by omega
          have hqI : ¬ (q : Int) < (us.length : Int) := by omega
          have hqd : decide ((q : Int) < (us.length : Int)) = false := decide_eq_false hqI
          have RE : Hid (RowF wr wo.heap.size u9 (turnR ((z0 : Int) + 1) us)) := hid (by have := RQ.out; rw [hqe, List.take_length] at this; exact this)
          have CE := hid (CK.out.later BQ.out)
          clear RQ hqe
          have hfr : (1 : Int) ≤ (z0 : Int) + 1 ∧ (z0 : Int) + 1 ≤ 16 := by omega
          obtain ⟨pr, pt, pu⟩ := TK.out.put (by omega) hfr
          have PC : Hid (∀ W, IsCa W (w.heap.size + 2) w.heap.size (w.heap.size + 1) c → Calls Try.prog 13 #[pA (w.heap.size + 2), .int .u32 ((z0 : Int) + 1)] W fun e w' => e = .returned (.tuple #[.int .u32 (turnW (M0 + 1) ((z0 : Int) + 1) us), .int .i64 0]) ∧ IsCa w' (w.heap.size + 2) w.heap.size (w.heap.size + 1) (c.putS ((z0 : Int) + 1) (c.nextOf (ssOf us))) ∧ Ou (Tri (w.heap.size + 2) w.heap.size (w.heap.size + 1)) W w') := hid (fun W hW => by
            have := put_c hW (by rw [TK.out.m]; omega) (by rw [UK.out]; omega) (by rw [UK.out]; omega) TK.out.rise (i := (z0 : Int) + 1) (by omega) (by omega)
            rw [pr] at this
            exact this)
          have PT := hid pt
          have PU : Hid ((c.putS ((z0 : Int) + 1) (c.nextOf (ssOf us))).uses = ((k + 1 : Nat) : Int)) := hid (by rw [pu, UK.out]; omega)
          clear pr pt pu
          generalize c.putS ((z0 : Int) + 1) (c.nextOf (ssOf us)) = c' at *
          have hrl := turnR_le ((z0 : Int) + 1) us
          have CN : Hid ((wr.alloc (.cells #[.int .u32 ((z0 : Int) + 1)] 24)).cell? ⟨wr.heap.size, 0, none⟩ = some (.int .u32 ((z0 : Int) + 1))) := hid (new_fid wr _)
          have BN : Hid (Below wo.heap.size wo (wr.alloc (.cells #[.int .u32 ((z0 : Int) + 1)] 24))) := hid (BQ.out.alloc BQ.out.size _)
          have RN0 : Hid (Below wr.heap.size wr (wr.alloc (.cells #[.int .u32 ((z0 : Int) + 1)] 24))) := hid ((Below.refl _ _).alloc (Nat.le_refl _) _)
          obtain ⟨a9, cap9, e9, l9, n9, h9⟩ := RE.out
          subst e9
          by_cases hful : (turnR ((z0 : Int) + 1) us).length = us.length ∧ M0 + 1 ≤ (turnR ((z0 : Int) + 1) us).length
          · have EU : Hid (turnU (M0 + 1) ((z0 : Int) + 1) us = (turnR ((z0 : Int) + 1) us).tail ++ [(z0 : Int) + 1]) := hid (by unfold turnU; rw [if_pos hful])
            have EW : turnW (M0 + 1) ((z0 : Int) + 1) us = (turnR ((z0 : Int) + 1) us).headD 0 := by unfold turnW; rw [if_pos hful]
            rw [EW] at PC
            clear EW n9 h9
            obtain ⟨_, _, hat9⟩ := RE.out.at
            generalize turnR ((z0 : Int) + 1) us = r at *
            cases r with
            | nil => exfalso; simp at hful
            | cons y t =>
              obtain ⟨g9, of9, ea9, hb9, hc9⟩ := hat9 (by simp)
              subst ea9
              have hcy := hc9 0 (by simp)
              simp only [Nat.add_zero, List.getD_cons_zero] at hcy
              rw [show (y :: t).headD 0 = y from rfl] at PC
              have hlen : Hid ((y :: t).length = t.length + 1) := hid rfl
              obtain ⟨hf1, hf2⟩ := hful
              clear hc9 hat9
              generalize (y :: t).length = rl at *
              have hrp : 0 < rl := by have := hlen.out; omega
              have hrpI : (0 : Int) < (rl : Int) := by omega
              have hr1I : (1 : Int) ≤ (rl : Int) := by omega
              have hMI2 : (M0 : Int) < (rl : Int) := by omega
              have hMd : decide ((M0 : Int) < (rl : Int)) = true := decide_eq_true hMI2
              have hrb : ((rl : Int) == (us.length : Int)) = true := by simp; omega
              have hcapI : (1 : Int) ≤ (cap9 : Int) := by omega
              have ht10 : t.length < 1000 := by have := hlen.out; omega
              clear hf1 hf2
              have EU' : Hid (turnU (M0 + 1) ((z0 : Int) + 1) us = t ++ [(z0 : Int) + 1]) := EU
              clear EU
              have EU := EU'
              clear EU'
              by_cases hcp : cap9 = 1
              · obtain rfl : t = [] := List.eq_nil_of_length_eq_zero (by have := hlen.out; omega)
                have hcz : cap9 - 1 = 0 := by omega
                have RT : RowF wr wo.heap.size (.slice (some ⟨g9, of9, none⟩) (rl - 1) (cap9 - 1)) [] := RE.out.tail (some ⟨g9, of9, none⟩) (fun h => by omega) (by simp)
                rw [hcz] at RT
                have RN := hid (RT.later RN0.out)
                clear RT hcp
                go_wp2_with (first
                  | (go_at_call 13; refine (PC.out _ C8.out).mono ?_; rintro _ w9 ⟨rfl, hC9, hO9⟩; (have C9 := hid hC9); (have O9 := hid hO9); clear hC9 hO9)
                  | (at_builtin; refine wpList_appendF _ rfl _ _ rfl wo.heap.size _ _ rfl RN.out BN.out.size (by simp) wr.heap.size ((z0 : Int) + 1) rfl CN.out ?_; intro v8 w8 hR8 hO8; (have R8 := hid hR8); (have B8 := hid (BN.out.trans (hO8.below BN.out.size (fun k e => e)))); (have C8 := hid (CK.out.later B8.out)); clear hR8 hO8))
                have U9 : Hid (RowF w9 w1.heap.size v8 (turnU (M0 + 1) ((z0 : Int) + 1) us)) := hid (by rw [EU.out]; exact (R8.out.base zk).out O9.out (fun k e => by rcases e with e | e | e <;> omega))
                have B9 : Hid (Below w.heap.size w w9) := hid ((BK.out.trans (B8.out.mono BK.out.size)).trans (O9.out.below (by have := BK.out.size; have := B8.out.size; omega) (fun k e => by rcases e with e | e | e <;> omega)))
                have z9 : w1.heap.size ≤ w9.heap.size := by have := B8.out.size; have := O9.out.size; omega
                go_roundw
                case rel => exact ⟨k + 1, _, _, by first | rfl | go_num, by omega, PU, PT, U9, C9, B9, z9⟩
                case measure => simp [intOf]; omega
              · have RT : RowF wr wo.heap.size (.slice (some ⟨g9, of9 + 1, none⟩) (rl - 1) (cap9 - 1)) t := RE.out.tail (some ⟨g9, of9 + 1, none⟩) (fun h => rfl) (by simp)
                have RN := hid (RT.later RN0.out)
                have hcp2 : ¬ cap9 ≤ 1 := by omega
                have hcp3 : ¬ cap9 - 1 = 0 := by omega
                have hcp4 : 1 < cap9 := by omega
                clear RT
                go_wp2_with (first
                  | (go_at_call 13; refine (PC.out _ C8.out).mono ?_; rintro _ w9 ⟨rfl, hC9, hO9⟩; (have C9 := hid hC9); (have O9 := hid hO9); clear hC9 hO9)
                  | (at_builtin; refine wpList_appendF _ rfl _ _ rfl wo.heap.size _ _ rfl RN.out BN.out.size ht10 wr.heap.size ((z0 : Int) + 1) rfl CN.out ?_; intro v8 w8 hR8 hO8; (have R8 := hid hR8); (have B8 := hid (BN.out.trans (hO8.below BN.out.size (fun k e => e)))); (have C8 := hid (CK.out.later B8.out)); clear hR8 hO8))
                have U9 : Hid (RowF w9 w1.heap.size v8 (turnU (M0 + 1) ((z0 : Int) + 1) us)) := hid (by rw [EU.out]; exact (R8.out.base zk).out O9.out (fun k e => by rcases e with e | e | e <;> omega))
                have B9 : Hid (Below w.heap.size w w9) := hid ((BK.out.trans (B8.out.mono BK.out.size)).trans (O9.out.below (by have := BK.out.size; have := B8.out.size; omega) (fun k e => by rcases e with e | e | e <;> omega)))
                have z9 : w1.heap.size ≤ w9.heap.size := by have := B8.out.size; have := O9.out.size; omega
                go_roundw
                case rel => exact ⟨k + 1, _, _, by first | rfl | go_num, by omega, PU, PT, U9, C9, B9, z9⟩
                case measure => simp [intOf]; omega
          · have EU : Hid (turnU (M0 + 1) ((z0 : Int) + 1) us = turnR ((z0 : Int) + 1) us ++ [(z0 : Int) + 1]) := hid (by unfold turnU; rw [if_neg hful])
            have EW : turnW (M0 + 1) ((z0 : Int) + 1) us = 0 := by unfold turnW; rw [if_neg hful]
            rw [EW] at PC
            have RN := hid (RE.out.later RN0.out)
            clear EW h9 n9
            generalize turnR ((z0 : Int) + 1) us = r at *
            by_cases hrle : r.length = us.length
            · have hM : ¬ (M0 : Int) < (r.length : Int) := by omega
              have hMd : decide ((M0 : Int) < (r.length : Int)) = false := decide_eq_false hM
              have hrb : ((r.length : Int) == (us.length : Int)) = true := by simp [hrle]
              have HRL := hid hrle
              clear hrle hful
              go_wp2_with (first
                | (go_at_call 13; refine (PC.out _ C8.out).mono ?_; rintro _ w9 ⟨rfl, hC9, hO9⟩; (have C9 := hid hC9); (have O9 := hid hO9); clear hC9 hO9)
                | (at_builtin; refine wpList_appendF _ rfl _ _ rfl wo.heap.size _ _ rfl RN.out BN.out.size (by omega) wr.heap.size ((z0 : Int) + 1) rfl CN.out ?_; intro v8 w8 hR8 hO8; (have R8 := hid hR8); (have B8 := hid (BN.out.trans (hO8.below BN.out.size (fun k e => e)))); (have C8 := hid (CK.out.later B8.out)); clear hR8 hO8))
              have U9 : Hid (RowF w9 w1.heap.size v8 (turnU (M0 + 1) ((z0 : Int) + 1) us)) := hid (by rw [EU.out]; exact (R8.out.base zk).out O9.out (fun k e => by rcases e with e | e | e <;> omega))
              have B9 : Hid (Below w.heap.size w w9) := hid ((BK.out.trans (B8.out.mono BK.out.size)).trans (O9.out.below (by have := BK.out.size; have := B8.out.size; omega) (fun k e => by rcases e with e | e | e <;> omega)))
              have z9 : w1.heap.size ≤ w9.heap.size := by have := B8.out.size; have := O9.out.size; omega
              go_roundw
              case rel => exact ⟨k + 1, _, _, by first | rfl | go_num, by omega, PU, PT, U9, C9, B9, z9⟩
              case measure => simp [intOf]; omega
            · have hrb : ((r.length : Int) == (us.length : Int)) = false := by rw [beq_eq_false_iff_ne]; omega
              clear hful
              go_wp2_with (first
                | (go_at_call 13; refine (PC.out _ C8.out).mono ?_; rintro _ w9 ⟨rfl, hC9, hO9⟩; (have C9 := hid hC9); (have O9 := hid hO9); clear hC9 hO9)
                | (at_builtin; refine wpList_appendF _ rfl _ _ rfl wo.heap.size _ _ rfl RN.out BN.out.size (by omega) wr.heap.size ((z0 : Int) + 1) rfl CN.out ?_; intro v8 w8 hR8 hO8; (have R8 := hid hR8); (have B8 := hid (BN.out.trans (hO8.below BN.out.size (fun k e => e)))); (have C8 := hid (CK.out.later B8.out)); clear hR8 hO8))
              have U9 : Hid (RowF w9 w1.heap.size v8 (turnU (M0 + 1) ((z0 : Int) + 1) us)) := hid (by rw [EU.out]; exact (R8.out.base zk).out O9.out (fun k e => by rcases e with e | e | e <;> omega))
              have B9 : Hid (Below w.heap.size w w9) := hid ((BK.out.trans (B8.out.mono BK.out.size)).trans (O9.out.below (by have := BK.out.size; have := B8.out.size; omega) (fun k e => by rcases e with e | e | e <;> omega)))
              have z9 : w1.heap.size ≤ w9.heap.size := by have := B8.out.size; have := O9.out.size; omega
              go_roundw
              case rel => exact ⟨k + 1, _, _, by first | rfl | go_num, by omega, PU, PT, U9, C9, B9, z9⟩
              case measure => simp [intOf]; omega
    · have hus : us.length ≤ 10 := by have := TK.out.len; omega
      obtain ⟨a6, cap6, rfl, _⟩ := RK.out
      by_cases hkl : k < len
      · have hk60 : k = 60 := by omega
        have UK' := UK
        subst hk60
        have hklI : ((60 : Nat) : Int) < (len : Int) := by omega
        go_wp2_with (first
          | (go_at_call 10; refine (clive_c _).mono ?_; rintro _ w2 ⟨rfl, hb2⟩; (have B2 := hid (BK.out.trans (hb2.mono BK.out.size))); (have C2 := hid (CK.out.later hb2)); clear hb2)
          | (go_at_call 12; refine (turns_list C2.out TK.out (by omega)).mono ?_; rintro _ w3 ⟨⟨a3, cap3, rfl⟩, hb3⟩; (have B3 := hid (B2.out.trans (hb3.mono B2.out.size))); clear hb3))
        go_ret
        exact ⟨by first | rfl | exact ret_bool (by simp), B3.out⟩
      · have hklI : ¬ (k : Int) < (len : Int) := by omega
        have hkld : decide ((k : Int) < (len : Int)) = false := decide_eq_false hklI
        go_wp2_with (first
          | (go_at_call 10; refine (clive_c _).mono ?_; rintro _ w2 ⟨rfl, hb2⟩; (have B2 := hid (BK.out.trans (hb2.mono BK.out.size))); (have C2 := hid (CK.out.later hb2)); clear hb2)
          | (go_at_call 12; refine (turns_list C2.out TK.out (by omega)).mono ?_; rintro _ w3 ⟨⟨a3, cap3, rfl⟩, hb3⟩; (have B3 := hid (B2.out.trans (hb3.mono B2.out.size))); clear hb3))
        go_ret
        exact ⟨by first | rfl | exact ret_bool (by simp), B3.out⟩
end Go.Proofs.Ytciaenlampncmaa
