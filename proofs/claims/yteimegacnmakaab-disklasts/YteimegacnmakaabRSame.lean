/-
  What sameInts and same of the statements on disks return.
-/
import Derived.Test.YteimegacnmakaabRDo
import Derived.WalkSmall
namespace Go.Proofs.Yteimegacnmakaab
open Go.RowKit Go.ChangeShapes Go.WideShapes Go.ChangeAt Go.Maps
set_option linter.unusedVariables false
set_option linter.unusedSimpArgs false
theorem isZ_own {w : World} {base : Nat} {v : Value} {zs : List Int} (h : w.ownsRow base 3 1 v zs.length (zs.map encZ)) (hz : ∀ x ∈ zs, 0 ≤ x ∧ x < 8) : ∃ a cap, v = .slice a zs.length cap ∧ IsZ w a zs.length zs := by
  have hb : ∀ i, -9223372036854775808 ≤ zs.getD i 0 ∧ zs.getD i 0 < 9223372036854775808 := by
    intro i
    by_cases hi : i < zs.length
    · have : zs.getD i 0 ∈ zs := by simp [List.getD, hi]
      have := hz _ this
      omega
    · simp [List.getD, List.getElem?_eq_none (show zs.length ≤ i by omega)]
  rcases h.2 with ⟨hv, hn⟩ | ⟨g, cap, cur, rfl, hbs, hg, hn, hc, hs, ht⟩
  · have hv0 : zs = [] := List.eq_nil_of_length_eq_zero hn
    subst hv0
    exact ⟨none, 0, hv, rfl, Nat.zero_le _, fun h => absurd h (by simp), hb⟩
  · refine ⟨_, cap, rfl, rfl, Nat.le_trans hn hc, fun hp => ⟨g, 0, rfl, fun i hi => ?_⟩, hb⟩
    rw [Nat.zero_add, cell_of_row _ _ _ _ _ _ hg]
    have e : (cur.toList.take (zs.length * 1))[i]? = (zs.map encZ)[i]? := by rw [ht]
    rw [List.getElem?_take, if_pos (by omega), List.getElem?_map, List.getElem?_eq_getElem hi] at e
    simp [List.getD, hi]
    simpa using e
set_option maxRecDepth 100000 in
set_option maxHeartbeats 1000000 in
theorem sameInts_c {w : World} (a1 a2 : Option Addr) (len cap1 cap2 : Nat) (zs : List Int) (h1 : IsZ w a1 len zs) (h2 : IsZ w a2 len zs) :
    Calls Try.prog 36 #[.slice a1 len cap1, .slice a2 len cap2] w fun e w' => e = .returned (.bool true) ∧ Below w.heap.size w w' := by
  have hlm : len ≤ maxLen := h1.2.1
  unfold maxLen at hlm
  have H1 := hid h1
  have H2 := hid h2
  clear h1 h2
  go_enter Try.func36, Try.ntmps36
  go_wp2
  go_loopw [5] (fun k wr => ∃ m : Nat, m ≤ len ∧ k = .int .i64 m ∧ Below w.heap.size w wr) (fun k _ => (len - intOf k).toNat)
  case atStart => exact ⟨0, by omega, rfl, Below.refl _ _⟩
  case round =>
    obtain ⟨m, hm, rfl, hB⟩ := hrel
    by_cases hml : m < len
    · obtain ⟨b1, o1, rfl, c1⟩ := H1.out.2.2.1 (by omega)
      obtain ⟨b2, o2, rfl, c2⟩ := H2.out.2.2.1 (by omega)
      have k1 : wr.cell? ⟨b1, o1 + m, none⟩ = some (.int .i64 (zs.getD m 0)) := cell_later hB (c1 m hml)
      have k2 : wr.cell? ⟨b2, o2 + m, none⟩ = some (.int .i64 (zs.getD m 0)) := cell_later hB (c2 m hml)
      generalize zs.getD m 0 = z at k1 k2
      have hmI : (m : Int) < (len : Int) := by omega
      clear c1 c2
      go_wp2
      go_quiet (fail)
      go_wp2
      go_roundw
      case rel => exact ⟨m + 1, by omega, by go_num, below_drewN hB _⟩
      case measure => simp [intOf]; omega
    · go_wp2
      go_ret
      exact ⟨rfl, hB⟩
theorem guardA : Try.prog.eqGuardType Try.prog.depth 52 = false := by kernel_rfl
/-- 's != u' of like sectors. -/
theorem wpList_neqS (w : World) {ops : Array Oper} {rest : List Oper} {o : Oper} {a : Act} {Q : Exit → Act → World → Prop} (hg : o.guard = none) (x y : Operand) (t : TypeId) (hop : o.op = .binOp .neq 52 x y t)
    (s : Sec) (hx : a.eval x = secV s) (hy : a.eval y = secV s) (hs : IsSec s) (h : wpList Try.prog ops Q rest (a.put o.dst (.bool false)) w) : wpList Try.prog ops Q (o :: rest) a w := by
  refine wpList_plain hg fun K' hK' => ?_
  have e1 := secEq (P := Try.prog) w 52 5 Try.underlying52 Try.underlying5 size8 hs hs
  have e2 : (eqGuard .neq 52 x y (secV s) (secV s)).run Try.prog w = .ok () w := run_eqGuard_agg w .neq 52 x y _ _ guardA
  have e3 : (binOp .neq 52 (secV s) (secV s)).run Try.prog w = .ok (.bool false) w := by
    have e4 := e1
    unfold secV at e4 ⊢
    rw [run_eql_struct] at e4
    rw [run_neq_struct]
    cases hR : (Op.equalIn 10000 52 (.agg (s.map by8).toArray) (.agg (s.map by8).toArray)).run Try.prog w with
    | ok b w' =>
      rw [hR] at e4
      simp [Result.andThen] at e4 ⊢
      exact e4
    | halt h w' =>
      rw [hR] at e4
      simp [Result.andThen] at e4
  unfold Oper.wp
  simp only [execOp, hop, hx, hy, Sem.run_bind, e3, e2, Result.andThen, Sem.run_pure]
  exact hK' _ _ h
theorem keys_buf {B : List (Int × Sec)} (hp : B.Pairwise (fun p q => p.1 < q.1)) {c : Int → Option Sec} (hc : ∀ i, c i = bufAt B i) : Keys c (B.map (·.1)) := by
  refine ⟨by rw [List.pairwise_map]; exact hp, fun i => ?_⟩
  rw [hc]
  constructor
  · intro h
    obtain ⟨p, h1, rfl⟩ := List.mem_map.1 h
    rw [(bufAt_iff hp p.1 p.2).2 h1]; rfl
  · intro h
    obtain ⟨s, hs⟩ := Option.isSome_iff_exists.1 h
    exact List.mem_map.2 ⟨(i, s), (bufAt_iff hp i s).1 hs, rfl⟩
/-- What both disks read is the same. -/
theorem both_read {w : World} {d b1 b2 r N : Nat} {on : Int → Sec} {c : Int → Option Sec} (h : Pair w d b1 b2 r N on c) (k : Int) (h0 : -1 ≤ k) (h1 : k ≤ N) : ∃ (s : Sec) (e0 : Int), IsSec s ∧
    (∀ W, Below w.heap.size w W → Calls Try.prog 23 #[pD d, .int .i64 k] W fun e w' => e = .returned (.tuple #[secV s, .int .i64 e0]) ∧ Below W.heap.size W w') ∧
    (∀ W, Below w.heap.size w W → Calls Try.prog 35 #[pD r, .int .i64 k] W fun e w' => e = .returned (.tuple #[secV s, .int .i64 e0]) ∧ Below W.heap.size W w') := by
  by_cases hk : 0 ≤ k ∧ k < N
  · obtain ⟨j, rfl⟩ : ∃ j : Nat, k = (j : Int) := ⟨k.toNat, by omega⟩
    obtain ⟨hD, L, B, hR, hon, hc⟩ := h
    have hjN : j < N := by omega
    have e : (c j).getD (on j) = (bufAt B j).getD (L.getD j zsec) := by rw [hc, hon j hjN]
    refine ⟨(c j).getD (on j), 0, ?_, fun W hW => read_c (hD.later hW) j (by omega) (by omega), fun W hW => by rw [e]; exact rread_c (hR.later hW) j hjN⟩
    cases hq : c j with
    | some s => exact (hD.2.2.2.2.1.2 _ s hq).1
    | none =>
      show IsSec (on j)
      rw [hon j hjN]
      have hl := hR.2.1
      rw [List.getD_eq_getElem?_getD, List.getElem?_eq_getElem (by omega)]
      exact hR.2.2.1 _ (List.getElem_mem _)
  · obtain ⟨hD, L, B, hR, hon, hc⟩ := h
    exact ⟨zsec, 2, zsec_is, fun W hW => read_bad (hD.later hW) k (by omega), fun W hW => rread_bad (hR.later hW) k (by omega)⟩
set_option maxRecDepth 100000 in
set_option maxHeartbeats 2000000 in
theorem same_c {w : World} {d b1 b2 r N : Nat} {on : Int → Sec} {c : Int → Option Sec} (h : Pair w d b1 b2 r N on c) :
    Calls Try.prog 16 #[pD d, pD r] w fun e w' => e = .returned (.bool true) ∧ Below w.heap.size w w' := by
  have hN := h.lts
  have HBR := hid (both_read h)
  obtain ⟨hD, L, B, hR, hon, hc⟩ := h
  have HRS : Hid (∀ W, Below w.heap.size w W → Calls Try.prog 34 #[pD r] W fun e w' => e = .returned (.int .i64 N) ∧ w' = W) := fun W hW => rsize_c (hR.later hW)
  have HDS : Hid (∀ W, Below w.heap.size w W → Calls Try.prog 33 #[pD d] W fun e w' => e = .returned (.int .i64 N) ∧ w' = W) := fun W hW => size_c (hD.later hW)
  have HDL : Hid (∀ W, Below w.heap.size w W → Calls Try.prog 22 #[pD d] W fun e w' => ∃ v ss, e = .returned v ∧ Keys c ss ∧ w'.ownsRow W.heap.size 3 1 v ss.length (ss.map encZ) ∧ Below W.heap.size W w') := fun W hW => loose_c (hD.later hW)
  have HRL : Hid (∀ W, Below w.heap.size w W → Calls Try.prog 37 #[pD r] W fun e w' => ∃ v, e = .returned v ∧ w'.ownsRow W.heap.size 3 1 v B.length ((B.map (·.1)).map encZ) ∧ Below W.heap.size W w') := fun W hW => rloose_c (hR.later hW)
  have HKB := hid (keys_buf hR.2.2.2.1 hc)
  have HRG : Hid (∀ x ∈ B.map (·.1), 0 ≤ x ∧ x < 8) := fun x hx => by
    obtain ⟨p, hp, rfl⟩ := List.mem_map.1 hx
    have := (hR.2.2.2.2.1 p hp).2
    omega
  have zz := zlit
  clear hD hR hon hc
  go_enter Try.func16, Try.ntmps16
  go_wp2
  go_loopw [5] (fun k wr => ∃ m : Int, -1 ≤ m ∧ m ≤ N + 1 ∧ k = .int .i64 m ∧ Hid (Below w.heap.size w wr)) (fun k _ => ((N : Int) + 1 - intOf k).toNat)
  case atStart => exact ⟨-1, by omega, by omega, rfl, Below.refl _ _⟩
  case round =>
    obtain ⟨m, hm0, hm1, rfl, HB⟩ := hrel
    by_cases hmN : m ≤ (N : Int)
    · obtain ⟨s, e0, hs, hRd, hRr⟩ := HBR.out m hm0 hmN
      have HRd := hid hRd
      have HRr := hid hRr
      clear hRd hRr
      have hs32 := hs.1
      go_wp2_with (first
        | (go_at_call 34; refine (HRS.out _ HB.out).mono ?_; rintro _ w1 ⟨rfl, hw1⟩; rw [hw1]; clear hw1)
        | (go_at_call 23; refine (HRd.out _ HB.out).mono ?_; rintro _ w2 ⟨rfl, hb2⟩; have B2 : Hid (Below w.heap.size w (w2.alloc (.cells (s.map by8).toArray 53))) := (HB.out.trans (hb2.mono HB.out.size)).alloc (Nat.le_trans HB.out.size hb2.size) _)
        | (refine wpList_storeS w2 rfl _ _ _ rfl sizeS _ rfl (by simp) s rfl hs32 _ (by simp; decide) ?_)
        | (go_at_call 35; refine (HRr.out _ B2.out).mono ?_; rintro _ w3 ⟨rfl, hb3⟩; (have K3 : Hid (w3.heap[w2.heap.size]? = some (.cells (s.map by8).toArray 53)) := (hb3.block _ (by simp)).trans (heap_alloc_new w2 _)); (have B3 : Hid (Below w.heap.size w (w3.alloc (.cells (s.map by8).toArray 61))) := (B2.out.trans (hb3.mono B2.out.size)).alloc (Nat.le_trans B2.out.size hb3.size) _); (have l23 : w2.heap.size < w3.heap.size := by have := hb3.size; simp at this; omega))
        | (refine wpList_storeS w3 rfl _ _ _ rfl sizeR _ rfl (by simp) s rfl hs32 _ (by simp; decide) ?_)
        | (refine wpList_loadS _ rfl _ _ rfl sizeS Try.underlying53 _ rfl s hs32 _ _ ((Below.heap_alloc _ _ _ l23).trans K3.out) ?_)
        | (refine wpList_loadS _ rfl _ _ rfl sizeR Try.underlying61 _ rfl s hs32 _ _ (heap_alloc_new w3 _) ?_)
        | (refine wpList_neqS _ rfl _ _ _ rfl s rfl rfl hs ?_))
      go_roundw
      case rel => exact ⟨m + 1, by omega, by omega, by go_num, B3.out⟩
      case measure => simp [intOf]; omega
    · go_wp2_with (first
        | (go_at_call 34; refine (HRS.out _ HB.out).mono ?_; rintro _ w1 ⟨rfl, hw1⟩; rw [hw1]; clear hw1)
        | (go_at_call 33; refine (HDS.out _ HB.out).mono ?_; rintro _ w1 ⟨rfl, hw1⟩; rw [hw1]; clear hw1)
        | (go_at_call 22; refine (HDL.out _ HB.out).mono ?_; rintro _ w2 ⟨v2, ss, rfl, hk, hrow2, hb2⟩; (have B2 := hid (HB.out.trans (hb2.mono HB.out.size))))
        | (go_at_call 37; refine (HRL.out _ B2.out).mono ?_; rintro _ w3 ⟨v3, rfl, hrow3, hb3⟩; (have ess := Keys.one hk HKB.out); (have hrow2' := own_lat hrow2 hb3); (rw [ess] at hrow2'); (have hrow3' : w3.ownsRow w2.heap.size 3 1 v3 (B.map (·.1)).length ((B.map (·.1)).map encZ) := by simpa using hrow3); (obtain ⟨a2, cap2, ev2, hz2⟩ := isZ_own hrow2' HRG.out); (obtain ⟨a3, cap3, ev3, hz3⟩ := isZ_own hrow3' HRG.out); rw [List.length_map] at ev2 ev3 hz2 hz3; rw [ev2, ev3]; (have SC := hid (sameInts_c a2 a3 _ cap2 cap3 _ hz2 hz3)); clear hk hrow2 hrow3 ess hrow2' hrow3' ev2 ev3 hz2 hz3)
        | (go_at_call 36; refine SC.out.mono ?_; rintro _ w4 ⟨rfl, hb4⟩))
      go_ret
      exact ⟨rfl, (B2.out.trans (hb3.mono B2.out.size)).trans (hb4.mono (Nat.le_trans B2.out.size hb3.size))⟩
end Go.Proofs.Yteimegacnmakaab
