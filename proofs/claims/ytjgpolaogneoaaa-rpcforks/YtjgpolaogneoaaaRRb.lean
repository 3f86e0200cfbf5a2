/-
  The document's bytes of a callee.
-/
import Derived.Test.YtjgpolaogneoaaaRPu
import Derived.Deep.CutRange
namespace Go.Proofs.Ytjgpolaogneoaaa
open Go.RowKit Go.ChangeShapes Go.WideShapes Go.ChangeAt
set_option linter.unusedVariables false
set_option linter.unusedSimpArgs false
set_option maxRecDepth 100000
theorem row8_isB {w : World} {base : Nat} {v : Value} {n : Nat} {zs : List Int} (h : Row8 w base v n zs) (hz : ∀ x ∈ zs, 0 ≤ x ∧ x ≤ 255) (hm : n < 1000000) (h0 : 0 < n) : ∃ g c, v = .slice (some ⟨g, 0, none⟩) n c ∧ base ≤ g ∧ IsB w (some ⟨g, 0, none⟩) n zs := by
  obtain ⟨h1, h2, h3⟩ := h
  rcases h1.2 with ⟨hv, hn⟩ | ⟨g, cap, cur, hv, hb, hg, hn, hc, hs, ht⟩
  · omega
  · refine ⟨g, cap, hv, hb, h3, by unfold maxLen; omega, fun _ => ⟨g, 0, rfl, fun i hi => ?_⟩, fun i => ?_⟩
    · rw [cell_of_row w g (0 + i) cur _ _ hg, Nat.zero_add]
      have e := congrArg (fun l => l[i]?) ht
      simp only [List.getElem?_take, List.getElem?_map] at e
      rw [if_pos (by omega)] at e
      have hi' : i < zs.length := by omega
      rw [List.getElem?_eq_getElem hi'] at e
      simp only [Option.map_some] at e
      rw [show cur[i]? = cur.toList[i]? from by simp, e]
      simp [List.getD, hi', u8V]
    · by_cases hi : i < zs.length
      · have : zs.getD i 0 ∈ zs := by simp [List.getD, hi]
        exact hz _ this
      · simp [List.getD, List.getElem?_eq_none (by omega : zs.length ≤ i)]
theorem Row8.later {w w' : World} {base : Nat} {v : Value} {n : Nat} {zs : List Int} (h : Row8 w base v n zs) (hb : Below w.heap.size w w') : Row8 w' base v n zs := by
  obtain ⟨h1, h2, h3⟩ := h
  refine ⟨?_, Nat.le_trans h2 hb.size, h3⟩
  refine ⟨h1.1, ?_⟩
  rcases h1.2 with ⟨hv, hn⟩ | ⟨g, cap, cur, hv, hb', hg, r⟩
  · exact .inl ⟨hv, hn⟩
  · exact .inr ⟨g, cap, cur, hv, hb', by rw [hb.block g (lt_blkC hg)]; exact hg, r⟩
theorem be4_byte (n : Int) : ∀ x ∈ be4 n, 0 ≤ x ∧ x ≤ 255 := by
  intro x hx; unfold be4 at hx; simp at hx; omega
theorem be2_byte (n : Int) : ∀ x ∈ be2 n, 0 ≤ x ∧ x ≤ 255 := by
  intro x hx; unfold be2 at hx; simp at hx; omega
/-- 'append(s, x...)' in a region that draws its order. -/
theorem step_app8 (w : World) {ops : Array Oper} {o : Oper} {a : Act} {K : Act → World → Prop} {Q : Exit → Act → World → Prop} {E : Prop} (hgd : o.guard = none) (s x : Operand)
    (ho : o.op = .call { callee := .builtin .append, args := #[s, x], argTypes := #[28, 28] }) {base : Nat} {v : Value} {n : Nat} {xs : List Int} (hR : Row8 w base v n xs)
    (ad : Addr) (m c : Nat) (zs : List Int) (hs : a.eval s = v ∧ a.eval x = .slice (some ad) m c) (hb : IsB w (some ad) m zs) (hm : 0 < m) (h63 : n + m ≤ 1000000)
    (h : ∀ v' w', Row8 w' base v' (n + m) (xs ++ zs) → w.grownBy w' v.ownBlock → K (a.put o.dst v') w') :
    if Region.wanted o (yielded ops a.tmps) = true then Oper.wp Try.prog o a w K Q else E := by
  rw [if_pos (by simp [Region.wanted, hgd])]
  obtain ⟨i0, hi, hz0, hz1, hz2⟩ := info_parts8
  obtain ⟨b, off, e, hc⟩ := hb.2.2.1 hm
  cases e
  refine wp_append_own w s x 28 ho base 5 i0 (.int .u8 0) 1 1 Try.underlying28 hi hz0 hz1 hz2 rfl (by decide) v n (xs.map u8V) hs.1 hR.1 ⟨b, off, none⟩ m c (zs.map u8V) hs.2 (by simp [hb.1]) (fun j u hu => ?_) (fun y hy => by obtain ⟨x, _, rfl⟩ := List.mem_map.1 hy; rfl) (by unfold maxLen; omega) (by omega) hR.2.1 ?_
  · rw [List.getElem?_map] at hu
    obtain ⟨z, hz, rfl⟩ := Option.map_eq_some_iff.1 hu
    have hj : j < zs.length := (List.getElem?_eq_some_iff.1 hz).1
    have e1 : (⟨b, off, none⟩ : Addr).add j = ⟨b, off + j, none⟩ := by rcases j with _ | j <;> simp [Addr.add]
    rw [e1, hc j (by rw [← hb.1]; exact hj)]
    simp [List.getD, hz, u8V]
  · intro v' w' h1 h2 h3
    refine h v' w' ⟨by simpa using h1, Nat.le_trans hR.2.1 h2.size, by simp [hR.2.2, hb.1]⟩ h2
/-- 'append(s, text...)' in a region that draws its order. -/
theorem step_appT (w : World) {ops : Array Oper} {o : Oper} {a : Act} {K : Act → World → Prop} {Q : Exit → Act → World → Prop} {E : Prop} (hgd : o.guard = none) (s x : Operand)
    (ho : o.op = .call { callee := .builtin .append, args := #[s, x], argTypes := #[28, 9] }) {base : Nat} {v : Value} {n : Nat} {xs : List Int} (hR : Row8 w base v n xs)
    (tb : ByteArray) (hs : a.eval s = v ∧ a.eval x = .string tb) (h63 : n + tb.size ≤ 1000000)
    (h : ∀ v' w', Row8 w' base v' (n + tb.size) (xs ++ Fr.bs tb) → w.grownBy w' v.ownBlock → K (a.put o.dst v') w') :
    if Region.wanted o (yielded ops a.tmps) = true then Oper.wp Try.prog o a w K Q else E := by
  rw [if_pos (by simp [Region.wanted, hgd])]
  obtain ⟨i0, hi, hz0, hz1, hz2⟩ := info_parts8
  obtain ⟨v', w', hr, h2, h3, h4⟩ := Lib.run_append_own_string (P := Try.prog) w base 28 9 o.type 5 i0 Try.underlying28 Try.underlying9 hi hz0 hz1 hz2 v n (xs.map u8V) hR.1 tb (by unfold maxLen; omega) (by omega) hR.2.1
  unfold Oper.wp execOp
  simp only [ho, resolve, invoke, builtin, Sem.run_bind, Sem.run_pure, Result.andThen_ok, List.map_toArray, List.map_cons, List.map_nil, hs.1, hs.2, hr]
  rw [strCells_bs] at h2
  exact h v' w' ⟨by simpa using h2, Nat.le_trans hR.2.1 h3.size, by simp [hR.2.2, Fr.bs_length]⟩ h3
/-- The first k clients' bytes. -/
def keP (F : Nat → Tk) : Nat → List Int
  | 0 => []
  | k + 1 => keP F k ++ tkB (F (k + 1))
theorem keP_three (F : Nat → Tk) : keP F 3 = keB F := by simp [keP, keB]
theorem keP_len (F : Nat → Tk) (hF : ∀ i, (F i).Wf) : ∀ k, (keP F k).length ≤ 16395 * k
  | 0 => by simp [keP]
  | k + 1 => by
    have := keP_len F hF k
    have := tkB_len _ (hF (k + 1))
    simp [keP]; omega
theorem rk_at {w : World} {g : Nat} {F : Nat → Tk} (h : IsRK w g F) (j : Nat) (h1 : 1 ≤ j) (h3 : j ≤ 3) : w.cell? ⟨g, j * 4, none⟩ = some (.int .i64 (F j).st) ∧ w.cell? ⟨g, j * 4 + 1, none⟩ = some (.int .u32 (F j).ep) ∧ w.cell? ⟨g, j * 4 + 2, none⟩ = some (.int .u32 (F j).num) ∧ w.cell? ⟨g, j * 4 + 3, none⟩ = some (.string (F j).body) := by
  have hj : j = 1 ∨ j = 2 ∨ j = 3 := by omega
  rcases hj with rfl | rfl | rfl
  · exact h.at1
  · exact h.at2
  · exact h.at3
theorem row8_keep {w w' : World} {base A : Nat} {v : Value} {n : Nat} {zs : List Int} {c : Array Value} {T : TypeId} (h : Row8 w base v n zs) (hA : w.heap[A]? = some (.cells c T (0, 0))) (hT : T ≠ 5) (hg : w.grownBy w' v.ownBlock) : w'.heap[A]? = some (.cells c T (0, 0)) := by
  rw [hg.block A (lt_blkC hA) (fun e => ?_)]
  · exact hA
  · rcases h.1.2 with ⟨hv, hn⟩ | ⟨g, cap, cur, hv, hb', hgg, r⟩
    · rw [hv] at e; simp [Value.ownBlock] at e
    · rw [hv] at e
      simp [Value.ownBlock] at e
      subst e
      rw [hA] at hgg
      cases hgg
      exact hT rfl
theorem row8_keepA {w w' : World} {base A : Nat} {v : Value} {n : Nat} {zs : List Int} {c : Array Value} {T : TypeId} {o : Obj} (h : Row8 w base v n zs) (hA : w.heap[A]? = some (.cells c T (0, 0))) (hT : T ≠ 5) (hg : (w.alloc o).grownBy w' v.ownBlock) : w'.heap[A]? = some (.cells c T (0, 0)) :=
  row8_keep (h.later ((Below.refl _ _).alloc (Nat.le_refl _) o)) (by rw [Below.heap_alloc _ _ _ (lt_blkC hA)]; exact hA) hT hg
def TakAt (w : World) (A : Nat) (st te tn : Int) (tb : ByteArray) : Prop := w.heap[A]? = some (.cells #[.int .i64 st, .int .u32 te, .int .u32 tn, .string tb] 88 (0, 0))
theorem TakAt.cells {w : World} {A : Nat} {st te tn : Int} {tb : ByteArray} (h : TakAt w A st te tn tb) : w.cell? ⟨A, 0, none⟩ = some (.int .i64 st) ∧ w.cell? ⟨A, 1, none⟩ = some (.int .u32 te) ∧ w.cell? ⟨A, 2, none⟩ = some (.int .u32 tn) ∧ w.cell? ⟨A, 3, none⟩ = some (.string tb) := by
  unfold TakAt at h
  refine ⟨?_, ?_, ?_, ?_⟩
  all_goals simp [World.cell?, h]
theorem TakAt.later {w w' : World} {A : Nat} {st te tn : Int} {tb : ByteArray} (h : TakAt w A st te tn tb) (hb : Below w.heap.size w w') : TakAt w' A st te tn tb := by
  unfold TakAt at *; rw [hb.block A (lt_blkC h)]; exact h
set_option maxHeartbeats 8000000 in
theorem rbytes_c {w : World} {g : Nat} {F : Nat → Tk} (h : IsRK w g F) (hF : ∀ i, (F i).Wf) :
    Calls Try.prog 30 #[pC g] w fun e w' => ∃ v, e = .returned v ∧ Row8 w' w.heap.size v (keB F).length (keB F) ∧ Below w.heap.size w w' := by
  obtain ⟨i0, hi, hz0, hz1, hz2⟩ := info_parts8
  have H := hid h
  have hlt := h.lt
  have HF := hid hF
  clear h hF
  go_enter Try.func30, Try.ntmps30
  go_wp2
  go_loopg [3, 4] 4 (fun gh v i wr => ∃ j n : Nat, 1 ≤ j ∧ j ≤ 4 ∧ j + gh = 5 ∧ i = .int .i64 j ∧ Hid (Row8 wr w.heap.size v n (keP F (j - 1))) ∧ Hid (Below w.heap.size w wr))
  case atStart => exact ⟨1, 0, by omega, by omega, by omega, rfl, hid (Row8.nil w _ (Nat.le_refl _)), hid (Below.refl _ _)⟩
  case round =>
    obtain ⟨j, n, hj1, hj4, hgh, rfl, HR, HW⟩ := hrel
    obtain ⟨a0, d0, rfl⟩ := HR.out.slice
    have hn : n ≤ 16395 * 3 := by
      have h1 := keP_len F HF.out (j - 1)
      have h2 := HR.out.2.2
      have : 16395 * (j - 1) ≤ 16395 * 3 := Nat.mul_le_mul_left _ (by omega)
      omega
    by_cases hlt4 : j ≤ 3
    · have hI : (j : Int) ≤ 3 := by omega
      obtain ⟨c0, c1, c2, c3⟩ := rk_at (H.out.later HW.out) j hj1 hlt4
      have hwf := HF.out j
      have HK : Hid (keP F j = keP F (j - 1) ++ tkB (F j)) := by
        show _ = _
        obtain ⟨m, rfl⟩ : ∃ m, j = m + 1 := ⟨j - 1, by omega⟩
        rfl
      have hgl : g < wr.heap.size := (H.out.later HW.out).lt
      have hgn : ¬ g = wr.heap.size := by omega
      generalize F j = t at *
      obtain ⟨st, te, tn, tb⟩ := t
      obtain ⟨w1, w2, w3, w4⟩ := hwf
      simp only at *
      have hb0 := HR.out.2.1
      go_upto_region 6 with fail
      have b1 : Below wr.heap.size wr (wr.alloc (.cells #[.int .i64 st, .int .u32 te, .int .u32 tn, .string tb] 88)) := (Below.refl _ _).alloc (Nat.le_refl _) _
      have TA0 : Hid (TakAt (wr.alloc (.cells #[.int .i64 st, .int .u32 te, .int .u32 tn, .string tb] 88)) wr.heap.size st te tn tb) := heap_alloc_new wr _
      have R0 := hid (HR.out.later b1)
      have W0 := hid (HW.out.trans (b1.mono HW.out.size))
      have hV0 := R0.out.2.1
      clear c0 c1 c2 c3 b1 HR
      generalize (wr.alloc (.cells #[.int .i64 st, .int .u32 te, .int .u32 tn, .string tb] 88)) = V0 at *
      obtain ⟨c0, c1, c2, c3⟩ := TA0.out.cells
      have hst : st = 0 ∨ st = 1 ∨ st = 2 := by omega
      rcases hst with rfl | rfl | rfl
      · go_wp2_with (at_builtin; refine wpList_append_own _ rfl _ _ 28 rfl w.heap.size 5 i0 (.int .u8 0) 1 1 Try.underlying28 hi hz0 hz1 hz2 rfl (by decide) _ _ _ rfl ((R0.out.1).alloc _) ⟨V0.heap.size, 0, none⟩ 1 1 [.int .u8 _] rfl rfl (cell_one_new _ _ _) (fun y hy => by simp at hy; subst hy; rfl) (by unfold maxLen; omega) (by omega) (by simp; omega) ?_; intro v1 w1' hown hgrow hnil; (have B1 := hid (row8_below R0.out hgrow)); (have T1 := hid (row8_keepA R0.out TA0.out (by decide) hgrow)); (have hb1 : w.heap.size ≤ w1'.heap.size := by (have := B1.out.size; omega)); (have R1 := hid (Row8.snoc R0.out.2.2 hown hb1)); (obtain ⟨a1, d1, rfl⟩ := R1.out.slice); clear hown hgrow hnil c0 c1 c2 c3; (obtain ⟨c0, c1, c2, c3⟩ := TakAt.cells T1.out))
        go_roundg (gk - 1)
        case measure => omega
        case rel => exact ⟨j + 1, n + 1, by omega, by omega, by omega, by go_num, hid (by rw [show j + 1 - 1 = j by omega, HK.out]; exact R1.out), hid (W0.out.trans B1.out)⟩
      · go_wp2_with (at_builtin; refine wpList_append_own _ rfl _ _ 28 rfl w.heap.size 5 i0 (.int .u8 0) 1 1 Try.underlying28 hi hz0 hz1 hz2 rfl (by decide) _ _ _ rfl ((R0.out.1).alloc _) ⟨V0.heap.size, 0, none⟩ 1 1 [.int .u8 _] rfl rfl (cell_one_new _ _ _) (fun y hy => by simp at hy; subst hy; rfl) (by unfold maxLen; omega) (by omega) (by simp; omega) ?_; intro v1 w1' hown hgrow hnil; (have B1 := hid (row8_below R0.out hgrow)); (have T1 := hid (row8_keepA R0.out TA0.out (by decide) hgrow)); (have hb1 : w.heap.size ≤ w1'.heap.size := by (have := B1.out.size; omega)); (have R1 := hid (Row8.snoc R0.out.2.2 hown hb1)); (obtain ⟨a1, d1, rfl⟩ := R1.out.slice); clear hown hgrow hnil c0 c1 c2 c3; (obtain ⟨c0, c1, c2, c3⟩ := TakAt.cells T1.out))
        have R1d : Hid (Row8 w1'.drew w.heap.size (.slice a1 (n + 1) d1) (n + 1) (keP F (j - 1) ++ [1])) := R1.out
        have T1d : Hid (TakAt w1'.drew wr.heap.size 1 te tn tb) := T1.out
        have ew1 : IntKind.u64.wrap te = te := by rw [IntKind.wrap_u64]; omega
        have ew2 : IntKind.u64.wrap tn = tn := by rw [IntKind.wrap_u64]; omega
        have PA : Hid (∀ W, Calls Try.prog 45 #[.int .u64 (IntKind.u64.wrap te), .int .i64 4] W fun e w' => ∃ v', e = .returned v' ∧ Row8 w' W.heap.size v' 4 (be4 te) ∧ Below W.heap.size W w') := fun W => by rw [ew1]; exact rput4_c te W w2.1 w2.2
        have PB : Hid (∀ W, Calls Try.prog 45 #[.int .u64 (IntKind.u64.wrap tn), .int .i64 4] W fun e w' => ∃ v', e = .returned v' ∧ Row8 w' W.heap.size v' 4 (be4 tn) ∧ Below W.heap.size W w') := fun W => by rw [ew2]; exact rput4_c tn W w3.1 w3.2
        clear ew1 ew2
        go_region_held3 (fun w' => w'.cell? ⟨wr.heap.size, 1, none⟩ = some (.int .u32 te) ∧ w'.cell? ⟨wr.heap.size, 2, none⟩ = some (.int .u32 tn)) (first | (with_reducible exact ⟨(TakAt.cells T5.out).2.1, (TakAt.cells T5.out).2.2.1⟩) | (with_reducible exact ⟨(TakAt.cells T4.out).2.1, (TakAt.cells T4.out).2.2.1⟩) | (with_reducible exact ⟨(TakAt.cells T3.out).2.1, (TakAt.cells T3.out).2.2.1⟩) | (with_reducible exact ⟨(TakAt.cells T2.out).2.1, (TakAt.cells T2.out).2.2.1⟩) | go_keep)
          (first
            | (refine step_app8 _ (by rfl) _ _ (by rfl) R4.out ⟨g4, 0, none⟩ 4 k4 (be4 tn) ⟨by rfl, by rfl⟩ I4.out (by omega) (by omega) ?_; intro v5 w5' hR5 hG5; (have R5 := hid hR5); (have T5 : Hid (TakAt w5' wr.heap.size 1 te tn tb) := hid (row8_keep R4.out T4.out (by decide) hG5)); (have Y5 := hid (row8_belowT R4.out hG5)); clear hR5 hG5)
            | (go_at_call 45; with_reducible refine (PB.out w3').mono ?_; rintro _ w4' ⟨x4, rfl, hX4, hY4⟩; (have R4 := hid (R3.out.later hY4)); (have T4 := hid (TakAt.later T3.out hY4)); (obtain ⟨g4, k4, rfl, hg4, hB4⟩ := row8_isB hX4 (be4_byte tn) (by omega) (by omega)); (have I4 := hid hB4); (have Y4 := hid hY4); clear hX4 hY4 hB4 hg4)
            | (refine step_app8 _ (by rfl) _ _ (by rfl) R2.out ⟨g2, 0, none⟩ 4 k2 (be4 te) ⟨by rfl, by rfl⟩ I2.out (by omega) (by omega) ?_; intro v3 w3' hR3 hG3; (have R3 := hid hR3); (have T3 : Hid (TakAt w3' wr.heap.size 1 te tn tb) := hid (row8_keep R2.out T2.out (by decide) hG3)); (have Y3 := hid (row8_belowT R2.out hG3)); clear hR3 hG3)
            | (go_at_call 45; with_reducible refine (PA.out _).mono ?_; rintro _ w2' ⟨x2, rfl, hX2, hY2⟩; (have R2 := hid (R1d.out.later hY2)); (have T2 := hid (TakAt.later T1d.out hY2)); (obtain ⟨g2, k2, rfl, hg2, hB2⟩ := row8_isB hX2 (be4_byte te) (by omega) (by omega)); (have I2 := hid hB2); (have Y2 := hid hY2); clear hX2 hY2 hB2 hg2))
        obtain ⟨a5, d5, rfl⟩ := R5.out.slice
        have W5 := hid ((((W0.out.trans B1.out).trans ((und Y2.out).mono hb1)).trans Y3.out).trans ((Y4.out.mono (R3.out.2.1)).trans Y5.out))
        obtain ⟨c0, c1, c2, c3⟩ := TakAt.cells T5.out
        go_wp2
        go_roundg (gk - 1)
        case measure => omega
        case rel => exact ⟨j + 1, n + 1 + 4 + 4, by omega, by omega, by omega, by go_num, hid (by rw [show j + 1 - 1 = j by omega, HK.out]; have := R5.out; simpa [tkB] using this), W5⟩
      · go_wp2_with (at_builtin; refine wpList_append_own _ rfl _ _ 28 rfl w.heap.size 5 i0 (.int .u8 0) 1 1 Try.underlying28 hi hz0 hz1 hz2 rfl (by decide) _ _ _ rfl ((R0.out.1).alloc _) ⟨V0.heap.size, 0, none⟩ 1 1 [.int .u8 _] rfl rfl (cell_one_new _ _ _) (fun y hy => by simp at hy; subst hy; rfl) (by unfold maxLen; omega) (by omega) (by simp; omega) ?_; intro v1 w1' hown hgrow hnil; (have B1 := hid (row8_below R0.out hgrow)); (have T1 := hid (row8_keepA R0.out TA0.out (by decide) hgrow)); (have hb1 : w.heap.size ≤ w1'.heap.size := by (have := B1.out.size; omega)); (have R1 := hid (Row8.snoc R0.out.2.2 hown hb1)); (obtain ⟨a1, d1, rfl⟩ := R1.out.slice); clear hown hgrow hnil c0 c1 c2 c3; (obtain ⟨c0, c1, c2, c3⟩ := TakAt.cells T1.out))
        have R1d : Hid (Row8 w1'.drew w.heap.size (.slice a1 (n + 1) d1) (n + 1) (keP F (j - 1) ++ [2])) := R1.out
        have T1d : Hid (TakAt w1'.drew wr.heap.size 2 te tn tb) := T1.out
        have ew1 : IntKind.u64.wrap te = te := by rw [IntKind.wrap_u64]; omega
        have ew2 : IntKind.u64.wrap tn = tn := by rw [IntKind.wrap_u64]; omega
        have PA : Hid (∀ W, Calls Try.prog 45 #[.int .u64 (IntKind.u64.wrap te), .int .i64 4] W fun e w' => ∃ v', e = .returned v' ∧ Row8 w' W.heap.size v' 4 (be4 te) ∧ Below W.heap.size W w') := fun W => by rw [ew1]; exact rput4_c te W w2.1 w2.2
        have PB : Hid (∀ W, Calls Try.prog 45 #[.int .u64 (IntKind.u64.wrap tn), .int .i64 4] W fun e w' => ∃ v', e = .returned v' ∧ Row8 w' W.heap.size v' 4 (be4 tn) ∧ Below W.heap.size W w') := fun W => by rw [ew2]; exact rput4_c tn W w3.1 w3.2
        clear ew1 ew2
        go_region_held3 (fun w' => w'.cell? ⟨wr.heap.size, 1, none⟩ = some (.int .u32 te) ∧ w'.cell? ⟨wr.heap.size, 2, none⟩ = some (.int .u32 tn)) (first | (with_reducible exact ⟨(TakAt.cells T5.out).2.1, (TakAt.cells T5.out).2.2.1⟩) | (with_reducible exact ⟨(TakAt.cells T4.out).2.1, (TakAt.cells T4.out).2.2.1⟩) | (with_reducible exact ⟨(TakAt.cells T3.out).2.1, (TakAt.cells T3.out).2.2.1⟩) | (with_reducible exact ⟨(TakAt.cells T2.out).2.1, (TakAt.cells T2.out).2.2.1⟩) | go_keep)
          (first
            | (refine step_app8 _ (by rfl) _ _ (by rfl) R4.out ⟨g4, 0, none⟩ 4 k4 (be4 tn) ⟨by rfl, by rfl⟩ I4.out (by omega) (by omega) ?_; intro v5 w5' hR5 hG5; (have R5 := hid hR5); (have T5 : Hid (TakAt w5' wr.heap.size 2 te tn tb) := hid (row8_keep R4.out T4.out (by decide) hG5)); (have Y5 := hid (row8_belowT R4.out hG5)); clear hR5 hG5)
            | (go_at_call 45; with_reducible refine (PB.out w3').mono ?_; rintro _ w4' ⟨x4, rfl, hX4, hY4⟩; (have R4 := hid (R3.out.later hY4)); (have T4 := hid (TakAt.later T3.out hY4)); (obtain ⟨g4, k4, rfl, hg4, hB4⟩ := row8_isB hX4 (be4_byte tn) (by omega) (by omega)); (have I4 := hid hB4); (have Y4 := hid hY4); clear hX4 hY4 hB4 hg4)
            | (refine step_app8 _ (by rfl) _ _ (by rfl) R2.out ⟨g2, 0, none⟩ 4 k2 (be4 te) ⟨by rfl, by rfl⟩ I2.out (by omega) (by omega) ?_; intro v3 w3' hR3 hG3; (have R3 := hid hR3); (have T3 : Hid (TakAt w3' wr.heap.size 2 te tn tb) := hid (row8_keep R2.out T2.out (by decide) hG3)); (have Y3 := hid (row8_belowT R2.out hG3)); clear hR3 hG3)
            | (go_at_call 45; with_reducible refine (PA.out _).mono ?_; rintro _ w2' ⟨x2, rfl, hX2, hY2⟩; (have R2 := hid (R1d.out.later hY2)); (have T2 := hid (TakAt.later T1d.out hY2)); (obtain ⟨g2, k2, rfl, hg2, hB2⟩ := row8_isB hX2 (be4_byte te) (by omega) (by omega)); (have I2 := hid hB2); (have Y2 := hid hY2); clear hX2 hY2 hB2 hg2))
        obtain ⟨a5, d5, rfl⟩ := R5.out.slice
        have W5 := hid ((((W0.out.trans B1.out).trans ((und Y2.out).mono hb1)).trans Y3.out).trans ((Y4.out.mono (R3.out.2.1)).trans Y5.out))
        obtain ⟨c0, c1, c2, c3⟩ := TakAt.cells T5.out
        have R5d : Hid (Row8 w5'.drew w.heap.size (.slice a5 (n + 1 + 4 + 4) d5) (n + 1 + 4 + 4) (keP F (j - 1) ++ [2] ++ be4 te ++ be4 tn)) := R5.out
        have T5d : Hid (TakAt w5'.drew wr.heap.size 2 te tn tb) := T5.out
        have ew3 : IntKind.u64.wrap (tb.size : Int) = tb.size := by rw [IntKind.wrap_u64]; omega
        have PC : Hid (∀ W, Calls Try.prog 45 #[.int .u64 (IntKind.u64.wrap tb.size), .int .i64 2] W fun e w' => ∃ v', e = .returned v' ∧ Row8 w' W.heap.size v' 2 (be2 tb.size) ∧ Below W.heap.size W w') := fun W => by rw [ew3]; exact rput2_c tb.size W (by omega) (by omega)
        clear ew3 PA PB
        go_wp2_with fail
        go_region_held3 (fun w' => w'.cell? ⟨wr.heap.size, 3, none⟩ = some (.string tb)) (first | (with_reducible exact (TakAt.cells T8.out).2.2.2) | (with_reducible exact (TakAt.cells T7.out).2.2.2) | (with_reducible exact (TakAt.cells T6.out).2.2.2) | go_keep)
          (first
            | (refine step_appT _ (by rfl) _ _ (by rfl) R7.out tb ⟨by rfl, by rfl⟩ (by omega) ?_; intro v8 w8' hR8 hG8; (have R8 := hid hR8); (have T8 : Hid (TakAt w8' wr.heap.size 2 te tn tb) := hid (row8_keep R7.out T7.out (by decide) hG8)); (have Y8 := hid (row8_belowT R7.out hG8)); clear hR8 hG8)
            | (refine step_app8 _ (by rfl) _ _ (by rfl) R6.out ⟨g6, 0, none⟩ 2 k6 (be2 tb.size) ⟨by rfl, by rfl⟩ I6.out (by omega) (by omega) ?_; intro v7 w7' hR7 hG7; (have R7 := hid hR7); (have T7 : Hid (TakAt w7' wr.heap.size 2 te tn tb) := hid (row8_keep R6.out T6.out (by decide) hG7)); (have Y7 := hid (row8_belowT R6.out hG7)); clear hR7 hG7)
            | (go_at_call 45; with_reducible refine (PC.out _).mono ?_; rintro _ w6' ⟨x6, rfl, hX6, hY6⟩; (have R6 := hid (R5d.out.later hY6)); (have T6 := hid (TakAt.later T5d.out hY6)); (obtain ⟨g6, k6, rfl, hg6, hB6⟩ := row8_isB hX6 (be2_byte tb.size) (by omega) (by omega)); (have I6 := hid hB6); (have Y6 := hid hY6); clear hX6 hY6 hB6 hg6))
        obtain ⟨a8, d8, rfl⟩ := R8.out.slice
        have W8 := hid (((W5.out.trans ((und Y6.out).mono R5.out.2.1)).trans Y7.out).trans Y8.out)
        go_wp2
        go_roundg (gk - 1)
        case measure => omega
        case rel => exact ⟨j + 1, n + 1 + 4 + 4 + 2 + tb.size, by omega, by omega, by omega, by go_num, hid (by rw [show j + 1 - 1 = j by omega, HK.out]; have := R8.out; simpa [tkB] using this), W8⟩
    · have hI : ¬ (j : Int) ≤ 3 := by omega
      have hId : decide ((j : Int) ≤ 3) = false := decide_eq_false hI
      have e3 : keP F (j - 1) = keB F := by rw [show j - 1 = 3 by omega]; exact keP_three F
      have e4 : n = (keB F).length := by rw [← e3]; exact HR.out.2.2.symm
      have FIN : Hid (Row8 wr w.heap.size (.slice a0 n d0) (keB F).length (keB F)) := hid (by have := HR.out; rw [e3] at this; rw [← e4]; exact this)
      clear e3 e4
      go_wp2
      go_ret
      exact ⟨_, rfl, FIN.out, HW.out⟩
end Go.Proofs.Ytjgpolaogneoaaa
