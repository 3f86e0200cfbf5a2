/-
  The document's Put of caches.
-/
import Derived.Test.YtilcbkejmpfnfaaCR5
import Derived.Deep.CutRange
namespace Go.Proofs.Ytilcbkejmpfnfaa
open Go.RowKit Go.ChangeShapes Go.WideShapes Go.ChangeAt Go.Maps Go.Shelf
set_option linter.unusedVariables false
set_option linter.unusedSimpArgs false
set_option maxRecDepth 100000
theorem Ou.trans2 {S S' : Nat → Prop} {w w1 w2 : World} (h : Ou S w w1) (h2 : Ou S' w1 w2) (hS : ∀ k, S' k → S k ∨ w.heap.size ≤ k) : Ou S w w2 :=
  ⟨h2.os.trans h.os, h2.tape.trans h.tape, h2.output.trans h.output, Nat.le_trans h.size h2.size, fun k hk hn => by
    rw [h2.block k (Nat.lt_of_lt_of_le hk h.size) (fun q => (hS k q).elim hn (by omega))]; exact h.block k hk hn⟩
theorem TurnR.trans {w w1 w2 : World} {g : Nat} {vl vh vl' vh' : Value} {r : Rc} (ho : Ou (Bk g vl vh) w w1) (hn : ∀ k, Bk g vl' vh' k → Bk g vl vh k ∨ w.heap.size ≤ k) (h : TurnR w1 w2 g vl' vh' r) : TurnR w w2 g vl vh r := by
  obtain ⟨a, b, h1, h2, h3⟩ := h
  refine ⟨a, b, h1, ho.trans2 h2 hn, fun k hk => ?_⟩
  rcases h3 k hk with q | q
  · exact hn k q
  · exact .inr (Nat.le_trans ho.size q)
theorem TurnR.after {w w1 w2 : World} {g : Nat} {vl vh : Value} {r : Rc} (hb : Below w.heap.size w w1) (h : TurnR w1 w2 g vl vh r) : TurnR w w2 g vl vh r := TurnR.trans (Ou.of hb) (fun k hk => .inl hk) h
theorem own_oneI {w : World} {g : Nat} {p : Int × Bool} (hb : w.heap[g]? = some (.cells #[.int .u32 p.1, .bool p.2] 78 (0, 0))) : OwI w 0 (.slice (some ⟨g, 0, none⟩) 1 1) [p] :=
  ⟨rfl, .inr ⟨g, 1, _, rfl, Nat.zero_le _, hb, Nat.le_refl _, by unfold maxLen; omega, rfl, rfl⟩⟩
theorem own_zeroI {w : World} {g base : Nat} (h : w.heap[g]? = some (.cells #[] 78 (0, 0))) (hb : base ≤ g) : OwI w base (.slice (some ⟨g, 0, none⟩) 0 0) [] :=
  ⟨by simp, .inr ⟨g, 0, #[], rfl, hb, h, Nat.le_refl _, Nat.zero_le _, by simp, by simp⟩⟩
/-- append of a whole row of items. -/
theorem wpList_appI (w : World) {ops : Array Oper} {rest : List Oper} {o : Oper} {a : Act} {Q : Exit → Act → World → Prop} (hgd : o.guard = none) (s x : Operand)
    (ho : o.op = .call { callee := .builtin .append, args := #[s, x], argTypes := #[72, 72] })
    (base : Nat) (v : Value) (L : List (Int × Bool)) (hs : a.eval s = v) (hown : OwI w base v L) (u : Value) (M : List (Int × Bool)) (hx : a.eval x = u) (hsrc : OwI w 0 u M) (hl : L.length ≤ 1000) (hl2 : M.length ≤ 1000) (hb : base ≤ w.heap.size)
    (h : ∀ v' w', OwI w' base v' (L ++ M) → w.grownBy w' v.ownBlock → wpList Try.prog ops Q rest (a.put o.dst v') w') : wpList Try.prog ops Q (o :: rest) a w := by
  obtain ⟨i0, hi0, hz0, hz1, hz2⟩ := info_item
  rcases hsrc.2 with ⟨rfl, h0⟩ | ⟨g, cap, cur, rfl, _, hg, hn, hm, hsz2, htk⟩
  · have hM : M = [] := List.eq_nil_of_length_eq_zero h0
    subst hM
    refine wpList_append_own_none hgd s x 72 ho base 78 i0 2 Try.underlying72 hi0 v _ _ hs hown hx ?_
    exact h v w (by simpa using hown) (World.grownBy.refl w _)
  · refine wpList_append_own w hgd s x 72 ho base 78 i0 (.agg #[.int .u32 0, .bool false]) 2 8 Try.underlying72 hi0 hz0 hz1 hz2 (by rfl) (by decide) v L.length _ hs hown ⟨g, 0, none⟩ M.length cap (M.flatMap itC) hx (twoC_len (fun _ => rfl) M) (fun j y hj => hsrc.cells (g := g) rfl j y hj) (fun y hy => ?_) (by unfold maxLen; omega) (by omega) hb ?_
    · obtain ⟨p, _, hp⟩ := List.mem_flatMap.1 hy
      exact itC_one p y hp
    · intro v' w' q1 q2 _
      exact h v' w' (by unfold OwI; rw [List.flatMap_append, List.length_append]; exact q1) q2
theorem Rc.nx_in {r : Rc} (hb : 0 ≤ r.bst r.L.length) : r.ix r.nx < r.L.length := by
  rcases r.bst_inv r.L.length with ⟨e, _⟩ | ⟨b, e, hlt, _⟩
  · rw [e] at hb; omega
  · unfold Rc.nx
    rw [e, if_neg (by omega)]
    simp only [Int.toNat_natCast]
    unfold Rc.ix
    rw [List.findIdx_lt_length]
    exact ⟨r.L[b], List.getElem_mem hlt, by rw [Rc.fid_eq hlt]; simp⟩
set_option maxHeartbeats 1000000 in
theorem rcput_zero {w : World} {g : Nat} {vl vh : Value} {r : Rc} (h : IsRc w g vl vh r) :
    Calls Try.prog 45 #[pA g, .int .u32 0] w fun e w' => e = .returned (.tuple #[.int .u32 0, .int .i64 2]) ∧ w' = w := by
  clear h
  go_enter Try.func45, Try.ntmps45
  go_wp2
  exact bodyPost_ret (v := .tuple #[.int .u32 0, .int .i64 2]) (by simp [results, Try.results45, go_sem]) rfl ⟨rfl, rfl⟩
set_option maxHeartbeats 1000000 in
theorem rcput_has {w : World} {g : Nat} {vl vh : Value} {r : Rc} (h : IsRc w g vl vh r) (hm : r.L.length ≤ 900) {f : Int} (q0 : f ≠ 0) (ha : 0 ≤ r.at f) :
    Calls Try.prog 45 #[pA g, .int .u32 f] w fun e w' => e = .returned (.tuple #[.int .u32 0, .int .i64 0]) ∧ TurnR w w' g vl vh (r.touchS f) := by
  have TC := hid (rctouch_c h hm f)
  rw [decide_eq_true ha] at TC
  have q1 : (f == 0) = false := by simp [q0]
  clear h ha
  go_enter Try.func45, Try.ntmps45
  go_wp2_with (go_at_call 47; refine TC.out.mono ?_; rintro _ w1 ⟨rfl, h1⟩; (have H1 := hid h1); clear h1)
  exact bodyPost_ret (v := .tuple #[.int .u32 0, .int .i64 0]) (by simp [results, Try.results45, go_sem]) rfl ⟨rfl, H1.out⟩
set_option maxHeartbeats 2000000 in
theorem rcput_no {w : World} {g : Nat} {vl vh : Value} {r : Rc} (h : IsRc w g vl vh r) (hm : r.L.length ≤ 900) (hm2 : r.H.length ≤ 900) {f : Int} (q0 : f ≠ 0) (ha : r.at f = -1) (hmo : r.most ≤ (r.L.length : Int)) (hbs : r.bst r.L.length < 0) :
    Calls Try.prog 45 #[pA g, .int .u32 f] w fun e w' => e = .returned (.tuple #[.int .u32 0, .int .i64 4]) ∧ TurnR w w' g vl vh r := by
  have TC := hid (rctouch_no h hm ha)
  have NC : Hid (∀ W, Below w.heap.size w W → Calls Try.prog 26 #[pA g] W fun e w' => e = .returned (.tuple #[.int .u32 r.nx, .bool false]) ∧ Below W.heap.size W w') := hid (fun W hb => by
    have := rcnext_c (h.later hb) (by omega) (by omega)
    rw [decide_eq_false (by omega)] at this
    exact this)
  have H := hid h
  have q1 : (f == 0) = false := by simp [q0]
  obtain ⟨c0, c1, c2, cf, cl⟩ := h.cells
  obtain ⟨a, cap, e, hcap⟩ := own_shapeC h.2.1
  subst e
  have hge : decide (r.most ≤ (r.L.length : Int)) = true := decide_eq_true hmo
  have hge2 : decide ((r.L.length : Int) ≥ r.most) = true := decide_eq_true hmo
  have hD : Below w.heap.size w w.drew := (Below.refl _ w).drew
  clear h ha cf hbs
  generalize r.nx = nx at *
  generalize hmst : r.most = mo at *
  generalize hnn : r.L.length = n at *
  go_enter Try.func45, Try.ntmps45
  go_wp2_with (go_at_call 47; refine TC.out.mono ?_; rintro _ w1 ⟨rfl, h1⟩; rw [h1]; clear h1)
  go_region
  go_wp2_with (go_at_call 26; refine (NC.out _ hD).mono ?_; rintro _ w1 ⟨rfl, h1⟩; (have B1 := hid (hD.trans h1)); clear h1)
  exact bodyPost_ret (v := .tuple #[.int .u32 0, .int .i64 4]) (by simp [results, Try.results45, go_sem]) rfl ⟨rfl, TurnR.of H.out B1.out⟩
set_option maxHeartbeats 4000000 in
theorem rcput_room {w : World} {g : Nat} {vl vh : Value} {r : Rc} (h : IsRc w g vl vh r) (hm : r.L.length ≤ 900) {f : Int} (q0 : f ≠ 0) (ha : r.at f = -1) (hmo : (r.L.length : Int) < r.most) :
    Calls Try.prog 45 #[pA g, .int .u32 f] w fun e w' => e = .returned (.tuple #[.int .u32 0, .int .i64 0]) ∧ TurnR w w' g vl vh ⟨r.most, r.L ++ [(f, false)], r.H⟩ := by
  have TC := hid (rctouch_no h hm ha)
  have H := hid h
  have q1 : (f == 0) = false := by simp [q0]
  obtain ⟨c0, c1, c2, cf, cl⟩ := h.cells
  obtain ⟨a, cap, e, hcap⟩ := own_shapeC h.2.1
  subst e
  have hge0 : ¬ r.most ≤ (r.L.length : Int) := by omega
  have hge : decide (r.most ≤ (r.L.length : Int)) = false := decide_eq_false hge0
  have hge2 : decide ((r.L.length : Int) ≥ r.most) = false := decide_eq_false hge0
  have hD : Below w.heap.size w w.drew := (Below.refl _ w).drew
  have HW : Hid (IsRc w.drew g (.slice a r.L.length cap) vh r) := hid (h.later hD)
  have HD := hid hD
  have hLE : r.L.length ≤ 1000 := by omega
  have FIN : Hid (∀ w6 v6, Below w.heap.size w.drew w6 → OwI w6 w.heap.size v6 (r.L ++ [(f, false)]) → TurnR w (w6.setCell ⟨g, 1, none⟩ v6) g (.slice a r.L.length cap) vh ⟨r.most, r.L ++ [(f, false)], r.H⟩) := hid (fun w6 v6 hb hv => TurnR.rowL h (hD.trans hb) hv)
  have BZ := hid ((Below.refl w.drew.heap.size w.drew).alloc (Nat.le_refl _) (.cells #[] 78))
  have E0 : Hid (OwI (w.drew.alloc (.cells #[] 78)) w.drew.heap.size (.slice (some ⟨w.drew.heap.size, 0, none⟩) 0 0) []) := hid (own_zeroI (heap_alloc_new w.drew _) (Nat.le_refl _))
  have S0 := hid (own_latC HW.out.2.1 BZ.out)
  have T4 := hid hLE
  clear h ha cf hD
  generalize hL : r.L = LL at *
  generalize hmst : r.most = mo at *
  go_enter Try.func45, Try.ntmps45
  go_wp2_with (go_at_call 47; refine TC.out.mono ?_; rintro _ w1 ⟨rfl, h1⟩; rw [h1]; clear h1)
  go_region
  go_wp2_with (first
    | (have _q := T5.out; clear _q T5; at_builtin; refine wpList_appI _ rfl _ _ rfl w.drew.heap.size _ LL rfl (own_latC O5.out ((Below.refl _ _).alloc (Nat.le_refl _) _)) _ [(f, false)] rfl (own_oneI (heap_alloc_new w5 _)) hLE (by simp) (Nat.le_trans B5.out.size (alloc_le _ _)) ?_; intro v6 w6 ho6 hg6; (have O6 := hid ho6); (have B6 := hid (below_grownC (B5.out.alloc B5.out.size _) (own_latC O5.out ((Below.refl _ _).alloc (Nat.le_refl _) _)) (Nat.le_refl _) (Nat.le_trans B5.out.size (alloc_le _ _)) hg6)); (obtain ⟨a6, n6, p6, rfl⟩ := own_anyC ho6); (obtain ⟨d0, d1, d2, df, dl⟩ := (HW.out.later B6.out).cells); (have g2 := df 1); clear ho6 hg6 df)
    | (have _q := T4.out; clear _q T4; at_builtin; refine wpList_appI _ rfl _ _ rfl w.drew.heap.size _ [] rfl E0.out _ LL rfl S0.out (by simp) hLE (alloc_le _ _) ?_; intro v5 w5 ho5 hg5; (have O5 : Hid (OwI w5 w.drew.heap.size v5 LL) := hid ho5); (have B5 := hid (below_grownC BZ.out E0.out (Nat.le_refl _) (alloc_le _ _) hg5)); (have T5 := hid ho5); (obtain ⟨a5, n5, p5, rfl⟩ := own_anyC ho5); clear ho5 hg5)
    | fail)
  exact bodyPost_ret (v := .tuple #[.int .u32 0, .int .i64 0]) (by simp [results, Try.results45, go_sem]) rfl ⟨rfl, FIN.out _ _ B6.out O6.out⟩
set_option maxHeartbeats 4000000 in
theorem rcput_goes {w : World} {g : Nat} {vl vh : Value} {r : Rc} (h : IsRc w g vl vh r) (hm : r.L.length ≤ 900) (hm2 : r.H.length ≤ 900) {f : Int} (q0 : f ≠ 0) (ha : r.at f = -1) (hmo : r.most ≤ (r.L.length : Int)) (hbs : 0 ≤ r.bst r.L.length) :
    Calls Try.prog 45 #[pA g, .int .u32 f] w fun e w' => e = .returned (.tuple #[.int .u32 r.nx, .int .i64 0]) ∧ TurnR w w' g vl vh ⟨r.most, r.L.eraseIdx (r.ix r.nx) ++ [(f, false)], r.H⟩ := by
  have TC := hid (rctouch_no h hm ha)
  have hin := Rc.nx_in hbs
  have NC : Hid (∀ W, Below w.heap.size w W → Calls Try.prog 26 #[pA g] W fun e w' => e = .returned (.tuple #[.int .u32 r.nx, .bool true]) ∧ Below W.heap.size W w') := hid (fun W hb => by
    have := rcnext_c (h.later hb) (by omega) (by omega)
    rw [decide_eq_true hbs] at this
    exact this)
  have AC : Hid (∀ W, Below w.heap.size w W → Calls Try.prog 52 #[pA g, .int .u32 r.nx] W fun e w' => e = .returned (.int .i64 ((r.ix r.nx : Nat) : Int)) ∧ w' = W) := hid (fun W hb => by
    have := rcat_c (h.later hb) (by omega) r.nx
    rw [show r.at r.nx = ((r.ix r.nx : Nat) : Int) from by unfold Rc.at; rw [if_pos hin]] at this
    exact this)
  have WC : Hid (∀ W, Below w.heap.size w W → Calls Try.prog 62 #[pA g, .int .i64 ((r.ix r.nx : Nat) : Int)] W fun e w' => ∃ v, e = .returned v ∧ OwI w' w.heap.size v (r.L.eraseIdx (r.ix r.nx)) ∧ Below W.heap.size W w') := hid (fun W hb => (rcwithout_c (h.later hb) (by omega) hin).mono fun e w' ⟨v, e1, o1, b1⟩ => ⟨v, e1, own_baseC o1 hb.size, b1⟩)
  have H := hid h
  have q1 : (f == 0) = false := by simp [q0]
  obtain ⟨c0, c1, c2, cf, cl⟩ := h.cells
  obtain ⟨a, cap, e, hcap⟩ := own_shapeC h.2.1
  subst e
  have hge : decide (r.most ≤ (r.L.length : Int)) = true := decide_eq_true hmo
  have hge2 : decide ((r.L.length : Int) ≥ r.most) = true := decide_eq_true hmo
  have hD : Below w.heap.size w w.drew := (Below.refl _ w).drew
  have hLE : (r.L.eraseIdx (r.ix r.nx)).length ≤ 1000 := by have := List.length_eraseIdx_le r.L (r.ix r.nx); omega
  clear ha cf hbs hin
  generalize hL1 : r.L.eraseIdx (r.ix r.nx) = LL at *
  generalize r.ix r.nx = ii at *
  generalize r.nx = nx at *
  have TR : Hid (∀ w2 v2, Below w.heap.size w w2 → OwI w2 w.heap.size v2 LL → IsRc (w2.setCell ⟨g, 1, none⟩ v2) g v2 vh ⟨r.most, LL, r.H⟩ ∧ (∀ wz, TurnR (w2.setCell ⟨g, 1, none⟩ v2) wz g v2 vh ⟨r.most, LL ++ [(f, false)], r.H⟩ → TurnR w wz g (.slice a r.L.length cap) vh ⟨r.most, LL ++ [(f, false)], r.H⟩)) := hid (fun w2 v2 hb hv => by
    have h1 := h.later hb
    have ho : Ou (fun k => k = g) w2 (w2.setCell ⟨g, 1, none⟩ v2) := (Ou.refl _ _).set rfl
    refine ⟨⟨row_set 1 _ h1.1, own_baseC (own_outC hv ho (fun k hk e => by have := (hv.lt k hk).1; omega)) (Nat.zero_le _), own_outC h1.2.2 ho (fun k hk e => h1.notg.2 k hk e)⟩, fun wz hz => ?_⟩
    refine TurnR.trans ((Ou.of hb).trans (ho.mono fun k e => .inl e)) (fun k hk => ?_) hz
    rcases hk with e | e | e
    · exact .inl (.inl e)
    · exact .inr (hv.lt k e).1
    · exact .inl (.inr (.inr e)))
  clear h
  generalize hmst : r.most = mo at *
  generalize hnn : r.L.length = n at *
  go_enter Try.func45, Try.ntmps45
  go_wp2_with (go_at_call 47; refine TC.out.mono ?_; rintro _ w1 ⟨rfl, h1⟩; rw [h1]; clear h1)
  go_region
  go_upto_region 14 with (first
    | (go_at_call 62; refine (WC.out _ B1.out).mono ?_; rintro _ w2 ⟨v2, rfl, ho2, hb2⟩; (have O2 := hid ho2); (have B2 := hid (B1.out.trans (hb2.mono B1.out.size))); (obtain ⟨e0, e1, e2, ef, el⟩ := (H.out.later B2.out).cells); (have f2 := ef 1); (obtain ⟨a2, n2, p2, rfl⟩ := own_anyC ho2); clear ho2 hb2 ef)
    | (go_at_call 52; refine (AC.out _ B1.out).mono ?_; rintro _ w9 ⟨rfl, h1⟩; rw [h1]; clear h1)
    | (go_at_call 26; refine (NC.out _ hD).mono ?_; rintro _ w1 ⟨rfl, h1⟩; (have B1 := hid (hD.trans h1)); clear h1)
    | fail)
  obtain ⟨hw3, htr⟩ := TR.out _ _ B2.out O2.out
  have TZ := hid htr
  have HW := hid hw3
  obtain ⟨m0, m1, m2, mf, ml⟩ := hw3.cells
  clear htr hw3 mf
  generalize w2.setCell ⟨g, 1, none⟩ (.slice a2 n2 p2) = w3 at *
  have BZ := hid ((Below.refl w3.heap.size w3).alloc (Nat.le_refl _) (.cells #[] 78))
  have E0 : Hid (OwI (w3.alloc (.cells #[] 78)) w3.heap.size (.slice (some ⟨w3.heap.size, 0, none⟩) 0 0) []) := hid (own_zeroI (heap_alloc_new w3 _) (Nat.le_refl _))
  have S0 := hid (own_latC HW.out.2.1 BZ.out)
  have T4 := hid hLE
  have FIN : Hid (∀ w6 v6, Below w3.heap.size w3 w6 → OwI w6 w3.heap.size v6 (LL ++ [(f, false)]) → TurnR w (w6.setCell ⟨g, 1, none⟩ v6) g (.slice a n cap) vh ⟨mo, LL ++ [(f, false)], r.H⟩) := hid (fun w6 v6 hb hv => TZ.out _ (TurnR.rowL HW.out hb hv))
  go_wp2_with (first
    | (have _q := T5.out; clear _q T5; at_builtin; refine wpList_appI _ rfl _ _ rfl w3.heap.size _ LL rfl (own_latC O5.out ((Below.refl _ _).alloc (Nat.le_refl _) _)) _ [(f, false)] rfl (own_oneI (heap_alloc_new w5 _)) hLE (by simp) (Nat.le_trans B5.out.size (alloc_le _ _)) ?_; intro v6 w6 ho6 hg6; (have O6 := hid ho6); (have B6 := hid (below_grownC (B5.out.alloc B5.out.size _) (own_latC O5.out ((Below.refl _ _).alloc (Nat.le_refl _) _)) (Nat.le_refl _) (Nat.le_trans B5.out.size (alloc_le _ _)) hg6)); (obtain ⟨a6, n6, p6, rfl⟩ := own_anyC ho6); (obtain ⟨d0, d1, d2, df, dl⟩ := (HW.out.later B6.out).cells); (have g2 := df 1); clear ho6 hg6 df)
    | (have _q := T4.out; clear _q T4; at_builtin; refine wpList_appI _ rfl _ _ rfl w3.heap.size _ [] rfl E0.out _ LL rfl S0.out (by simp) hLE (alloc_le _ _) ?_; intro v5 w5 ho5 hg5; (have O5 : Hid (OwI w5 w3.heap.size v5 LL) := hid ho5); (have B5 := hid (below_grownC BZ.out E0.out (Nat.le_refl _) (alloc_le _ _) hg5)); (have T5 := hid ho5); (obtain ⟨a5, n5, p5, rfl⟩ := own_anyC ho5); clear ho5 hg5)
    | fail)
  exact bodyPost_ret (v := .tuple #[.int .u32 nx, .int .i64 0]) (by simp [results, Try.results45, go_sem]) rfl ⟨rfl, FIN.out _ _ B6.out O6.out⟩
end Go.Proofs.Ytilcbkejmpfnfaa
