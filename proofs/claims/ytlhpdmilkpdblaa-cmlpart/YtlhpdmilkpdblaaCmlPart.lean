/-
  For every records (the first forty are looked at): what Optimise leaves stands in the log, in order.
-/
import Derived.Test.YtlhpdmilkpdblaaCLive
namespace Go.Proofs.Ytlhpdmilkpdblaa
open Go.RowKit Go.ChangeShapes Go.WideShapes Go.ChangeAt Go.Maps Go.Shelf
open Go.ChangeMaps (open_string shut_string)
set_option linter.unusedVariables false
set_option linter.unusedSimpArgs false
theorem keepF_sub (p : Nat → Bool) (l : List Rec) : ∀ m, m ≤ l.length → (keepF p l m).Sublist (l.take m)
  | 0, _ => by simp [keepF]
  | m + 1, h => by
    have ih := keepF_sub p l m (by omega)
    have e : l.take (m + 1) = l.take m ++ [l.getD m Rec.no] := by
      rw [List.take_add_one, List.getD, List.getElem?_eq_getElem (by omega)]; rfl
    rw [e]
    unfold keepF
    split
    · exact ih.trans (List.sublist_append_left _ _)
    · exact ih.append (List.Sublist.refl _)
theorem opt_sub (l : List Rec) : (optF l).Sublist l := by
  have h1 := keepF_sub (pairedG (neededF l)) (neededF l) _ (Nat.le_refl _)
  have h2 := keepF_sub (needF l) l _ (Nat.le_refl _)
  rw [List.take_length] at h1 h2
  exact h1.trans h2
theorem sub_step {A l : List Rec} {k i : Nat} (hk : k < A.length) (hi : i < l.length) (h : (A.drop k).Sublist (l.drop i)) :
    (l.getD i Rec.no = A.getD k Rec.no → (A.drop (k + 1)).Sublist (l.drop (i + 1))) ∧ (l.getD i Rec.no ≠ A.getD k Rec.no → (A.drop k).Sublist (l.drop (i + 1))) := by
  have e1 : l.getD i Rec.no = l[i] := by simp [List.getD, hi]
  have e2 : A.getD k Rec.no = A[k] := by simp [List.getD, hk]
  rw [List.drop_eq_getElem_cons hk, List.drop_eq_getElem_cons hi] at h
  rw [e1, e2]
  refine ⟨fun _ => ?_, fun q => ?_⟩
  · generalize A[k] = y at *
    generalize l[i] = x at *
    cases h with
    | cons _ h => exact (List.sublist_cons_self _ _).trans h
    | cons_cons _ h => exact h
  · rw [List.drop_eq_getElem_cons hk]
    generalize A[k] = y at *
    generalize l[i] = x at *
    cases h with
    | cons _ h => exact h
    | cons_cons _ h => exact absurd rfl q
set_option maxHeartbeats 1000000 in
theorem few8_c (a : Option Addr) (len cap : Nat) (l : List Rec) (w : World) (hl : l.length = len) (hc : len ≤ cap) (h : IsL w a l) :
    Calls Try.prog 5 #[.slice a len cap] w fun e w' => e = .returned (.slice a (l.take 40).length cap) ∧ w' = w := by
  have hm := h.1
  unfold maxLen at hm
  rw [hl] at hm
  rw [List.length_take, hl]
  by_cases q : 40 < len
  · obtain ⟨b, off, rfl, _⟩ := h.2.2 (by omega)
    rw [show min 40 len = 40 by omega]
    have qI : (40 : Int) < len := by omega
    have cI : (40 : Int) ≤ cap := by omega
    have cN : 40 ≤ cap := by omega
    clear h
    go_enter Try.func5, Try.ntmps5
    go_wp2
    go_ret
    exact ⟨by rfl, rfl⟩
  · rw [show min 40 len = len by omega]
    have qI : ¬ (40 : Int) < len := by omega
    clear h
    go_enter Try.func5, Try.ntmps5
    go_wp2
    go_ret
    exact ⟨rfl, rfl⟩
set_option maxRecDepth 20000 in
set_option maxHeartbeats 4000000 in
theorem cmlPart_walk (a : Option Addr) (len cap : Nat) (l0 : List Rec) (hl : l0.length = len) (hc : len ≤ cap) (w : World) (h : IsL w a l0) :
    Calls Try.prog 3 #[.slice a len cap] w fun e w' => e = .returned (.bool true) ∧ Below w.heap.size w w' := by
  have FC := hid (few8_c a len cap l0 w hl hc h)
  have hI := h.front 40
  have hn : (l0.take 40).length ≤ 40 := by rw [List.length_take]; omega
  clear h hl
  generalize l0.take 40 = l at *
  have OC := hid (optimise_c a cap l w hI (by omega))
  have HI := hid hI
  have HS := hid (opt_sub l)
  have HAW := hid (opt_wf hI.2.1)
  have hA := Nat.le_trans (opt_len l) hn
  have hg := rec_guard
  clear hI hc
  generalize optF l = A at *
  go_enter Try.func3, Try.ntmps3
  go_wp2_with (first
    | (go_at_call 5; refine FC.out.mono ?_; rintro _ _ ⟨rfl, rfl⟩)
    | (go_at_call 6; refine OC.out.mono ?_; rintro _ w1 ⟨v1, rfl, hO1, hb1⟩; obtain ⟨a1, c1, rfl, hI1, _, _⟩ := isL_own hO1 HAW.out; have HI1 := hid hI1; have HB1 := hid hb1; clear hO1 hI1 hb1))
  clear FC OC
  obtain ⟨n, hnn⟩ : ∃ n, n = l.length := ⟨_, rfl⟩
  obtain ⟨La, hLa⟩ : ∃ La, La = A.length := ⟨_, rfl⟩
  rw [← hnn] at hn ⊢
  rw [← hLa] at hA ⊢
  have HNN := hid hnn
  have HLA := hid hLa
  clear hnn hLa
  go_loopg [4, 5] n (fun g v4 v5 wr => ∃ k i : Nat, i + g = n ∧ k ≤ La ∧ v4 = .int .i64 k ∧ v5 = .int .i64 i ∧ Hid ((A.drop k).Sublist (l.drop i)) ∧ Hid (Below w1.heap.size w1 wr))
  case atStart => exact ⟨0, 0, by omega, by omega, rfl, rfl, hid (by simpa using HS.out), hid (Below.refl _ _)⟩
  case round =>
    obtain ⟨k, i, hi2, hk2, rfl, rfl, HD, HB⟩ := hrel
    by_cases hgo : i < n ∧ k < La
    · obtain ⟨hi, hk⟩ := hgo
      have hiI : (i : Int) < n := by omega
      have hkI : (k : Int) < La := by omega
      have hl1 := HI.out.later (HB1.out.trans (HB.out.mono HB1.out.size))
      have hk1 := HI1.out.later HB.out
      obtain ⟨b1, o1, rfl, _⟩ := hl1.2.2 (by rw [← HNN.out]; omega)
      obtain ⟨b2, o2, rfl, _⟩ := hk1.2.2 (by rw [← HLA.out]; omega)
      have hx := hl1.at (i := i) (by rw [← HNN.out]; omega)
      have hy := hk1.at (i := k) (by rw [← HLA.out]; omega)
      have HQ := hid (fun W => rec_equal W (hl1.wf (i := i) (by rw [← HNN.out]; omega)) (hk1.wf (i := k) (by rw [← HLA.out]; omega)))
      have HT := hid (sub_step (by rw [← HLA.out]; exact hk) (by rw [← HNN.out]; exact hi) HD.out)
      clear hl1 hk1 HD
      generalize l.getD i Rec.no = x at *
      generalize A.getD k Rec.no = y at *
      have x0 : wr.cell? ⟨b1, o1 + i * 9, none⟩ = some (.int .u8 x.k) := hx 0 _ rfl
      have x1 : wr.cell? ⟨b1, o1 + i * 9 + 1, none⟩ = some (.int .u32 x.fid) := hx 1 _ rfl
      have x2 : wr.cell? ⟨b1, o1 + i * 9 + 2, none⟩ = some (.int .u32 x.dir) := hx 2 _ rfl
      have x3 : wr.cell? ⟨b1, o1 + i * 9 + 3, none⟩ = some (.string x.nm) := hx 3 _ rfl
      have x4 : wr.cell? ⟨b1, o1 + i * 9 + 4, none⟩ = some (.int .u32 x.to) := hx 4 _ rfl
      have x5 : wr.cell? ⟨b1, o1 + i * 9 + 5, none⟩ = some (.string x.nm2) := hx 5 _ rfl
      have x6 : wr.cell? ⟨b1, o1 + i * 9 + 6, none⟩ = some (.int .u16 x.md) := hx 6 _ rfl
      have x7 : wr.cell? ⟨b1, o1 + i * 9 + 7, none⟩ = some (.string x.dt) := hx 7 _ rfl
      have x8 : wr.cell? ⟨b1, o1 + i * 9 + 8, none⟩ = some (.int .u64 x.sn) := hx 8 _ rfl
      have y0 : wr.cell? ⟨b2, o2 + k * 9, none⟩ = some (.int .u8 y.k) := hy 0 _ rfl
      have y1 : wr.cell? ⟨b2, o2 + k * 9 + 1, none⟩ = some (.int .u32 y.fid) := hy 1 _ rfl
      have y2 : wr.cell? ⟨b2, o2 + k * 9 + 2, none⟩ = some (.int .u32 y.dir) := hy 2 _ rfl
      have y3 : wr.cell? ⟨b2, o2 + k * 9 + 3, none⟩ = some (.string y.nm) := hy 3 _ rfl
      have y4 : wr.cell? ⟨b2, o2 + k * 9 + 4, none⟩ = some (.int .u32 y.to) := hy 4 _ rfl
      have y5 : wr.cell? ⟨b2, o2 + k * 9 + 5, none⟩ = some (.string y.nm2) := hy 5 _ rfl
      have y6 : wr.cell? ⟨b2, o2 + k * 9 + 6, none⟩ = some (.int .u16 y.md) := hy 6 _ rfl
      have y7 : wr.cell? ⟨b2, o2 + k * 9 + 7, none⟩ = some (.string y.dt) := hy 7 _ rfl
      have y8 : wr.cell? ⟨b2, o2 + k * 9 + 8, none⟩ = some (.int .u64 y.sn) := hy 8 _ rfl
      clear hx hy
      by_cases q : x = y
      · have hq := HQ.out
        have HD2 := hid (HT.out.1 q)
        simp only [eqR_t q] at hq
        subst q
        unfold Rec.val at hq
        clear HQ HT
        go_wp2
        go_region
        go_wp2
        go_roundg (gk - 1)
        case measure => omega
        case rel => exact ⟨k + 1, i + 1, by omega, by omega, by go_num, by go_num, HD2, hid (Below.drew HB.out)⟩
      · have hq := HQ.out
        have HD2 := hid (HT.out.2 q)
        simp only [eqR_f q] at hq
        unfold Rec.val at hq
        clear HQ HT q
        go_wp2
        go_region
        go_wp2
        go_roundg (gk - 1)
        case measure => omega
        case rel => exact ⟨k, i + 1, by omega, by omega, rfl, by go_num, HD2, hid (Below.drew HB.out)⟩
    · have ek : k = La := by
        by_cases hk : k < La
        · exfalso
          have hin : i = n := by omega
          have := HD.out
          rw [hin, HNN.out, List.drop_length] at this
          have h2 := this.length_le
          rw [List.length_drop, ← HLA.out] at h2
          simp at h2
          omega
        · omega
      subst ek
      have hkk : ¬ (k : Int) < k := by omega
      have LC := hid (clive_c wr)
      have HB2 := hid (HB1.out.trans (HB.out.mono HB1.out.size))
      clear HD hgo
      by_cases hi : i < n
      · have hiI : (i : Int) < n := by omega
        go_wp2_with (go_at_call 7; refine LC.out.mono ?_; rintro _ w3 ⟨rfl, hb3⟩)
        go_ret
        exact ⟨by first | rfl | simp, HB2.out.trans (hb3.mono HB2.out.size)⟩
      · have hiI : ¬ (i : Int) < n := by omega
        go_wp2_with (go_at_call 7; refine LC.out.mono ?_; rintro _ w3 ⟨rfl, hb3⟩)
        go_ret
        exact ⟨by first | rfl | simp, HB2.out.trans (hb3.mono HB2.out.size)⟩
/-! ### The row of CmlPart -/
theorem cmlPart_own : ownKnob Try.prog.godebug = none := by kernel_rfl
theorem cmlPart_laidOut : laidOutB Try.prog = true := by kernel_rfl
set_option maxRecDepth 100000 in
theorem cmlPart_lifted (os : Os) (started : os.Started) (H : Type) (enc : TypeId × Value → H) :
    ReturnsInHanded {} Try.checked os 3 .any (Rows.cmlPartSpec.pre6 enc Try.prog Try.f3 Rows.cmlPartRow.domain false) (Rows.cmlPartSpec.post enc Try.prog Try.f3 false true false false) := by
  refine returnsInHanded_of_change (C := Try.checked) cmlPart_own started (by kernel_rfl) Try.func3
    (ChangeSpec.witness6 (enc := enc) (C := Try.checked) false ⟨#[], #[.slice none 0 0], []⟩ 8 (by kernel_rfl) (by kernel_rfl) (by kernel_rfl) (by kernel_rfl)) ?_
  intro W base args ds gs before hval0 hW hcnd _
  have hval : ∀ (j : Nat) t v, Try.f3.params[j]? = some t → args[j]? = some v → Value.okWide Try.prog W .any base t v := hval0
  have hW' := hW
  obtain ⟨p, q, hA0, hV, rfl, hfz, hnd⟩ := hW
  have hA : DataW.TrodAll enc Try.prog W 0 (fun _ => true) true Try.f3.params.toList args.toList ds p := hA0
  rw [Try.params3] at hA hval
  obtain ⟨v0, vs0, d0, ds0, p0, q0, hargs, rfl, rfl, h0, r0⟩ := trodAll_cons hA
  obtain ⟨rfl, rfl, rfl⟩ := trodAll_nil r0
  obtain rfl : args = #[v0] := by cases args; simp_all
  obtain ⟨rfl, rfl⟩ := trodVars_none hV
  have k0 := h0
  have lt0 : ∀ x ∈ p0, x.block < W.heap.size := by obtain ⟨m, hm⟩ := k0; exact DataW.trod_lt m _ _ _ hm
  obtain ⟨a0, len0, cap0, rfl⟩ := okWide_slice Try.underlying22 (hval 0 22 v0 rfl rfl)
  obtain ⟨z0, lz0, w0, lc0⟩ := isL_of Try.underlying22 h0
  clear hA0 hval0
  refine (cmlPart_walk a0 len0 cap0 z0 lz0 lc0 W w0).mono fun e W' ⟨he, bel⟩ => ?_
  subst he
  exact ⟨_, rfl, _, _, _, [], _, [], hW', trodAll_mk1 (shut_bool Try.underlying4 _), (trodAll_cons_mk (Below.trod cmlPart_laidOut (by kernel_rfl) (of_decide_eq_true (by kernel_rfl)) k0 bel lt0) trodAll_mk0), rfl, bel.frame _, fun h => by cases h⟩
theorem cmlPart_over : Rows.cmlPartRow.holds Try.pinned (OpenSpec.ofChange Rows.cmlPartSpec) :=
  OpenClaim.holds_of_wide 3 Try.f3 rfl rfl rfl rfl rfl rfl rfl ⟨rfl, rfl, rfl, rfl, rfl⟩ rfl rfl rfl rfl rfl (by kernel_rfl) Try.func3 (by kernel_rfl)
    (of_decide_eq_true (by kernel_rfl)) (by unfold Func.isWrapper; first | (rw [if_pos (by decide +kernel)]; kernel_rfl) | (rw [if_neg (by decide +kernel)]; exact ⟨rfl, rfl⟩))
    (fun os started H enc _ => cmlPart_lifted os started H enc)
/-- The statement. -/
theorem cmlPart_holds : Rows.CmlPartSaid := cmlPart_over
#print axioms cmlPart_holds

end Go.Proofs.Ytlhpdmilkpdblaa
