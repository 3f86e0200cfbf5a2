/-
  For every texts (the first eight are looked at, those of at most 500 bytes), All of the bytes of answers with these bodies, one behind the other, are as many packets, and all of the bytes.
-/
import Derived.Test.YteimegacnmakaacFSeq
import Derived.SliceStrings
namespace Go.Proofs.Yteimegacnmakaac
open Go.ChangeShapes Go.WideShapes Go.ChangeAt Go.RowKit
open Go.ChangeMaps (open_string shut_string)
set_option linter.unusedVariables false
set_option linter.unusedSimpArgs false
/-- Packets' bytes, one behind the other. -/
def encAll (ps : List Fr.Pk) : List Int := ps.flatMap Fr.enc
theorem encAll_len (ps : List Fr.Pk) : (encAll ps).length = encLen ps := by
  induction ps with
  | nil => rfl
  | cons p ps ih => unfold encAll encLen at *; simp [Fr.enc_length, ih]
theorem encAll_snoc (ps : List Fr.Pk) (p : Fr.Pk) : encAll (ps ++ [p]) = encAll ps ++ Fr.enc p := by unfold encAll; simp
theorem cuts_eq {zs r : List Int} {ps : List Fr.Pk} (h : Cuts zs ps r) : zs = encAll ps ++ r ∧ ∀ p ∈ ps, Fr.Wf p ∧ Fr.rightB p = true := by
  refine h (fun ps r => zs = encAll ps ++ r ∧ ∀ p ∈ ps, Fr.Wf p ∧ Fr.rightB p = true) ⟨rfl, fun p hp => by cases hp⟩ (fun ps p r ih hp => ?_)
  obtain ⟨h1, h2, q, e⟩ := hp
  obtain ⟨i1, i2⟩ := ih
  refine ⟨?_, fun x hx => ?_⟩
  · rw [encAll_snoc, i1, e, ← Fr.enc_length, List.drop_left, List.append_assoc]
  · rcases List.mem_append.1 hx with h9 | h9
    · exact i2 x h9
    · rw [List.mem_singleton.1 h9]; exact ⟨h1, h2⟩
theorem rows_one (ps qs : List Fr.Pk) (r t : List Int) (hp : ∀ p ∈ ps, Fr.Wf p ∧ Fr.rightB p = true) (hq : ∀ p ∈ qs, Fr.Wf p ∧ Fr.rightB p = true) (hr : ∀ p, ¬ Fr.Begins p r) (ht : ∀ p, ¬ Fr.Begins p t)
    (e : encAll ps ++ r = encAll qs ++ t) : ps = qs ∧ r = t := by
  induction ps generalizing qs with
  | nil =>
    cases qs with
    | nil => exact ⟨rfl, by simpa [encAll] using e⟩
    | cons q qs =>
      exfalso
      refine hr q ⟨(hq q (by simp)).1, (hq q (by simp)).2, encAll qs ++ t, ?_⟩
      simpa [encAll] using e
  | cons p ps ih =>
    cases qs with
    | nil =>
      exfalso
      refine ht p ⟨(hp p (by simp)).1, (hp p (by simp)).2, encAll ps ++ r, ?_⟩
      simpa [encAll] using e.symm
    | cons q qs =>
      have e1 : Fr.enc p ++ (encAll ps ++ r) = Fr.enc q ++ (encAll qs ++ t) := by simpa [encAll] using e
      have e2 : p = q := Fr.begins_one (zs := Fr.enc p ++ (encAll ps ++ r)) ⟨(hp p (by simp)).1, (hp p (by simp)).2, _, rfl⟩ ⟨(hq q (by simp)).1, (hq q (by simp)).2, _, e1⟩
      subst e2
      obtain ⟨i1, i2⟩ := ih qs (fun x hx => hp x (by simp [hx])) (fun x hx => hq x (by simp [hx])) (List.append_cancel_left e1)
      exact ⟨by rw [i1], i2⟩
theorem no_begins_nil (p : Fr.Pk) : ¬ Fr.Begins p [] := fun h => by have := (begins_long h).1; simp at this
theorem own_len {w : World} {base e size n : Nat} {v : Value} {xs : List Value} (h : w.ownsRow base e size v n xs) : ∃ a cap, v = .slice a n cap := by
  rcases h.2 with ⟨hv, hn⟩ | ⟨g, cap, cur, hv, _⟩
  · exact ⟨none, 0, by rw [hv, hn]⟩
  · exact ⟨_, _, hv⟩
theorem own_later {w w' : World} {base : Nat} {e : TypeId} {size : Nat} {v : Value} {n : Nat} {xs : List Value} (h : w.ownsRow base e size v n xs) (hb : Below w.heap.size w w') : w'.ownsRow base e size v n xs := by
  obtain ⟨h1, h2⟩ := h
  refine ⟨h1, ?_⟩
  rcases h2 with h2 | ⟨g, cap, cur, a, b, c, d⟩
  · exact .inl h2
  · exact .inr ⟨g, cap, cur, a, b, by rw [hb.block g (lt_of_blk c)]; exact c, d⟩
/-- A slice of texts that came in. -/
def IsS (w : World) (v : Value) (ss : List ByteArray) : Prop :=
  ∃ a cap, v = .slice a ss.length cap ∧ ss.length ≤ maxLen ∧ (0 < ss.length → ∃ b off, a = some ⟨b, off, none⟩ ∧ ∀ i, i < ss.length → w.cell? ⟨b, off + i, none⟩ = some (.string (ss.getD i ByteArray.empty))) ∧ ∀ i, (ss.getD i ByteArray.empty).size ≤ maxLen
theorem isS_of {H : Type} {enc : TypeId × Value → H} {P : Program} {W : World} {t e : TypeId} {a : Option Addr} {len cap : Nat} {d : DataW H} {p : List MemPlace}
    (ht : P.underlying t = some (.slice e)) (he : P.underlying e = some .string) (hc : P.cellsOf e = 1)
    (h : DataW.Trod enc P W 0 (fun _ => true) true t (.slice a len cap) d p) : ∃ ss, ss.length = len ∧ IsS W (.slice a len cap) ss := by
  obtain ⟨fuel, hf⟩ := h
  rcases open_strings ht he hc hf with ⟨hcs, _⟩ | ⟨x, l, c, ss, hcs, _, hl, hm, hz, _, hcell, hws⟩
  · simp [Value.cells] at hcs
    obtain ⟨rfl, rfl, rfl⟩ := hcs
    exact ⟨[], rfl, none, 0, rfl, Nat.zero_le _, fun h => absurd h (by simp), fun i => by simp⟩
  · simp [Value.cells] at hcs
    obtain ⟨rfl, rfl, rfl⟩ := hcs
    have hz' : ss.length = cap := by simpa using hz
    have hlen : (ss.take len).length = len := by rw [List.length_take]; omega
    refine ⟨ss.take len, hlen, some x, cap, by rw [hlen], by omega, fun hp => ?_, fun i => ?_⟩
    · obtain ⟨b, off, spot⟩ := x
      have hc0 := hcell 0 (by omega)
      have hspot : spot = none := by simpa [Addr.add] using World.cell?_spot hc0
      subst hspot
      refine ⟨b, off, rfl, fun i hi => ?_⟩
      have h1 := hcell i (by omega)
      have h2 : (⟨b, off, none⟩ : Addr).add i = ⟨b, off + i, none⟩ := by rcases i with _ | i <;> simp [Addr.add]
      rw [h2] at h1
      rw [h1]
      have hi' : i < len := by omega
      simp [List.getD, List.getElem?_take, hi']
    · by_cases hi : i < (ss.take len).length
      · have : (ss.take len).getD i ByteArray.empty ∈ ss.take len := by
          rw [List.getD_eq_getElem?_getD, List.getElem?_eq_getElem hi]; exact List.getElem_mem hi
        exact hws _ (List.mem_of_mem_take this)
      · rw [List.getD_eq_getElem?_getD, List.getElem?_eq_none (by omega)]; exact Nat.zero_le _
set_option maxRecDepth 100000 in
set_option maxHeartbeats 2000000 in
theorem topRow_walk (a : Option Addr) (len cap : Nat) (ss : List ByteArray) (hl : ss.length = len) (w : World) (hS : IsS w (.slice a len cap) ss) :
    Calls Try.prog 5 #[.slice a len cap] w fun e w' => e = .returned (.bool true) ∧ Below w.heap.size w w' := by
  obtain ⟨i0, hi, hz0, hz1, hz2⟩ := info_parts8
  have HC : Hid (∀ i, i < len → ∃ b off, a = some ⟨b, off, none⟩ ∧ w.cell? ⟨b, off + i, none⟩ = some (.string (ss.getD i ByteArray.empty))) := by
    intro i hi
    obtain ⟨a', cap', e, h1, h2, h3⟩ := hS
    rw [hl] at e h2
    cases e
    obtain ⟨b, off, e2, hc⟩ := h2 (by omega)
    exact ⟨b, off, e2, hc i hi⟩
  have HM : Hid (∀ i, (ss.getD i ByteArray.empty).size ≤ maxLen) := by obtain ⟨_, _, _, _, _, h3⟩ := hS; exact h3
  have hm : len ≤ maxLen := by obtain ⟨_, _, _, h1, _, _⟩ := hS; omega
  unfold maxLen at hm
  clear hS hl
  go_enter Try.func5, Try.ntmps5
  go_wp2
  go_loopw [3, 4, 5] (fun v m i wr => ∃ (k : Nat) (ps : List Fr.Pk), k ≤ 8 ∧ k ≤ len ∧ i = .int .i64 k ∧ m = .int .i64 ps.length ∧ ps.length ≤ k ∧ (encAll ps).length ≤ 519 * k ∧ wr.ownsRow w.heap.size 5 1 v (encAll ps).length ((encAll ps).map u8V) ∧ Below w.heap.size w wr ∧ Hid (∀ p ∈ ps, Fr.Wf p ∧ Fr.rightB p = true)) (fun _ _ i _ => (8 - intOf i).toNat)
  case atStart => exact ⟨0, [], by omega, by omega, rfl, rfl, by simp, by simp [encAll], World.ownsRow_nil _ _ _ _, Below.refl _ _, fun p hp => by cases hp⟩
  case round =>
    obtain ⟨k, ps, hk8, hkl, rfl, rfl, hpk, hel, hown, hbw, HP⟩ := hrel
    by_cases hlt : k < len
    · by_cases h8 : k < 8
      · obtain ⟨b, off, rfl, hcell⟩ := HC.out k hlt
        have hx := HM.out k
        unfold maxLen at hx
        generalize ss.getD k ByteArray.empty = x at *
        have hcr := cell_later hbw hcell
        by_cases h5 : 500 < x.size
        · have h5' : (500 : Int) < x.size := by omega
          go_wp2
          go_roundw
          case rel => exact ⟨k + 1, ps, by omega, by omega, by go_num, rfl, by omega, by omega, hown, hbw, HP⟩
          case measure => simp [intOf]; omega
        · have h5' : (x.size : Int) ≤ 500 := by omega
          have hwf : Fr.Wf ⟨2, 0, k % 3 + 1, 0, k + 1, x⟩ := by unfold Fr.Wf; simp only; omega
          have hrt : Fr.rightB ⟨2, 0, k % 3 + 1, 0, k + 1, x⟩ = true := by
            unfold Fr.rightB
            have a1 : ((k : Int) % 3 + 1 != 0) = true := by rw [bne_iff_ne]; omega
            have a2 : decide ((k : Int) % 3 + 1 ≤ 3) = true := decide_eq_true (by omega)
            have a3 : ((k : Int) + 1 != 0) = true := by rw [bne_iff_ne]; omega
            have a4 : decide (x.size ≤ 16384) = true := decide_eq_true (by omega)
            simp only [a1, a2, a3, a4]; rfl
          have C := encode_c ⟨2, 0, k % 3 + 1, 0, k + 1, x⟩ hwf (by unfold maxLen; simp only; omega)
          rw [show Fr.val ⟨2, 0, (k : Int) % 3 + 1, 0, k + 1, x⟩ = .agg #[.int .u8 2, .int .u8 0, .int .u8 (k % 3 + 1), .int .u32 0, .int .u32 (k + 1), .string x] from rfl] at C
          have HE : Hid _ := C
          have HW := hid (And.intro hwf hrt)
          clear C hwf hrt
          go_wp2_with fail
          refine (HE.out _).mono ?_
          rintro _ w2 ⟨⟨_, v6, rfl, hown6⟩ | ⟨hr6, _⟩, hb2⟩
          · have hl6 := Fr.enc_length ⟨2, 0, (k : Int) % 3 + 1, 0, k + 1, x⟩
            simp only at hl6
            obtain ⟨g6, cap6, rfl, hg6, _⟩ := hown6.form (by omega)
            have HCells := hid (own_cells8 hown6)
            have hle6 : (Fr.enc ⟨2, 0, (k : Int) % 3 + 1, 0, k + 1, x⟩).length ≤ 519 := by omega
            clear hl6
            have hown2 := own_later hown hb2
            have hbw2 := hbw.trans (hb2.mono hbw.size)
            have hz2' := hbw2.size
            have HPE : Hid (∀ p ∈ ps ++ [⟨2, 0, (k : Int) % 3 + 1, 0, k + 1, x⟩], Fr.Wf p ∧ Fr.rightB p = true) := fun p hp => by
              rcases List.mem_append.1 hp with h9 | h9
              · exact HP.out p h9
              · rw [List.mem_singleton.1 h9]; exact HW.out
            have HEA := hid (encAll_snoc ps ⟨2, 0, (k : Int) % 3 + 1, 0, k + 1, x⟩)
            have HQ : Hid ((ps ++ [(⟨2, 0, (k : Int) % 3 + 1, 0, k + 1, x⟩ : Fr.Pk)]).length = ps.length + 1) := by show _ = _; simp
            generalize (⟨2, 0, (k : Int) % 3 + 1, 0, k + 1, x⟩ : Fr.Pk) = q at *
            clear hown6
            go_wp2_with (at_builtin; refine wpList_append_own _ rfl _ _ 44 rfl w.heap.size 5 i0 (.int .u8 0) 1 1 Try.underlying44 hi hz0 hz1 hz2 rfl (by decide) _ _ _ rfl hown2 ⟨g6, 0, none⟩ (Fr.enc q).length cap6 ((Fr.enc q).map u8V) rfl (by simp) HCells.out (fun y hy => by obtain ⟨x, _, rfl⟩ := List.mem_map.1 hy; rfl) (by unfold maxLen; omega) (by omega) (by omega) ?_; intro v9 w9 hown9 hgrow9 hnil9)
            have hb9 : Below w.heap.size w w9 := Below.grown hbw2 hgrow9 hz2' (fun z hz => (hown2.lt z hz).1)
            go_roundw
            case rel =>
              refine ⟨k + 1, ps ++ [q], by omega, by omega, by go_num, ?_, by rw [HQ.out]; omega, ?_, ?_, hb9, HPE.out⟩
              · rw [HQ.out]; go_num
              · rw [HEA.out, List.length_append]; omega
              · rw [HEA.out, List.length_append, List.map_append]; exact hown9
            case measure => simp [intOf]; omega
          · rw [HW.out.2] at hr6; cases hr6
      · have hk : k = 8 := by omega
        clear HC HM
        subst hk
        have HYY : Hid (∀ x ∈ encAll ps, 0 ≤ x ∧ x ≤ 255) := fun x hx => by
          obtain ⟨p, hp, hx'⟩ := List.mem_flatMap.1 hx
          exact Fr.enc_byte p (HP.out p hp).1 x hx'
        obtain ⟨a6, cap6, rfl, hI6, hc6⟩ := isB_pile (T := 0) (g := 0) HYY.out hown
        have HI6 := hid hI6
        have hel2 := encAll_len ps
        have HL2 := hid hel2
        clear hI6 hown hel2
        go_wp2_with fail
        refine (all_c _ _ _ _ _ HI6.out hc6 (by omega)).mono ?_
        rintro _ w7 ⟨qs, r, v7, hC, hN, rfl, hown7, hb7⟩
        obtain ⟨e1, e2⟩ := cuts_eq hC
        obtain ⟨e3, e4⟩ := rows_one ps qs [] r HP.out e2 no_begins_nil hN (by rw [List.append_nil]; exact e1)
        subst e3
        obtain ⟨a7, cap7, rfl⟩ := own_len hown7
        rw [← HL2.out]
        have hB7 := hbw.trans (hb7.mono hbw.size)
        clear hown7 hC hN e1 e2 e4
        have C2 := right_c ⟨1, 1, 0, 0, 1, ⟨#[]⟩⟩ (by unfold Fr.Wf; simp) (by unfold maxLen; decide)
        rw [show Fr.val ⟨1, 1, 0, 0, 1, ⟨#[]⟩⟩ = .agg #[.int .u8 1, .int .u8 1, .int .u8 0, .int .u32 0, .int .u32 1, .string ⟨#[]⟩] from rfl, show Fr.rightB ⟨1, 1, 0, 0, 1, ⟨#[]⟩⟩ = true from by decide] at C2
        have HC2 : Hid _ := C2
        clear C2
        go_wp2_with fail
        refine (HC2.out _).mono ?_
        rintro _ w8 ⟨rfl, hb8⟩
        go_wp2
        go_ret
        exact ⟨rfl, hB7.trans (hb8.mono hB7.size)⟩
    · clear HC HM
      have HYY : Hid (∀ x ∈ encAll ps, 0 ≤ x ∧ x ≤ 255) := fun x hx => by
        obtain ⟨p, hp, hx'⟩ := List.mem_flatMap.1 hx
        exact Fr.enc_byte p (HP.out p hp).1 x hx'
      obtain ⟨a6, cap6, rfl, hI6, hc6⟩ := isB_pile (T := 0) (g := 0) HYY.out hown
      have HI6 := hid hI6
      have hel2 := encAll_len ps
      have HL2 := hid hel2
      clear hI6 hown hel2
      go_wp2_with fail
      refine (all_c _ _ _ _ _ HI6.out hc6 (by omega)).mono ?_
      rintro _ w7 ⟨qs, r, v7, hC, hN, rfl, hown7, hb7⟩
      obtain ⟨e1, e2⟩ := cuts_eq hC
      obtain ⟨e3, e4⟩ := rows_one ps qs [] r HP.out e2 no_begins_nil hN (by rw [List.append_nil]; exact e1)
      subst e3
      obtain ⟨a7, cap7, rfl⟩ := own_len hown7
      rw [← HL2.out]
      have hB7 := hbw.trans (hb7.mono hbw.size)
      clear hown7 hC hN e1 e2 e4
      have C2 := right_c ⟨1, 1, 0, 0, 1, ⟨#[]⟩⟩ (by unfold Fr.Wf; simp) (by unfold maxLen; decide)
      rw [show Fr.val ⟨1, 1, 0, 0, 1, ⟨#[]⟩⟩ = .agg #[.int .u8 1, .int .u8 1, .int .u8 0, .int .u32 0, .int .u32 1, .string ⟨#[]⟩] from rfl, show Fr.rightB ⟨1, 1, 0, 0, 1, ⟨#[]⟩⟩ = true from by decide] at C2
      have HC2 : Hid _ := C2
      clear C2
      go_wp2_with fail
      refine (HC2.out _).mono ?_
      rintro _ w8 ⟨rfl, hb8⟩
      go_wp2
      go_ret
      exact ⟨rfl, hB7.trans (hb8.mono hB7.size)⟩
/-! ### The row of TopRow -/
theorem topRow_own : ownKnob Try.prog.godebug = none := by kernel_rfl
theorem topRow_laidOut : laidOutB Try.prog = true := by kernel_rfl
set_option maxRecDepth 100000 in
theorem topRow_lifted (os : Os) (started : os.Started) (H : Type) (enc : TypeId × Value → H) :
    ReturnsInHanded {} Try.checked os 5 .any (Rows.topRowSpec.pre6 enc Try.prog Try.f5 Rows.topRowRow.domain false) (Rows.topRowSpec.post enc Try.prog Try.f5 false true false false) := by
  refine returnsInHanded_of_change (C := Try.checked) topRow_own started (by kernel_rfl) Try.func5
    (ChangeSpec.witness6 (enc := enc) (C := Try.checked) false ⟨#[], #[.slice none 0 0], []⟩ 8 (by kernel_rfl) (by kernel_rfl) (by kernel_rfl) (by kernel_rfl)) ?_
  intro W base args ds gs before hval0 hW hcnd _
  have hval : ∀ (j : Nat) t v, Try.f5.params[j]? = some t → args[j]? = some v → Value.okWide Try.prog W .any base t v := hval0
  have hW' := hW
  obtain ⟨p, q, hA0, hV, rfl, hfz, hnd⟩ := hW
  have hA : DataW.TrodAll enc Try.prog W 0 (fun _ => true) true Try.f5.params.toList args.toList ds p := hA0
  rw [Try.params5] at hA hval
  obtain ⟨v0, vs0, d0, ds0, p0, q0, hargs, rfl, rfl, h0, r0⟩ := trodAll_cons hA
  obtain ⟨rfl, rfl, rfl⟩ := trodAll_nil r0
  obtain rfl : args = #[v0] := by cases args; simp_all
  obtain ⟨rfl, rfl⟩ := trodVars_none hV
  have k0 := h0
  have lt0 : ∀ x ∈ p0, x.block < W.heap.size := by obtain ⟨m, hm⟩ := k0; exact DataW.trod_lt m _ _ _ hm
  obtain ⟨a0, len0, cap0, rfl⟩ := okWide_slice Try.underlying51 (hval 0 51 v0 rfl rfl)
  obtain ⟨z0, lz0, w0⟩ := isS_of Try.underlying51 Try.underlying9 (by kernel_rfl) h0
  clear hA0 hval0
  refine (topRow_walk a0 len0 cap0 z0 lz0 W w0).mono fun e W' ⟨he, bel⟩ => ?_
  subst he
  exact ⟨_, rfl, _, _, _, [], _, [], hW', trodAll_mk1 (shut_bool Try.underlying4 _), (trodAll_cons_mk (Below.trod topRow_laidOut (by kernel_rfl) (of_decide_eq_true (by kernel_rfl)) k0 bel lt0) trodAll_mk0), rfl, bel.frame _, fun h => by cases h⟩
theorem topRow_over : Rows.topRowRow.holds Try.pinned (OpenSpec.ofChange Rows.topRowSpec) :=
  OpenClaim.holds_of_wide 5 Try.f5 rfl rfl rfl rfl rfl rfl rfl ⟨rfl, rfl, rfl, rfl, rfl⟩ rfl rfl rfl rfl rfl (by kernel_rfl) Try.func5 (by kernel_rfl)
    (of_decide_eq_true (by kernel_rfl)) (by unfold Func.isWrapper; first | (rw [if_pos (by decide +kernel)]; kernel_rfl) | (rw [if_neg (by decide +kernel)]; exact ⟨rfl, rfl⟩))
    (fun os started H enc _ => topRow_lifted os started H enc)
/-- The statement. -/
theorem topRow_holds : Rows.TopRowSaid := topRow_over
#print axioms topRow_holds

end Go.Proofs.Yteimegacnmakaac
