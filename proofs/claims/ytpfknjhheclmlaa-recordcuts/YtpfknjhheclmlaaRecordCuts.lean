/-
  For every operation, every records (the first 24 are looked at) and every place: bytes that are cut there, or with a byte more behind, are refused.
-/
import Derived.Test.YtpfknjhheclmlaaRCp
namespace Go.Proofs.Ytpfknjhheclmlaa
open Go.RowKit Go.ChangeShapes Go.WideShapes Go.ChangeAt Go.Maps Go.Shelf
open Go.ChangeMaps (open_string shut_string)
set_option linter.unusedVariables false
set_option linter.unusedSimpArgs false
theorem isB_cellsR {w : World} {b off len : Nat} {zs : List Int} (h : IsB w (some ⟨b, off, none⟩) len zs) : ∀ j u, (zs.map u8V)[j]? = some u → w.cell? ((⟨b, off, none⟩ : Addr).add j) = some u := by
  intro j u hu
  rw [List.getElem?_map, Option.map_eq_some_iff] at hu
  obtain ⟨x, hx, rfl⟩ := hu
  have hj := (List.getElem?_eq_some_iff.1 hx).1
  rw [h.1] at hj
  obtain ⟨b', off', e, hc⟩ := h.2.2.1 (by omega)
  cases e
  rw [show ((⟨b, off, none⟩ : Addr).add j) = ⟨b, off + j, none⟩ by unfold Addr.add; split <;> simp_all, hc j hj]
  simp [List.getD, hx, u8V]
theorem own_emptyR (w : World) : (w.alloc (.cells #[] 5)).ownsRow w.heap.size 5 1 (.slice (some ⟨w.heap.size, 0, none⟩) 0 0) 0 [] :=
  ⟨rfl, .inr ⟨w.heap.size, 0, #[], rfl, Nat.le_refl _, heap_alloc_new w _, Nat.le_refl _, Nat.zero_le _, rfl, rfl⟩⟩
theorem one_cellR (w : World) : ∀ j u, ([Value.int .u8 0])[j]? = some u → (w.alloc (.cells #[.int .u8 0] 5)).cell? ((⟨w.heap.size, 0, none⟩ : Addr).add j) = some u := fun j u hu => by
  have e : (⟨w.heap.size, 0, none⟩ : Addr).add j = ⟨w.heap.size, 0 + j, none⟩ := by unfold Addr.add; split <;> simp_all
  rw [e, cell_of_row _ _ _ _ _ _ (heap_alloc_new w (.cells #[.int .u8 0] 5))]
  simpa using hu
theorem grown_below {w0 w1 w2 : World} {base e size n : Nat} {v : Value} {xs : List Value} (hg : w1.grownBy w2 v.ownBlock) (ho : w1.ownsRow base e size v n xs) (hb : base ≤ w1.heap.size) : Below base w1 w2 :=
  Below.grown (Below.refl _ _) hg hb (fun q hq => (ho.lt q hq).1)
/-- Bytes that were written: cut they say nothing, and with one behind. -/
def Strict (f : List Int → Bool) (ys : List Int) : Prop :=
  (∀ k, k < ys.length → f (ys.take k) = false) ∧ f (ys ++ [0]) = false ∧ (∀ y ∈ ys, 0 ≤ y ∧ y ≤ 255) ∧ 0 < ys.length ∧ ys.length ≤ 3000
theorem op_strict (x : Rec) (hw : x.Wf) (hr : rightF x = true) : Strict (fun z => (opAll z).isSome) (opB x) := by
  refine ⟨fun k hk => ?_, ?_, opB_in x, opB_pos x, ?_⟩
  · simp only; rw [opAll_cut x k hw hr hk]; rfl
  · simp only; rw [opAll_more x hw hr]; rfl
  · have := right_size x hr
    rw [opB_len]; omega
theorem recs_strict (l : List Rec) (hw : ∀ x ∈ l, x.Wf) (hok : recsOk l = true) : Strict (fun z => (recsAll z).isSome) (recsA l) := by
  refine ⟨fun k hk => ?_, ?_, recsA_in l, recsA_pos l, ?_⟩
  · simp only; rw [recsAll_cut l k hw hok hk]; rfl
  · simp only; rw [recsAll_more l hw hok]; rfl
  · have hs : Small l := fun x hx => by have := right_size x ((recsOk_right hok).2 x hx); omega
    have := recsB_le hs
    have := (recsOk_right hok).1
    unfold recsA
    rw [List.length_append, beF_len]; omega
theorem more_own {w : World} {base : Nat} {v : Value} {ys : List Int} (h : w.ownsRow base 5 1 v (ys.length + 1) (ys.map u8V ++ [.int .u8 0])) (hz : ∀ y ∈ ys, 0 ≤ y ∧ y ≤ 255) : ∃ a c, v = .slice a (ys.length + 1) c ∧ IsB w a (ys.length + 1) (ys ++ [0]) ∧ ys.length + 1 ≤ c ∧ Lies w a c := by
  have e : (ys ++ [0]).length = ys.length + 1 := by rw [List.length_append]; rfl
  have h2 : w.ownsRow base 5 1 v (ys ++ [0]).length ((ys ++ [0]).map u8V) := by rw [e, List.map_append]; exact h
  have := isB_ownR h2 (fun y hy => by
    rcases List.mem_append.1 hy with q | q
    · exact hz y q
    · rw [List.mem_singleton.1 q]; omega)
  rw [e] at this
  exact this
theorem isSome_f {α : Type} {o : Option α} (h : o.isSome = false) : o = none := by cases o <;> simp_all
theorem lies_lt {w : World} {b off c : Nat} (h : Lies w (some ⟨b, off, none⟩) c) : b < w.heap.size := by
  rcases h with ⟨e, _⟩ | ⟨b', off', e, hb⟩
  · cases e
  · cases e; exact hb
theorem isB_low {w w' : World} {b off len base : Nat} {zs : List Int} (h : IsB w (some ⟨b, off, none⟩) len zs) (hb : Below base w w') (hl : b < base) : IsB w' (some ⟨b, off, none⟩) len zs := by
  obtain ⟨h1, h2, h3, h4⟩ := h
  refine ⟨h1, h2, fun hp => ?_, h4⟩
  obtain ⟨b', off', e, hc⟩ := h3 hp
  cases e
  exact ⟨b, off, rfl, fun i hi => by
    have e2 : w'.heap[b]? = w.heap[b]? := hb.block b hl
    have := hc i hi
    simp only [World.cell?] at this ⊢
    rw [e2]; exact this⟩
set_option maxRecDepth 20000 in
set_option maxHeartbeats 4000000 in
theorem recordCuts_s (x : Rec) (a : Option Addr) (len cap : Nat) (l0 : List Rec) (hl : l0.length = len) (hc : len ≤ cap) (n : Int) (hn : (Lit.int .u16 n).wf = true) (w : World) (hx : x.Wf) (h : IsL w a l0) (hle : len ≤ 24) :
    Calls Try.prog 8 #[x.opV, .slice a len cap, .int .u16 n] w fun e w' => e = .returned (.bool true) ∧ Below w.heap.size w w' := by
  have hm := h.1
  unfold maxLen at hm
  rw [hl] at hm
  have qI : ¬ (24 : Int) < len := by omega
  have HR0 := hid (fun W (hW : Below w.heap.size w W) => records_c a cap l0 W (h.later hW) (by omega))
  rw [hl] at HR0
  have HWL := hid h.2.1
  obtain ⟨l, el⟩ : ∃ l, l = l0 := ⟨_, rfl⟩
  rw [← el] at HR0 HWL
  clear h hl el
  have hX0 := heap_alloc_new w (.cells x.ops.toArray 27)
  have HX0 := hid hX0
  have B0 := hid (below_1 w (.cells x.ops.toArray 27))
  obtain ⟨p0, p1, p2, p3, p4, p5, p6, p7⟩ := op_all hX0
  simp only [Rec.ops] at p0 p1 p2 p3 p4 p5 p6 p7
  have OX := hid (op_c x (w.alloc (.cells x.ops.toArray 27)) hx)
  have LC := hid rlive_c
  clear hX0
  cases rx : rightF x with
  | false =>
    rw [rx] at OX
    simp only [Bool.false_eq_true, if_false] at OX
    cases ok : recsOk l with
    | false =>
      rw [ok] at HR0
      simp only [Bool.false_eq_true, if_false] at HR0
      unfold Rec.opV at OX ⊢
      go_enter Try.func8, Try.ntmps8
      go_wp2_with (first
        | (go_at_call 15; refine (LC.out _).mono ?_; rintro _ wL ⟨rfl, hbL⟩)
        | (go_at_call 11; refine RC.out.mono ?_; rintro _ w3 ⟨rfl, hb3⟩; have B3 := hid (B2.out.trans (hb3.mono B2.out.size)); clear hb3)
        | (go_at_call 9; refine OX.out.mono ?_; rintro _ w2 ⟨rfl, hb2⟩; have B2 := hid (B0.out.trans (hb2.mono B0.out.size)); have RC := hid (HR0.out w2 B2.out); clear hb2))
      go_ret
      exact ⟨by first | rfl | simp, B3.out.trans (hbL.mono B3.out.size)⟩
    | true =>
      rw [ok] at HR0
      simp only [if_true] at HR0
      unfold Rec.opV at OX ⊢
      go_enter Try.func8, Try.ntmps8
      go_wp2_with (first
        | (go_at_call 15; refine (LC.out _).mono ?_; rintro _ wL ⟨rfl, hbL⟩)
        | (go_at_call 11; refine RC.out.mono ?_; rintro _ w3 ⟨⟨v3, rfl, hO3⟩, hb3⟩; obtain ⟨a3, c3, rfl⟩ := own_shapeR hO3; have B3 := hid (B2.out.trans (hb3.mono B2.out.size)); clear hb3 hO3)
        | (go_at_call 9; refine OX.out.mono ?_; rintro _ w2 ⟨rfl, hb2⟩; have B2 := hid (B0.out.trans (hb2.mono B0.out.size)); have RC := hid (HR0.out w2 B2.out); clear hb2))
      go_ret
      exact ⟨by first | rfl | simp, B3.out.trans (hbL.mono B3.out.size)⟩
  | true =>
    rw [rx] at OX
    simp only [if_true] at OX
    cases ok : recsOk l with
    | false =>
      rw [ok] at HR0
      simp only [Bool.false_eq_true, if_false] at HR0
      unfold Rec.opV at OX ⊢
      go_enter Try.func8, Try.ntmps8
      go_wp2_with (first
        | (go_at_call 15; refine (LC.out _).mono ?_; rintro _ wL ⟨rfl, hbL⟩)
        | (go_at_call 11; refine RC.out.mono ?_; rintro _ w3 ⟨rfl, hb3⟩; have B3 := hid (B2.out.trans (hb3.mono B2.out.size)); clear hb3)
        | (go_at_call 9; refine OX.out.mono ?_; rintro _ w2 ⟨⟨v2, rfl, hO2⟩, hb2⟩; obtain ⟨a2, c2, rfl⟩ := own_shapeR hO2; have B2 := hid (B0.out.trans (hb2.mono B0.out.size)); have RC := hid (HR0.out w2 B2.out); clear hb2 hO2))
      go_ret
      exact ⟨by first | rfl | simp, B3.out.trans (hbL.mono B3.out.size)⟩
    | true =>
      rw [ok] at HR0
      simp only [if_true] at HR0
      obtain ⟨i0, hi, hz0, hz1, hz2⟩ := info_parts8
      have SX := hid (op_strict x hx rx)
      have SL := hid (recs_strict l HWL.out ok)
      generalize opB x = ys at *
      generalize recsA l = zs at *
      obtain ⟨_, _, _, yp, ym⟩ := SX.out
      obtain ⟨_, _, _, zp, zm⟩ := SL.out
      have hn2 : 0 ≤ n ∧ n ≤ 65535 := by simpa [Lit.wf, IntKind.min, IntKind.max, IntKind.signed, IntKind.bits] using hn
      obtain ⟨m, rfl⟩ : ∃ m : Nat, n = m := ⟨n.toNat, by omega⟩
      have nw : IntKind.i64.wrap (m : Int) = m := by rw [IntKind.wrap_i64]; omega
      have ky : m % ys.length < ys.length := Nat.mod_lt _ yp
      have kz : m % zs.length < zs.length := Nat.mod_lt _ zp
      have my : (m : Int).tmod (ys.length : Int) = ((m % ys.length : Nat) : Int) := by rw [Int.tmod_eq_emod_of_nonneg (by omega)]; rfl
      have mz : (m : Int).tmod (zs.length : Int) = ((m % zs.length : Nat) : Int) := by rw [Int.tmod_eq_emod_of_nonneg (by omega)]; rfl
      generalize m % ys.length = i at *
      generalize m % zs.length = k at *
      have iw : IntKind.i64.wrap (i : Int) = i := by rw [IntKind.wrap_i64]; omega
      have kw : IntKind.i64.wrap (k : Int) = k := by rw [IntKind.wrap_i64]; omega
      have yI : ¬ (ys.length : Int) = 0 := by omega
      have zI : ¬ (zs.length : Int) = 0 := by omega
      have yN : ¬ ys.length = 0 := by omega
      have zN : ¬ zs.length = 0 := by omega
      have yB : ((ys.length : Int) == 0) = false := by rw [beq_eq_false_iff_ne]; omega
      have zB : ((zs.length : Int) == 0) = false := by rw [beq_eq_false_iff_ne]; omega
      clear hn hn2 hx rx ok HWL
      unfold Rec.opV at OX ⊢
      go_enter Try.func8, Try.ntmps8
      go_wp2_with (first
        | (go_at_call 15; refine (LC.out _).mono ?_; rintro _ wL ⟨rfl, hbL⟩)
        | (go_at_call 19; refine RR2.out.mono ?_; rintro _ w12 ⟨hb12, rfl⟩; have B12 := hid (B11.out.trans (hb12.mono B11.out.size)); clear hb12 RR2)
        | (at_builtin; refine wpList_append_own _ rfl (.tmp 93) (.tmp 94) 30 rfl (w8.heap.size + 1) 5 i0 (.int .u8 0) 1 1 Try.underlying30 hi hz0 hz1 hz2 rfl (by decide) _ _ _ rfl O11.out ⟨w10.heap.size, 0, none⟩ 1 1 [.int .u8 0] rfl rfl (one_cellR w10) (by simp [Value.oneCell']) (by unfold maxLen; omega) (by omega) S11.out ?_; intro v11 w11 hown11 hgrow11 hnil11; have b11 := grown_below (w0 := w10) hgrow11 O11.out S11.out; have B11 := hid (B10.out.trans (b11.mono (by rw [← E9.out]; exact B9.out.size))); obtain ⟨a11, c11, rfl, hI11, hc11, hL11⟩ := more_own hown11 SL.out.2.2.1; have RR2 := hid (readRecords_c a11 (zs.length + 1) c11 (zs ++ [0]) w11 hI11 hc11 hL11); rw [isSome_f SL.out.2.1] at RR2; unfold ReadsL at RR2; clear hown11 hgrow11 hnil11 b11 hI11 hL11)
        | (at_builtin; refine wpList_append_own _ rfl (.tmp 91) (.tmp 92) 30 rfl (w8.heap.size + 1) 5 i0 (.int .u8 0) 1 1 Try.underlying30 hi hz0 hz1 hz2 rfl (by decide) (.slice (some ⟨w8.heap.size + 1, 0, none⟩) 0 0) 0 [] rfl OE.out ⟨gz, oz, none⟩ zs.length cz (zs.map u8V) rfl (by simp) (isB_cellsR (IZ9.out.later (below_1 (w8.alloc (.cells Rec.no.ops.toArray 27)) (.cells #[] 5)))) (fun y hy => by obtain ⟨x, _, rfl⟩ := List.mem_map.1 hy; rfl) (by unfold maxLen; omega) (by omega) (by simp) ?_; intro v10 w10 hown10 hgrow10 hnil10; rw [Nat.zero_add, List.nil_append] at hown10; have b10 : Below ((w8.alloc (.cells Rec.no.ops.toArray 27))).heap.size (((w8.alloc (.cells Rec.no.ops.toArray 27))).alloc (.cells #[] 5)) w10 := (by rw [E9.out]; exact grown_below (w0 := w8) hgrow10 OE.out (by simp)); have S11 : Hid (w8.heap.size + 1 ≤ (w10.alloc (.cells #[.int .u8 0] 5)).heap.size) := hid (by rw [← E9.out]; exact Nat.le_trans (Nat.le_trans (below_1 (w8.alloc (.cells Rec.no.ops.toArray 27)) (.cells #[] 5)).size b10.size) (below_1 w10 (.cells #[.int .u8 0] 5)).size); have O11 := hid (own_latR hown10 (below_1 w10 (.cells #[.int .u8 0] 5))); have B10 := hid ((B9.out.trans (((below_1 (w8.alloc (.cells Rec.no.ops.toArray 27)) (.cells #[] 5)).trans b10).mono B9.out.size)).trans ((below_1 w10 (.cells #[.int .u8 0] 5)).mono (Nat.le_trans B9.out.size (Nat.le_trans (below_1 (w8.alloc (.cells Rec.no.ops.toArray 27)) (.cells #[] 5)).size b10.size)))); obtain ⟨a10, c10, rfl⟩ := own_shapeR hown10; clear hown10 hgrow10 hnil10 b10)
        | (go_at_call 17; refine RD2.out.mono ?_; rintro _ w8 ⟨rfl, hb8⟩; have b9 := below_1 w8 (.cells Rec.no.ops.toArray 27); have B9 := hid ((B7.out.trans (hb8.mono B7.out.size)).trans (b9.mono (Nat.le_trans B7.out.size hb8.size))); have IZ9 := hid ((IZ7.out.later hb8).later b9); have E9 : Hid (((w8.alloc (.cells Rec.no.ops.toArray 27))).heap.size = w8.heap.size + 1) := hid (by simp); have OE : Hid ((((w8.alloc (.cells Rec.no.ops.toArray 27))).alloc (.cells #[] 5)).ownsRow (w8.heap.size + 1) 5 1 (.slice (some ⟨w8.heap.size + 1, 0, none⟩) 0 0) 0 []) := hid (by simpa using own_emptyR ((w8.alloc (.cells Rec.no.ops.toArray 27)))); clear hb8 b9 RD2)
        | (at_builtin; refine wpList_append_own _ rfl (.tmp 84) (.tmp 85) 30 rfl w5.heap.size 5 i0 (.int .u8 0) 1 1 Try.underlying30 hi hz0 hz1 hz2 rfl (by decide) _ _ _ rfl O7.out ⟨w6.heap.size, 0, none⟩ 1 1 [.int .u8 0] rfl rfl (one_cellR w6) (by simp [Value.oneCell']) (by unfold maxLen; omega) (by omega) S7.out ?_; intro v7 w7 hown7 hgrow7 hnil7; have b7 := grown_below (w0 := w6) hgrow7 O7.out S7.out; have B7 := hid (B6.out.trans (b7.mono B5.out.size)); have IZ7 := hid (isB_low IZ6.out b7 (Nat.lt_of_lt_of_le LZ5.out (Nat.le_refl _))); obtain ⟨a7, c7, rfl, hI7, hc7, hL7⟩ := more_own hown7 SX.out.2.2.1; have RD2 := hid (readOp_c a7 (ys.length + 1) c7 (ys ++ [0]) w7 hI7 hc7 hL7); rw [isSome_f SX.out.2.1] at RD2; simp only [readV] at RD2; unfold Rec.opV at RD2; clear hown7 hgrow7 hnil7 b7 hI7 hL7)
        | (at_builtin; refine wpList_append_own _ rfl (.tmp 82) (.tmp 83) 30 rfl w5.heap.size 5 i0 (.int .u8 0) 1 1 Try.underlying30 hi hz0 hz1 hz2 rfl (by decide) (.slice (some ⟨w5.heap.size, 0, none⟩) 0 0) 0 [] rfl (own_emptyR w5) ⟨gy, oy, none⟩ ys.length cy (ys.map u8V) rfl (by simp) (isB_cellsR (IY5.out.later (below_1 w5 (.cells #[] 5)))) (fun y hy => by obtain ⟨x, _, rfl⟩ := List.mem_map.1 hy; rfl) (by unfold maxLen; omega) (by omega) (by simp) ?_; intro v6 w6 hown6 hgrow6 hnil6; rw [Nat.zero_add, List.nil_append] at hown6; have b6 := grown_below (w0 := w5) hgrow6 (own_emptyR w5) (by simp); have S7 := hid (Nat.le_trans (Nat.le_trans (below_1 w5 (.cells #[] 5)).size b6.size) (below_1 w6 (.cells #[.int .u8 0] 5)).size); have O7 := hid (own_latR hown6 (below_1 w6 (.cells #[.int .u8 0] 5))); have B6 := hid ((B5.out.trans (((below_1 w5 (.cells #[] 5)).trans b6).mono B5.out.size)).trans ((below_1 w6 (.cells #[.int .u8 0] 5)).mono (Nat.le_trans B5.out.size (Nat.le_trans (below_1 w5 (.cells #[] 5)).size b6.size)))); have IZ6 := hid ((IZ5.out.later ((below_1 w5 (.cells #[] 5)).trans b6)).later (below_1 w6 (.cells #[.int .u8 0] 5))); obtain ⟨a6, c6, rfl⟩ := own_shapeR hown6; clear hown6 hgrow6 hnil6 b6)
        | (go_at_call 19; refine RR1.out.mono ?_; rintro _ w5 ⟨hb5, rfl⟩; have B5 := hid (B4.out.trans (hb5.mono B4.out.size)); have IY5 := hid (IY4.out.later hb5); have IZ5 := hid (IZ4.out.later hb5); have LZ5 := hid (Nat.lt_of_lt_of_le LZ4.out hb5.size); clear hb5 RR1)
        | (go_at_call 17; refine RD1.out.mono ?_; rintro _ w40 ⟨rfl, hb40⟩; have b4 := below_1 w40 (.cells Rec.no.ops.toArray 27); have B4 := hid ((B3.out.trans (hb40.mono B3.out.size)).trans (b4.mono (Nat.le_trans B3.out.size hb40.size))); have IY4 := hid ((IY3.out.later hb40).later b4); have IZ4 := hid ((IZ3.out.later hb40).later b4); have LZ4 := hid (Nat.lt_of_lt_of_le LZ3.out (Nat.le_trans hb40.size b4.size)); have RR1 := hid (readRecords_c (some ⟨gz, oz, none⟩) k cz (zs.take k) _ (IZ4.out.front k (by omega)) (by omega) (.inr ⟨gz, oz, rfl, LZ4.out⟩)); rw [isSome_f (SL.out.1 k kz)] at RR1; unfold ReadsL at RR1; clear hb40 b4 RD1)
        | (go_at_call 11; refine RC.out.mono ?_; rintro _ w3 ⟨⟨v3, rfl, hO3⟩, hb3⟩; have B3 := hid (B2.out.trans (hb3.mono B2.out.size)); obtain ⟨az, cz, rfl, hI3, hcz, hL3⟩ := isB_ownR hO3 SL.out.2.2.1; obtain ⟨gz, oz, rfl, _⟩ := hI3.2.2.1 zp; have IZ3 := hid hI3; have LZ3 := hid (lies_lt hL3); have IY3 := hid (IY2.out.later hb3); have LY3 := hid (Nat.lt_of_lt_of_le LY2.out hb3.size); have RD1 := hid (readOp_c (some ⟨gy, oy, none⟩) i cy (ys.take i) w3 (IY3.out.front i (by omega)) (by omega) (.inr ⟨gy, oy, rfl, LY3.out⟩)); rw [isSome_f (SX.out.1 i ky)] at RD1; simp only [readV] at RD1; unfold Rec.opV at RD1; have czI : (k : Int) ≤ cz := (by omega); have czN : k ≤ cz := (by omega); clear hb3 hO3 hI3 hL3)
        | (go_at_call 9; refine OX.out.mono ?_; rintro _ w2 ⟨⟨v2, rfl, hO2⟩, hb2⟩; have B2 := hid (B0.out.trans (hb2.mono B0.out.size)); obtain ⟨ay, cy, rfl, hI2, hcy, hL2⟩ := isB_ownR hO2 SX.out.2.2.1; obtain ⟨gy, oy, rfl, _⟩ := hI2.2.2.1 yp; have IY2 := hid hI2; have LY2 := hid (lies_lt hL2); have RC := hid (HR0.out w2 B2.out); have cyI : (i : Int) ≤ cy := (by omega); have cyN : i ≤ cy := (by omega); clear hb2 hO2 hI2 hL2))
      go_ret
      exact ⟨by first | rfl | simp, B12.out.trans (hbL.mono B12.out.size)⟩
set_option maxRecDepth 20000 in
set_option maxHeartbeats 4000000 in
theorem recordCuts_b (x : Rec) (a : Option Addr) (len cap : Nat) (l0 : List Rec) (hl : l0.length = len) (hc : len ≤ cap) (n : Int) (hn : (Lit.int .u16 n).wf = true) (w : World) (hx : x.Wf) (h : IsL w a l0) (hgt : 24 < len) :
    Calls Try.prog 8 #[x.opV, .slice a len cap, .int .u16 n] w fun e w' => e = .returned (.bool true) ∧ Below w.heap.size w w' := by
  have hm := h.1
  unfold maxLen at hm
  rw [hl] at hm
  obtain ⟨b, off, rfl, _⟩ := h.2.2 (by omega)
  have qI : (24 : Int) < len := by omega
  have cI : (24 : Int) ≤ cap := by omega
  have cN : 24 ≤ cap := by omega
  have hl2 : (l0.take 24).length = 24 := by rw [List.length_take]; omega
  have HR0 := hid (fun W (hW : Below w.heap.size w W) => records_c (some ⟨b, off, none⟩) cap (l0.take 24) W ((h.front 24).later hW) (by omega))
  rw [hl2] at HR0
  have HWL := hid (h.front 24).2.1
  generalize l0.take 24 = l at *
  clear h hl hl2
  have hX0 := heap_alloc_new w (.cells x.ops.toArray 27)
  have HX0 := hid hX0
  have B0 := hid (below_1 w (.cells x.ops.toArray 27))
  obtain ⟨p0, p1, p2, p3, p4, p5, p6, p7⟩ := op_all hX0
  simp only [Rec.ops] at p0 p1 p2 p3 p4 p5 p6 p7
  have OX := hid (op_c x (w.alloc (.cells x.ops.toArray 27)) hx)
  have LC := hid rlive_c
  clear hX0
  cases rx : rightF x with
  | false =>
    rw [rx] at OX
    simp only [Bool.false_eq_true, if_false] at OX
    cases ok : recsOk l with
    | false =>
      rw [ok] at HR0
      simp only [Bool.false_eq_true, if_false] at HR0
      unfold Rec.opV at OX ⊢
      go_enter Try.func8, Try.ntmps8
      go_wp2_with (first
        | (go_at_call 15; refine (LC.out _).mono ?_; rintro _ wL ⟨rfl, hbL⟩)
        | (go_at_call 11; refine RC.out.mono ?_; rintro _ w3 ⟨rfl, hb3⟩; have B3 := hid (B2.out.trans (hb3.mono B2.out.size)); clear hb3)
        | (go_at_call 9; refine OX.out.mono ?_; rintro _ w2 ⟨rfl, hb2⟩; have B2 := hid (B0.out.trans (hb2.mono B0.out.size)); have RC := hid (HR0.out w2 B2.out); clear hb2))
      go_ret
      exact ⟨by first | rfl | simp, B3.out.trans (hbL.mono B3.out.size)⟩
    | true =>
      rw [ok] at HR0
      simp only [if_true] at HR0
      unfold Rec.opV at OX ⊢
      go_enter Try.func8, Try.ntmps8
      go_wp2_with (first
        | (go_at_call 15; refine (LC.out _).mono ?_; rintro _ wL ⟨rfl, hbL⟩)
        | (go_at_call 11; refine RC.out.mono ?_; rintro _ w3 ⟨⟨v3, rfl, hO3⟩, hb3⟩; obtain ⟨a3, c3, rfl⟩ := own_shapeR hO3; have B3 := hid (B2.out.trans (hb3.mono B2.out.size)); clear hb3 hO3)
        | (go_at_call 9; refine OX.out.mono ?_; rintro _ w2 ⟨rfl, hb2⟩; have B2 := hid (B0.out.trans (hb2.mono B0.out.size)); have RC := hid (HR0.out w2 B2.out); clear hb2))
      go_ret
      exact ⟨by first | rfl | simp, B3.out.trans (hbL.mono B3.out.size)⟩
  | true =>
    rw [rx] at OX
    simp only [if_true] at OX
    cases ok : recsOk l with
    | false =>
      rw [ok] at HR0
      simp only [Bool.false_eq_true, if_false] at HR0
      unfold Rec.opV at OX ⊢
      go_enter Try.func8, Try.ntmps8
      go_wp2_with (first
        | (go_at_call 15; refine (LC.out _).mono ?_; rintro _ wL ⟨rfl, hbL⟩)
        | (go_at_call 11; refine RC.out.mono ?_; rintro _ w3 ⟨rfl, hb3⟩; have B3 := hid (B2.out.trans (hb3.mono B2.out.size)); clear hb3)
        | (go_at_call 9; refine OX.out.mono ?_; rintro _ w2 ⟨⟨v2, rfl, hO2⟩, hb2⟩; obtain ⟨a2, c2, rfl⟩ := own_shapeR hO2; have B2 := hid (B0.out.trans (hb2.mono B0.out.size)); have RC := hid (HR0.out w2 B2.out); clear hb2 hO2))
      go_ret
      exact ⟨by first | rfl | simp, B3.out.trans (hbL.mono B3.out.size)⟩
    | true =>
      rw [ok] at HR0
      simp only [if_true] at HR0
      obtain ⟨i0, hi, hz0, hz1, hz2⟩ := info_parts8
      have SX := hid (op_strict x hx rx)
      have SL := hid (recs_strict l HWL.out ok)
      generalize opB x = ys at *
      generalize recsA l = zs at *
      obtain ⟨_, _, _, yp, ym⟩ := SX.out
      obtain ⟨_, _, _, zp, zm⟩ := SL.out
      have hn2 : 0 ≤ n ∧ n ≤ 65535 := by simpa [Lit.wf, IntKind.min, IntKind.max, IntKind.signed, IntKind.bits] using hn
      obtain ⟨m, rfl⟩ : ∃ m : Nat, n = m := ⟨n.toNat, by omega⟩
      have nw : IntKind.i64.wrap (m : Int) = m := by rw [IntKind.wrap_i64]; omega
      have ky : m % ys.length < ys.length := Nat.mod_lt _ yp
      have kz : m % zs.length < zs.length := Nat.mod_lt _ zp
      have my : (m : Int).tmod (ys.length : Int) = ((m % ys.length : Nat) : Int) := by rw [Int.tmod_eq_emod_of_nonneg (by omega)]; rfl
      have mz : (m : Int).tmod (zs.length : Int) = ((m % zs.length : Nat) : Int) := by rw [Int.tmod_eq_emod_of_nonneg (by omega)]; rfl
      generalize m % ys.length = i at *
      generalize m % zs.length = k at *
      have iw : IntKind.i64.wrap (i : Int) = i := by rw [IntKind.wrap_i64]; omega
      have kw : IntKind.i64.wrap (k : Int) = k := by rw [IntKind.wrap_i64]; omega
      have yI : ¬ (ys.length : Int) = 0 := by omega
      have zI : ¬ (zs.length : Int) = 0 := by omega
      have yN : ¬ ys.length = 0 := by omega
      have zN : ¬ zs.length = 0 := by omega
      have yB : ((ys.length : Int) == 0) = false := by rw [beq_eq_false_iff_ne]; omega
      have zB : ((zs.length : Int) == 0) = false := by rw [beq_eq_false_iff_ne]; omega
      clear hn hn2 hx rx ok HWL
      unfold Rec.opV at OX ⊢
      go_enter Try.func8, Try.ntmps8
      go_wp2_with (first
        | (go_at_call 15; refine (LC.out _).mono ?_; rintro _ wL ⟨rfl, hbL⟩)
        | (go_at_call 19; refine RR2.out.mono ?_; rintro _ w12 ⟨hb12, rfl⟩; have B12 := hid (B11.out.trans (hb12.mono B11.out.size)); clear hb12 RR2)
        | (at_builtin; refine wpList_append_own _ rfl (.tmp 93) (.tmp 94) 30 rfl (w8.heap.size + 1) 5 i0 (.int .u8 0) 1 1 Try.underlying30 hi hz0 hz1 hz2 rfl (by decide) _ _ _ rfl O11.out ⟨w10.heap.size, 0, none⟩ 1 1 [.int .u8 0] rfl rfl (one_cellR w10) (by simp [Value.oneCell']) (by unfold maxLen; omega) (by omega) S11.out ?_; intro v11 w11 hown11 hgrow11 hnil11; have b11 := grown_below (w0 := w10) hgrow11 O11.out S11.out; have B11 := hid (B10.out.trans (b11.mono (by rw [← E9.out]; exact B9.out.size))); obtain ⟨a11, c11, rfl, hI11, hc11, hL11⟩ := more_own hown11 SL.out.2.2.1; have RR2 := hid (readRecords_c a11 (zs.length + 1) c11 (zs ++ [0]) w11 hI11 hc11 hL11); rw [isSome_f SL.out.2.1] at RR2; unfold ReadsL at RR2; clear hown11 hgrow11 hnil11 b11 hI11 hL11)
        | (at_builtin; refine wpList_append_own _ rfl (.tmp 91) (.tmp 92) 30 rfl (w8.heap.size + 1) 5 i0 (.int .u8 0) 1 1 Try.underlying30 hi hz0 hz1 hz2 rfl (by decide) (.slice (some ⟨w8.heap.size + 1, 0, none⟩) 0 0) 0 [] rfl OE.out ⟨gz, oz, none⟩ zs.length cz (zs.map u8V) rfl (by simp) (isB_cellsR (IZ9.out.later (below_1 (w8.alloc (.cells Rec.no.ops.toArray 27)) (.cells #[] 5)))) (fun y hy => by obtain ⟨x, _, rfl⟩ := List.mem_map.1 hy; rfl) (by unfold maxLen; omega) (by omega) (by simp) ?_; intro v10 w10 hown10 hgrow10 hnil10; rw [Nat.zero_add, List.nil_append] at hown10; have b10 : Below ((w8.alloc (.cells Rec.no.ops.toArray 27))).heap.size (((w8.alloc (.cells Rec.no.ops.toArray 27))).alloc (.cells #[] 5)) w10 := (by rw [E9.out]; exact grown_below (w0 := w8) hgrow10 OE.out (by simp)); have S11 : Hid (w8.heap.size + 1 ≤ (w10.alloc (.cells #[.int .u8 0] 5)).heap.size) := hid (by rw [← E9.out]; exact Nat.le_trans (Nat.le_trans (below_1 (w8.alloc (.cells Rec.no.ops.toArray 27)) (.cells #[] 5)).size b10.size) (below_1 w10 (.cells #[.int .u8 0] 5)).size); have O11 := hid (own_latR hown10 (below_1 w10 (.cells #[.int .u8 0] 5))); have B10 := hid ((B9.out.trans (((below_1 (w8.alloc (.cells Rec.no.ops.toArray 27)) (.cells #[] 5)).trans b10).mono B9.out.size)).trans ((below_1 w10 (.cells #[.int .u8 0] 5)).mono (Nat.le_trans B9.out.size (Nat.le_trans (below_1 (w8.alloc (.cells Rec.no.ops.toArray 27)) (.cells #[] 5)).size b10.size)))); obtain ⟨a10, c10, rfl⟩ := own_shapeR hown10; clear hown10 hgrow10 hnil10 b10)
        | (go_at_call 17; refine RD2.out.mono ?_; rintro _ w8 ⟨rfl, hb8⟩; have b9 := below_1 w8 (.cells Rec.no.ops.toArray 27); have B9 := hid ((B7.out.trans (hb8.mono B7.out.size)).trans (b9.mono (Nat.le_trans B7.out.size hb8.size))); have IZ9 := hid ((IZ7.out.later hb8).later b9); have E9 : Hid (((w8.alloc (.cells Rec.no.ops.toArray 27))).heap.size = w8.heap.size + 1) := hid (by simp); have OE : Hid ((((w8.alloc (.cells Rec.no.ops.toArray 27))).alloc (.cells #[] 5)).ownsRow (w8.heap.size + 1) 5 1 (.slice (some ⟨w8.heap.size + 1, 0, none⟩) 0 0) 0 []) := hid (by simpa using own_emptyR ((w8.alloc (.cells Rec.no.ops.toArray 27)))); clear hb8 b9 RD2)
        | (at_builtin; refine wpList_append_own _ rfl (.tmp 84) (.tmp 85) 30 rfl w5.heap.size 5 i0 (.int .u8 0) 1 1 Try.underlying30 hi hz0 hz1 hz2 rfl (by decide) _ _ _ rfl O7.out ⟨w6.heap.size, 0, none⟩ 1 1 [.int .u8 0] rfl rfl (one_cellR w6) (by simp [Value.oneCell']) (by unfold maxLen; omega) (by omega) S7.out ?_; intro v7 w7 hown7 hgrow7 hnil7; have b7 := grown_below (w0 := w6) hgrow7 O7.out S7.out; have B7 := hid (B6.out.trans (b7.mono B5.out.size)); have IZ7 := hid (isB_low IZ6.out b7 (Nat.lt_of_lt_of_le LZ5.out (Nat.le_refl _))); obtain ⟨a7, c7, rfl, hI7, hc7, hL7⟩ := more_own hown7 SX.out.2.2.1; have RD2 := hid (readOp_c a7 (ys.length + 1) c7 (ys ++ [0]) w7 hI7 hc7 hL7); rw [isSome_f SX.out.2.1] at RD2; simp only [readV] at RD2; unfold Rec.opV at RD2; clear hown7 hgrow7 hnil7 b7 hI7 hL7)
        | (at_builtin; refine wpList_append_own _ rfl (.tmp 82) (.tmp 83) 30 rfl w5.heap.size 5 i0 (.int .u8 0) 1 1 Try.underlying30 hi hz0 hz1 hz2 rfl (by decide) (.slice (some ⟨w5.heap.size, 0, none⟩) 0 0) 0 [] rfl (own_emptyR w5) ⟨gy, oy, none⟩ ys.length cy (ys.map u8V) rfl (by simp) (isB_cellsR (IY5.out.later (below_1 w5 (.cells #[] 5)))) (fun y hy => by obtain ⟨x, _, rfl⟩ := List.mem_map.1 hy; rfl) (by unfold maxLen; omega) (by omega) (by simp) ?_; intro v6 w6 hown6 hgrow6 hnil6; rw [Nat.zero_add, List.nil_append] at hown6; have b6 := grown_below (w0 := w5) hgrow6 (own_emptyR w5) (by simp); have S7 := hid (Nat.le_trans (Nat.le_trans (below_1 w5 (.cells #[] 5)).size b6.size) (below_1 w6 (.cells #[.int .u8 0] 5)).size); have O7 := hid (own_latR hown6 (below_1 w6 (.cells #[.int .u8 0] 5))); have B6 := hid ((B5.out.trans (((below_1 w5 (.cells #[] 5)).trans b6).mono B5.out.size)).trans ((below_1 w6 (.cells #[.int .u8 0] 5)).mono (Nat.le_trans B5.out.size (Nat.le_trans (below_1 w5 (.cells #[] 5)).size b6.size)))); have IZ6 := hid ((IZ5.out.later ((below_1 w5 (.cells #[] 5)).trans b6)).later (below_1 w6 (.cells #[.int .u8 0] 5))); obtain ⟨a6, c6, rfl⟩ := own_shapeR hown6; clear hown6 hgrow6 hnil6 b6)
        | (go_at_call 19; refine RR1.out.mono ?_; rintro _ w5 ⟨hb5, rfl⟩; have B5 := hid (B4.out.trans (hb5.mono B4.out.size)); have IY5 := hid (IY4.out.later hb5); have IZ5 := hid (IZ4.out.later hb5); have LZ5 := hid (Nat.lt_of_lt_of_le LZ4.out hb5.size); clear hb5 RR1)
        | (go_at_call 17; refine RD1.out.mono ?_; rintro _ w40 ⟨rfl, hb40⟩; have b4 := below_1 w40 (.cells Rec.no.ops.toArray 27); have B4 := hid ((B3.out.trans (hb40.mono B3.out.size)).trans (b4.mono (Nat.le_trans B3.out.size hb40.size))); have IY4 := hid ((IY3.out.later hb40).later b4); have IZ4 := hid ((IZ3.out.later hb40).later b4); have LZ4 := hid (Nat.lt_of_lt_of_le LZ3.out (Nat.le_trans hb40.size b4.size)); have RR1 := hid (readRecords_c (some ⟨gz, oz, none⟩) k cz (zs.take k) _ (IZ4.out.front k (by omega)) (by omega) (.inr ⟨gz, oz, rfl, LZ4.out⟩)); rw [isSome_f (SL.out.1 k kz)] at RR1; unfold ReadsL at RR1; clear hb40 b4 RD1)
        | (go_at_call 11; refine RC.out.mono ?_; rintro _ w3 ⟨⟨v3, rfl, hO3⟩, hb3⟩; have B3 := hid (B2.out.trans (hb3.mono B2.out.size)); obtain ⟨az, cz, rfl, hI3, hcz, hL3⟩ := isB_ownR hO3 SL.out.2.2.1; obtain ⟨gz, oz, rfl, _⟩ := hI3.2.2.1 zp; have IZ3 := hid hI3; have LZ3 := hid (lies_lt hL3); have IY3 := hid (IY2.out.later hb3); have LY3 := hid (Nat.lt_of_lt_of_le LY2.out hb3.size); have RD1 := hid (readOp_c (some ⟨gy, oy, none⟩) i cy (ys.take i) w3 (IY3.out.front i (by omega)) (by omega) (.inr ⟨gy, oy, rfl, LY3.out⟩)); rw [isSome_f (SX.out.1 i ky)] at RD1; simp only [readV] at RD1; unfold Rec.opV at RD1; have czI : (k : Int) ≤ cz := (by omega); have czN : k ≤ cz := (by omega); clear hb3 hO3 hI3 hL3)
        | (go_at_call 9; refine OX.out.mono ?_; rintro _ w2 ⟨⟨v2, rfl, hO2⟩, hb2⟩; have B2 := hid (B0.out.trans (hb2.mono B0.out.size)); obtain ⟨ay, cy, rfl, hI2, hcy, hL2⟩ := isB_ownR hO2 SX.out.2.2.1; obtain ⟨gy, oy, rfl, _⟩ := hI2.2.2.1 yp; have IY2 := hid hI2; have LY2 := hid (lies_lt hL2); have RC := hid (HR0.out w2 B2.out); have cyI : (i : Int) ≤ cy := (by omega); have cyN : i ≤ cy := (by omega); clear hb2 hO2 hI2 hL2))
      go_ret
      exact ⟨by first | rfl | simp, B12.out.trans (hbL.mono B12.out.size)⟩
theorem recordCuts_walk (x : Rec) (a : Option Addr) (len cap : Nat) (l0 : List Rec) (hl : l0.length = len) (hc : len ≤ cap) (n : Int) (hn : (Lit.int .u16 n).wf = true) (w : World) (hx : x.Wf) (h : IsL w a l0) :
    Calls Try.prog 8 #[x.opV, .slice a len cap, .int .u16 n] w fun e w' => e = .returned (.bool true) ∧ Below w.heap.size w w' := by
  by_cases q : len ≤ 24
  · exact recordCuts_s x a len cap l0 hl hc n hn w hx h q
  · exact recordCuts_b x a len cap l0 hl hc n hn w hx h (by omega)
/-! ### The row of RecordCuts -/
theorem recordCuts_own : ownKnob Try.prog.godebug = none := by kernel_rfl
theorem recordCuts_laidOut : laidOutB Try.prog = true := by kernel_rfl
set_option maxRecDepth 100000 in
theorem recordCuts_lifted (os : Os) (started : os.Started) (H : Type) (enc : TypeId × Value → H) :
    ReturnsInHanded {} Try.checked os 8 .any (Rows.recordCutsSpec.pre6 enc Try.prog Try.f8 Rows.recordCutsRow.domain false) (Rows.recordCutsSpec.post enc Try.prog Try.f8 false true false false) := by
  refine returnsInHanded_of_change (C := Try.checked) recordCuts_own started (by kernel_rfl) Try.func8
    (ChangeSpec.witness6 (enc := enc) (C := Try.checked) false ⟨#[], #[.agg #[.int .u8 0, .int .u32 0, .int .u32 0, .string ByteArray.empty, .int .u32 0, .string ByteArray.empty, .int .u16 0, .string ByteArray.empty], .slice none 0 0, .int .u16 0], []⟩ 8 (by kernel_rfl) (by kernel_rfl) (by kernel_rfl) (by kernel_rfl)) ?_
  intro W base args ds gs before hval0 hW hcnd _
  have hval : ∀ (j : Nat) t v, Try.f8.params[j]? = some t → args[j]? = some v → Value.okWide Try.prog W .any base t v := hval0
  have hW' := hW
  obtain ⟨p, q, hA0, hV, rfl, hfz, hnd⟩ := hW
  have hA : DataW.TrodAll enc Try.prog W 0 (fun _ => true) true Try.f8.params.toList args.toList ds p := hA0
  rw [Try.params8] at hA hval
  obtain ⟨v0, vs0, d0, ds0, p0, q0, hargs, rfl, rfl, h0, r0⟩ := trodAll_cons hA
  obtain ⟨v1, vs1, d1, ds1, p1, q1, rfl, rfl, rfl, h1, r1⟩ := trodAll_cons r0
  obtain ⟨v2, vs2, d2, ds2, p2, q2, rfl, rfl, rfl, h2, r2⟩ := trodAll_cons r1
  obtain ⟨rfl, rfl, rfl⟩ := trodAll_nil r2
  obtain rfl : args = #[v0, v1, v2] := by cases args; simp_all
  obtain ⟨rfl, rfl⟩ := trodVars_none hV
  have k0 := h0
  have lt0 : ∀ x ∈ p0, x.block < W.heap.size := by obtain ⟨m, hm⟩ := k0; exact DataW.trod_lt m _ _ _ hm
  obtain ⟨q0, rfl, wq0⟩ := open_op (hval 0 27 v0 rfl rfl) h0
  have k1 := h1
  have lt1 : ∀ x ∈ p1, x.block < W.heap.size := by obtain ⟨m, hm⟩ := k1; exact DataW.trod_lt m _ _ _ hm
  obtain ⟨a1, len1, cap1, rfl⟩ := okWide_slice Try.underlying28 (hval 1 28 v1 rfl rfl)
  obtain ⟨z1, lz1, w1, lc1⟩ := isL_of Try.underlying28 h1
  obtain ⟨a2, rfl, rfl, rfl, w2⟩ := open_int Try.underlying25 (hval 2 25 v2 rfl rfl) h2
  clear hA0 hval0
  refine (recordCuts_walk q0 a1 len1 cap1 z1 lz1 lc1 a2 w2 W wq0 w1).mono fun e W' ⟨he, bel⟩ => ?_
  subst he
  exact ⟨_, rfl, _, _, _, [], _, [], hW', trodAll_mk1 (shut_bool Try.underlying4 _), (trodAll_cons_mk (Below.trod recordCuts_laidOut (by kernel_rfl) (of_decide_eq_true (by kernel_rfl)) k0 bel lt0) (trodAll_cons_mk (Below.trod recordCuts_laidOut (by kernel_rfl) (of_decide_eq_true (by kernel_rfl)) k1 bel lt1) (trodAll_cons_mk (shut_int Try.underlying25 w2) trodAll_mk0))), rfl, bel.frame _, fun h => by cases h⟩
theorem recordCuts_over : Rows.recordCutsRow.holds Try.pinned (OpenSpec.ofChange Rows.recordCutsSpec) :=
  OpenClaim.holds_of_wide 8 Try.f8 rfl rfl rfl rfl rfl rfl rfl ⟨rfl, rfl, rfl, rfl, rfl⟩ rfl rfl rfl rfl rfl (by kernel_rfl) Try.func8 (by kernel_rfl)
    (of_decide_eq_true (by kernel_rfl)) (by unfold Func.isWrapper; first | (rw [if_pos (by decide +kernel)]; kernel_rfl) | (rw [if_neg (by decide +kernel)]; exact ⟨rfl, rfl⟩))
    (fun os started H enc _ => recordCuts_lifted os started H enc)
/-- The statement. -/
theorem recordCuts_holds : Rows.RecordCutsSaid := recordCuts_over
#print axioms recordCuts_holds

end Go.Proofs.Ytpfknjhheclmlaa
