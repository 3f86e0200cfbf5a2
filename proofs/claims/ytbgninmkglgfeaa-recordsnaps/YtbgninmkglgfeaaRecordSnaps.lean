/-
  For every snapshot (its first fifty nodes and versions are looked at) and every bytes (the first 20000): its bytes, or the error, and the snapshot whose bytes they are, or the error, are the document's.
-/
import Derived.Test.YtbgninmkglgfeaaGE
import Derived.Test.YtbgninmkglgfeaaGV
import Derived.Test.YtbgninmkglgfeaaRLv2
namespace Go.Proofs.Ytbgninmkglgfeaa
open Go.RowKit Go.ChangeShapes Go.WideShapes Go.ChangeAt Go.Maps Go.Shelf
open Go.ChangeMaps (open_string shut_string)
set_option linter.unusedVariables false
set_option linter.unusedSimpArgs false
set_option maxRecDepth 100000
theorem isB_cap {H : Type} {enc : TypeId × Value → H} {P : Program} {W : World} {t e : TypeId} {a : Option Addr} {len cap : Nat} {d : DataW H} {p : List MemPlace}
    (ht : P.underlying t = some (.slice e)) (he : P.underlying e = some (.int .u8)) (hc : P.cellsOf e = 1)
    (h : DataW.Trod enc P W 0 (fun _ => true) true t (.slice a len cap) d p) : a = none → cap = 0 := by
  obtain ⟨fuel, hf⟩ := h
  rcases open_ints ht he hc hf with ⟨hcs, _⟩ | ⟨x, l, c, zs, hcs, _⟩
  · simp [Value.cells] at hcs
    exact fun _ => hcs.2.2
  · simp [Value.cells] at hcs
    intro h0
    rw [h0] at hcs
    cases hcs.1
theorem txS_in (s : ByteArray) : ∀ y ∈ txF s, 0 ≤ y ∧ y ≤ 255 := fun y hy => by
  unfold txF at hy
  rcases List.mem_append.1 hy with h | h
  · exact beF_in _ _ y h
  · unfold Fr.bs at h
    obtain ⟨c, _, rfl⟩ := List.mem_map.1 h
    have := c.toNat_lt
    omega
theorem nodeB_inS (x : Nd) : ∀ y ∈ nodeB x, 0 ≤ y ∧ y ≤ 255 := fun y hy => by
  unfold nodeB at hy
  simp only [List.mem_append] at hy
  rcases hy with ((((h | h) | h) | h) | h) | (h | h)
  · exact beF_in _ _ y h
  · exact beF_in _ _ y h
  · exact beF_in _ _ y h
  · exact beF_in _ _ y h
  · exact txS_in _ y h
  · exact beF_in _ _ y h
  · unfold kidsB at h
    obtain ⟨k, _, hk⟩ := List.mem_flatMap.1 h
    unfold kidB at hk
    rcases List.mem_append.1 hk with h2 | h2
    · exact txS_in _ y h2
    · exact beF_in _ _ y h2
theorem snapB_inS (ns : List Nd) (ss : List St) : ∀ y ∈ snapB ns ss, 0 ≤ y ∧ y ≤ 255 := fun y hy => by
  unfold snapB measuresB stampsB measB stampB at hy
  simp only [List.mem_append, List.mem_flatMap] at hy
  rcases hy with (h | ⟨x, _, h | h⟩) | (h | ⟨x, _, h | h | h⟩)
  · exact beF_in _ _ y h
  · exact beF_in _ _ y h
  · exact nodeB_inS _ y h
  · exact beF_in _ _ y h
  · exact beF_in _ _ y h
  · exact beF_in _ _ y h
  · exact beF_in _ _ y h
/-- Bytes and an error's number. -/
def SnA (er : Int) (s : ByteArray) (w : World) (e : Ending) (w' : World) : Prop :=
  ∃ a n c, e = .returned (.tuple #[.slice a n c, .int .i64 er]) ∧ (∀ W, Below w'.heap.size w' W → (convert 22 9 (.slice a n c)).run Try.prog W = .ok (.string s) W) ∧ Below w.heap.size w w'
theorem snA_of (ns : List Nd) (ss : List St) : ∃ er s, ∀ w e w', SnapPost ns ss w e w' → SnA er s w e w' := by
  by_cases q : RSnap ns ss
  · refine ⟨0, Fr.tx (snapB ns ss), fun w e w' h => ?_⟩
    obtain ⟨⟨_, v, rfl, ho⟩ | ⟨h, _⟩, hb⟩ := h
    · obtain ⟨a, cap, rfl, hI, _, _⟩ := isB_ownR ho (snapB_inS ns ss)
      exact ⟨a, _, cap, rfl, fun W hW => conv_anyN (hI.later hW), hb⟩
    · exact absurd q h
  · refine ⟨3, Fr.tx [], fun w e w' h => ?_⟩
    obtain ⟨⟨h, _⟩ | ⟨_, rfl⟩, hb⟩ := h
    · exact absurd h q
    · exact ⟨none, 0, 0, rfl, fun W _ => conv_noneN W none 0, hb⟩
/-- A snapshot and an error's number. -/
def RdA (er : Int) (K : List Nd) (ss : List St) (w : World) (e : Ending) (w' : World) : Prop :=
  ∃ a ca b cb L, e = .returned (.tuple #[snV a L.length ca b ss.length cb, .int .i64 er]) ∧ L.map Nd.er = K ∧ (IsNs w' a L ∧ IsSs w' b ss ∧ L.length ≤ 40 ∧ ss.length ≤ 40 ∧ ∀ x ∈ L, x.ks.length ≤ 255) ∧ Below w.heap.size w w'
theorem rdA_of (zs : List Int) : ∃ er K ss, ∀ w e w', ReadsZ w zs e w' → RdA er K ss w e w' := by
  by_cases q : ∃ ns ss, GoodZ zs ns ss
  · obtain ⟨ns, ss, hg⟩ := q
    refine ⟨0, ns.map Nd.er, ss, fun w e w' h => ?_⟩
    obtain ⟨hb, ⟨ns', ss', e1, a, ca, b, cb, L, h1, h2, h3⟩ | ⟨e1, _⟩⟩ := h
    · have e6 := e1.1
      rw [hg.1] at e6
      simp only [Option.some.injEq, Prod.mk.injEq] at e6
      obtain ⟨⟨rfl, rfl⟩, _⟩ := e6
      exact ⟨a, ca, b, cb, L, h1, h2, ⟨h3.ns, h3.st, h3.2.2.2.1, h3.2.2.2.2, fun x hx => (h3.1.2 x hx).1.2.2.2.2.2.2.2⟩, hb⟩
    · exact absurd hg (e1 _ _)
  · refine ⟨3, [], [], fun w e w' h => ?_⟩
    obtain ⟨hb, ⟨ns', ss', e1, _⟩ | ⟨_, rfl⟩⟩ := h
    · exact absurd ⟨_, _, e1⟩ q
    · exact ⟨none, 0, none, 0, [], rfl, rfl, ⟨⟨Nat.zero_le _, (fun x hx => by cases hx), fun hp => absurd hp (by simp)⟩, ⟨Nat.zero_le _, (fun x hx => by cases hx), fun hp => absurd hp (by simp)⟩, Nat.zero_le _, Nat.zero_le _, fun x hx => by cases hx⟩, hb⟩
theorem few7_le (n : Nat) : few7 n ≤ n := by unfold few7; split <;> omega
set_option maxHeartbeats 8000000 in
theorem recordSnaps_walk (a : Option Addr) (ca : Nat) (b : Option Addr) (cb : Nat) (ns : List Nd) (ss : List St) (lca : ns.length ≤ ca) (lcb : ss.length ≤ cb) (a2 : Option Addr) (len2 cap2 : Nat) (z2 : List Int) (lc2 : len2 ≤ cap2) (hnc : a2 = none → cap2 = 0) (w : World) (hn : IsNs w a ns) (hs : IsSs w b ss) (h2 : IsB w a2 len2 z2) :
    Calls Try.prog 4 #[snV a ns.length ca b ss.length cb, .slice a2 len2 cap2] w fun e w' => e = .returned (.bool true) ∧ Below w.heap.size w w' := by
  have I3 := h2.front (few7 len2) (few7_le _)
  have hcf : few7 len2 ≤ cap2 := Nat.le_trans (few7_le _) lc2
  have LS : ∀ W, Below w.heap.size w W → Lies2 W a2 (few7 len2) cap2 := fun W hW => by
    by_cases q : few7 len2 = 0
    · exact .inl ⟨q, hnc⟩
    · obtain ⟨b, off, rfl, hc⟩ := I3.2.2.1 (by omega)
      refine .inr ⟨b, off, rfl, ?_⟩
      exact Nat.lt_of_lt_of_le (World.block_lt_of_cell? w _ (hc 0 (by omega))) hW.size
  obtain ⟨er2, K2, ss2, hRD⟩ := rdA_of (z2.take (few7 len2))
  have FW := hid (fun W (hW : Below w.heap.size w W) => few7_c a2 len2 cap2 z2 W (h2.later hW) lc2)
  have RA := hid (fun W (hW : Below w.heap.size w W) => (readSnapAny_c a2 (few7 len2) cap2 _ W (I3.later hW) hcf).mono (fun e9 w9 h9 => hRD W e9 w9 h9))
  have RB := hid (fun W (hW : Below w.heap.size w W) => (rReadSnap_c a2 (few7 len2) cap2 _ W (I3.later hW) hcf (LS W hW)).mono (fun e9 w9 h9 => hRD W e9 w9 h9))
  have LC := hid rlive_c
  generalize few7 len2 = n3 at *
  clear h2 lc2 hcf I3 LS hRD hnc
  have b0 := below_1 w (.cells #[.slice a ns.length ca, .slice b ss.length cb] 49)
  have h0 := heap_alloc_new w (.cells #[.slice a ns.length ca, .slice b ss.length cb] 49)
  have B0 := hid b0
  have H0 := hid h0
  obtain ⟨s0, s1⟩ := sn_cells h0
  have SM := hid (fun W => small_c a b ca cb ns.length ss.length W (fun h => by obtain ⟨p, o, e, _⟩ := hn.2.2 (by omega); exact ⟨p, o, e⟩) (fun h => by obtain ⟨p, o, e, _⟩ := hs.2.2 (by omega); exact ⟨p, o, e⟩) lca lcb)
  rw [n50_take, n50_take] at SM
  have L1 := hid (show (ns.take 50).length ≤ 50 by rw [List.length_take]; omega)
  have L2 := hid (show (ss.take 50).length ≤ 50 by rw [List.length_take]; omega)
  have HN := hid (hn.take 50)
  have HS := hid (hs.take 50)
  have WF : Hid (RSnap (ns.take 50) (ss.take 50) → ∀ y ∈ ns.take 50, y.Wf) := hid (fun hr y hy => nd_wf ((hn.take 50).2.1 y hy) (right_ok hr.1 y hy))
  generalize ns.take 50 = ns5 at *
  generalize ss.take 50 = ss5 at *
  obtain ⟨er1, str, hSN⟩ := snA_of ns5 ss5
  have SC := hid (fun W (hW : Below w.heap.size w W) => (snapshot_c a b ca cb ns5 ss5 W (HN.out.later hW) (HS.out.later hW) (by have := L1.out; omega) (by have := L2.out; omega) WF.out).mono (fun e9 w9 h9 => hSN W e9 w9 h9))
  have SD := hid (fun W (hW : Below w.heap.size w W) => (rSnapshot_c a b ca cb ns5 ss5 W (HN.out.later hW) (HS.out.later hW) (by have := L1.out; omega) (by have := L2.out; omega) WF.out).mono (fun e9 w9 h9 => hSN W e9 w9 h9))
  clear b0 h0 hn hs lca lcb hSN WF
  simp only [snV] at *
  have t0 := hid True.intro
  go_enter Try.func4, Try.ntmps4
  go_wp2_with (first
    | (have _q := t8.out; clear _q; go_at_call 21; refine SX.out.mono ?_; rintro _ w10 ⟨rfl, hb10⟩
       have B10 := hid (BL.out.trans (hb10.mono BL.out.size))
       clear hb10 t8)
    | (have _q := t7.out; clear _q; go_at_call 13; refine (LC.out _).mono ?_; rintro _ wL ⟨rfl, hbL⟩
       have BL := hid (B9.out.trans (hbL.mono B9.out.size))
       have cv1 := V6.out wL (S69.out.trans (hbL.mono S69.out.size))
       have cv2 := V7.out wL (S79.out.trans (hbL.mono S79.out.size))
       obtain ⟨p0, p1⟩ := sn_cells ((hbL.block _ (lt_blkR G9.out)).trans G9.out)
       obtain ⟨q0, q1⟩ := sn_cells ((hbL.block _ (lt_blkR H9.out)).trans H9.out)
       have SX := hid (same7_c va vb ua ub vc vd uc ud L M ss2 wL (N8.out.1.later (S89.out.trans (hbL.mono S89.out.size))) (N9.out.1.later hbL) (by rw [EL.out, EM.out]) (N8.out.2.1.later (S89.out.trans (hbL.mono S89.out.size))) (N9.out.2.later hbL) (by have := N8.out.2.2.1; omega) (by have := N8.out.2.2.2.1; omega) (fun x hx => by have := N8.out.2.2.2.2 x hx; omega))
       simp only [snV] at SX
       have t8 := hid True.intro
       clear hbL t7)
    | (have _q := t6.out; clear _q; go_at_call 20; refine (RB.out _ B8.out).mono ?_; rintro _ w9 ⟨ua, uc, ub, ud, M, rfl, hM, hN9, hb9⟩
       have b9 := below_1 w9 (.cells #[.slice ua M.length uc, .slice ub ss2.length ud] 49)
       have H9 := hid (heap_alloc_new w9 (.cells #[.slice ua M.length uc, .slice ub ss2.length ud] 49))
       have s9 := hb9.trans (b9.mono hb9.size)
       have S89 := hid s9
       have B9 := hid (B8.out.trans (s9.mono B8.out.size))
       have S69 := hid (S68.out.trans (s9.mono S68.out.size))
       have S79 := hid (S78.out.trans (s9.mono S78.out.size))
       have G9 := hid ((s9.block _ (lt_blkR G8.out)).trans G8.out)
       have EM := hid hM
       have N9 := hid (show IsNs _ ua M ∧ IsSs _ ub ss2 from ⟨hN9.1.later b9, hN9.2.1.later b9⟩)
       have t7 := hid True.intro
       try unfold snV
       clear hM hN9 hb9 b9 s9 t6)
    | (have _q := t5.out; clear _q; go_at_call 6; refine (FW.out _ B8.out).mono ?_; rintro _ wf ⟨rfl, hwf⟩; have hwf2 := hwf.symm; clear hwf; subst hwf2
       have t6 := hid True.intro
       clear t5)
    | (have _q := t4.out; clear _q; go_at_call 19; refine (RA.out _ B7.out).mono ?_; rintro _ w8 ⟨va, vc, vb, vd, L, rfl, hL, hN8, hb8⟩
       have b8 := below_1 w8 (.cells #[.slice va L.length vc, .slice vb ss2.length vd] 49)
       have G8 := hid (heap_alloc_new w8 (.cells #[.slice va L.length vc, .slice vb ss2.length vd] 49))
       have s8 := hb8.trans (b8.mono hb8.size)
       have S78 := hid s8
       have S68 := hid (S67.out.trans (s8.mono S67.out.size))
       have B8 := hid (B7.out.trans (s8.mono B7.out.size))
       have EL := hid hL
       have N8 := hid (show IsNs _ va L ∧ IsSs _ vb ss2 ∧ L.length ≤ 40 ∧ ss2.length ≤ 40 ∧ ∀ x ∈ L, x.ks.length ≤ 255 from ⟨hN8.1.later b8, hN8.2.1.later b8, hN8.2.2⟩)
       have t5 := hid True.intro
       try unfold snV
       clear hL hN8 hb8 b8 s8 t4)
    | (have _q := t3.out; clear _q; go_at_call 6; refine (FW.out _ B7.out).mono ?_; rintro _ wf ⟨rfl, hwf⟩; have hwf2 := hwf.symm; clear hwf; subst hwf2
       have t4 := hid True.intro
       clear t3)
    | (have _q := t2.out; clear _q; go_at_call 18; refine (SD.out _ B6.out).mono ?_; rintro _ w7 ⟨a7, n7, c7, rfl, hv7, hb7⟩
       have B7 := hid (B6.out.trans (hb7.mono B6.out.size))
       have S67 := hid hb7
       have V7 := hid hv7
       have t3 := hid True.intro
       clear hv7 hb7 t2 C6a C6b s0 s1)
    | (have _q := t1.out; clear _q; go_at_call 17; refine (SC.out _ B5.out).mono ?_; rintro _ w6 ⟨a6, n6, c6, rfl, hv6, hb6⟩
       have B6 := hid (B5.out.trans (hb6.mono B5.out.size))
       have C6a := hid (cell_later hb6 C5a.out)
       have C6b := hid (cell_later hb6 C5b.out)
       have s0 := C6a.out
       have s1 := C6b.out
       have V6 := hid hv6
       have t2 := hid True.intro
       clear hv6 hb6 t1 C5a C5b H1d fs)
    | (have _q := t0.out; clear _q; go_at_call 16; refine (SM.out _).mono ?_; rintro _ w4 ⟨rfl, hb4⟩
       have H1d := hid ((hb4.block _ (lt_blkR H0.out)).trans H0.out)
       obtain ⟨s0, s1⟩ := sn_cells H1d.out
       have fs := frz H1d.out
       have bb4 := B0.out.trans (hb4.mono B0.out.size)
       have B5 : Hid (Below w.heap.size w ((w4.setCell ⟨w.heap.size, 0, none⟩ (.slice a ns5.length ca)).setCell ⟨w.heap.size, 1, none⟩ (.slice b ss5.length cb))) := hid ((bb4.setCell (p := ⟨w.heap.size, 0, none⟩) (Nat.le_refl _) _).setCell (p := ⟨w.heap.size, 1, none⟩) (Nat.le_refl _) _)
       have C5a : Hid (((w4.setCell ⟨w.heap.size, 0, none⟩ (.slice a ns5.length ca)).setCell ⟨w.heap.size, 1, none⟩ (.slice b ss5.length cb)).cell? ⟨w.heap.size, 0, none⟩ = some (.slice a ns5.length ca)) := hid (by simp [go_sem, s0, s1])
       have C5b : Hid (((w4.setCell ⟨w.heap.size, 0, none⟩ (.slice a ns5.length ca)).setCell ⟨w.heap.size, 1, none⟩ (.slice b ss5.length cb)).cell? ⟨w.heap.size, 1, none⟩ = some (.slice b ss5.length cb)) := hid (by simp [go_sem, s0, s1])
       have t1 := hid True.intro
       clear hb4 bb4 t0 SM))
  go_ret
  exact ⟨by first | rfl | simp, B10.out⟩
/-! ### The row of RecordSnaps -/
theorem recordSnaps_own : ownKnob Try.prog.godebug = none := by kernel_rfl
theorem recordSnaps_laidOut : laidOutB Try.prog = true := by kernel_rfl
set_option maxRecDepth 100000 in
theorem recordSnaps_lifted (os : Os) (started : os.Started) (H : Type) (enc : TypeId × Value → H) :
    ReturnsInHanded {} Try.checked os 4 .any (Rows.recordSnapsSpec.pre6 enc Try.prog Try.f4 Rows.recordSnapsRow.domain false) (Rows.recordSnapsSpec.post enc Try.prog Try.f4 false true false false) := by
  refine returnsInHanded_of_change (C := Try.checked) recordSnaps_own started (by kernel_rfl) Try.func4
    (ChangeSpec.witness6 (enc := enc) (C := Try.checked) false ⟨#[], #[.agg #[.slice none 0 0, .slice none 0 0], .slice none 0 0], []⟩ 8 (by kernel_rfl) (by kernel_rfl) (by kernel_rfl) (by kernel_rfl)) ?_
  intro W base args ds gs before hval0 hW hcnd _
  have hval : ∀ (j : Nat) t v, Try.f4.params[j]? = some t → args[j]? = some v → Value.okWide Try.prog W .any base t v := hval0
  have hW' := hW
  obtain ⟨p, q, hA0, hV, rfl, hfz, hnd⟩ := hW
  have hA : DataW.TrodAll enc Try.prog W 0 (fun _ => true) true Try.f4.params.toList args.toList ds p := hA0
  rw [Try.params4] at hA hval
  obtain ⟨v0, vs0, d0, ds0, p0, q0, hargs, rfl, rfl, h0, r0⟩ := trodAll_cons hA
  obtain ⟨v1, vs1, d1, ds1, p1, q1, rfl, rfl, rfl, h1, r1⟩ := trodAll_cons r0
  obtain ⟨rfl, rfl, rfl⟩ := trodAll_nil r1
  obtain rfl : args = #[v0, v1] := by cases args; simp_all
  obtain ⟨rfl, rfl⟩ := trodVars_none hV
  have k0 := h0
  have lt0 : ∀ x ∈ p0, x.block < W.heap.size := by obtain ⟨m, hm⟩ := k0; exact DataW.trod_lt m _ _ _ hm
  obtain ⟨a0, ca0, b0, cb0, ns0, ss0, rfl, hn0, hs0, la0, lb0⟩ := open_snap (hval 0 49 v0 rfl rfl) h0
  have k1 := h1
  have lt1 : ∀ x ∈ p1, x.block < W.heap.size := by obtain ⟨m, hm⟩ := k1; exact DataW.trod_lt m _ _ _ hm
  obtain ⟨a1, len1, cap1, rfl⟩ := okWide_slice Try.underlying22 (hval 1 22 v1 rfl rfl)
  obtain ⟨z1, w1, lc1⟩ := isB_of Try.underlying22 Try.underlying5 (by kernel_rfl) h1
  clear hA0 hval0
  refine (recordSnaps_walk a0 ca0 b0 cb0 ns0 ss0 la0 lb0 a1 len1 cap1 z1 lc1 (isB_cap Try.underlying22 Try.underlying5 (by kernel_rfl) h1) W hn0 hs0 w1).mono fun e W' ⟨he, bel⟩ => ?_
  subst he
  exact ⟨_, rfl, _, _, _, [], _, [], hW', trodAll_mk1 (shut_bool Try.underlying4 _), (trodAll_cons_mk (Below.trod recordSnaps_laidOut (by kernel_rfl) (of_decide_eq_true (by kernel_rfl)) k0 bel lt0) (trodAll_cons_mk (Below.trod recordSnaps_laidOut (by kernel_rfl) (of_decide_eq_true (by kernel_rfl)) k1 bel lt1) trodAll_mk0)), rfl, bel.frame _, fun h => by cases h⟩
theorem recordSnaps_over : Rows.recordSnapsRow.holds Try.pinned (OpenSpec.ofChange Rows.recordSnapsSpec) :=
  OpenClaim.holds_of_wide 4 Try.f4 rfl rfl rfl rfl rfl rfl rfl ⟨rfl, rfl, rfl, rfl, rfl⟩ rfl rfl rfl rfl rfl (by kernel_rfl) Try.func4 (by kernel_rfl)
    (of_decide_eq_true (by kernel_rfl)) (by unfold Func.isWrapper; first | (rw [if_pos (by decide +kernel)]; kernel_rfl) | (rw [if_neg (by decide +kernel)]; exact ⟨rfl, rfl⟩))
    (fun os started H enc _ => recordSnaps_lifted os started H enc)
/-- The statement. -/
theorem recordSnaps_holds : Rows.RecordSnapsSaid := recordSnaps_over
#print axioms recordSnaps_holds

end Go.Proofs.Ytbgninmkglgfeaa
