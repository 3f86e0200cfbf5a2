/-
  For every bytes: what they say, as an operation, as records, as a node, or the errors, is what the document says; they stay.
-/
import Derived.Test.YtbgninmkglgfeaaRAr
import Derived.Test.YtbgninmkglgfeaaRLv2
import Derived.Test.YtbgninmkglgfeaaRR4
namespace Go.Proofs.Ytbgninmkglgfeaa
open Go.RowKit Go.ChangeShapes Go.WideShapes Go.ChangeAt Go.Maps Go.Shelf
open Go.ChangeMaps (open_string shut_string)
open Go.BigFrame
set_option linter.unusedVariables false
set_option linter.unusedSimpArgs false
set_option maxRecDepth 100000
theorem isB_cap {H : Type} {enc : TypeId × Value → H} {P : Program} {W : World} {t e : TypeId} {a : Option Addr} {len cap : Nat} {d : DataW H} {p : List MemPlace}
    (ht : P.underlying t = some (.slice e)) (he : P.underlying e = some (.int .u8)) (hc : P.cellsOf e = 1)
    (h : DataW.Trod enc P W 0 (fun _ => true) true t (.slice a len cap) d p) : a = none → cap = 0 := by
  obtain ⟨fuel, hf⟩ := h
  rcases open_ints ht he hc hf with ⟨hcs, _⟩ | ⟨x, l, c, zs, hcs, _⟩
  · simp [Value.cells] at hcs
    exact fun _ => hcs.2.2
  · simp [Value.cells] at hcs
    intro h0
    rw [h0] at hcs
    cases hcs.1
theorem ops_guardR : Try.prog.eqGuardType Try.prog.depth 29 = false := by kernel_rfl
theorem opAll_wf {zs : List Int} (h : InB zs) : ∃ (x : Rec) (er : Int), readV (opAll zs) = .tuple #[x.opV, .int .i64 er] ∧ x.Wf := by
  unfold readV
  split
  · rename_i x e
    refine ⟨_, _, rfl, ?_⟩
    unfold opAll at e
    split at e
    · rename_i y q
      cases e
      exact (opP_in h q).1
    · cases e
  · refine ⟨_, _, rfl, ?_⟩
    unfold Rec.no Rec.Wf maxLen
    simp
    decide
set_option maxHeartbeats 8000000 in
theorem recordReads_walk (a : Option Addr) (len cap : Nat) (zs : List Int) (hlc : len ≤ cap) (hnc : a = none → cap = 0) (w : World) (hb : IsB w a len zs) :
    Calls Try.prog 3 #[.slice a len cap] w fun e w' => e = .returned (.bool true) ∧ Below w.heap.size w w' := by
  obtain ⟨n, hn⟩ : ∃ n, n = few7 len := ⟨_, rfl⟩
  have hnl : n ≤ len := by rw [hn]; unfold few7; split <;> omega
  have hn2 : n ≤ 20000 := by rw [hn]; unfold few7; split <;> omega
  have hF := hb.front n hnl
  obtain ⟨R, hR⟩ : ∃ R, R = zs.take n := ⟨_, rfl⟩
  rw [← hR] at hF
  have RL : R.length = n := hF.1
  have RIN : InB R := hF.2.2.2
  have RIN2 : ∀ y ∈ R, 0 ≤ y ∧ y ≤ 255 := fun y hy => by
    obtain ⟨i, hi, rfl⟩ := List.getElem_of_mem hy
    have := RIN i
    simpa [List.getD, hi] using this
  have LS : Lies2 w a n cap := by
    by_cases q : n = 0
    · exact .inl ⟨q, hnc⟩
    · obtain ⟨b, off, rfl, hc⟩ := hF.2.2.1 (by omega)
      refine .inr ⟨b, off, rfl, ?_⟩
      exact World.block_lt_of_cell? w _ (hc 0 (by omega))
  have LSl : ∀ W, Below w.heap.size w W → Lies2 W a n cap := fun W hW => by
    rcases LS with h | ⟨b, off, e, h⟩
    · exact .inl h
    · exact .inr ⟨b, off, e, Nat.lt_of_lt_of_le h hW.size⟩
  have FW := hid (fun W (hW : Below w.heap.size w W) => few7_c a len cap zs W (hb.later hW) hlc)
  rw [← hn] at FW
  have F1 := hid (fun W (hW : Below w.heap.size w W) => rReadOp_c a n cap R W (hF.later hW) (Nat.le_trans hnl hlc) (LSl W hW))
  have F2 := hid (fun W (hW : Below w.heap.size w W) => rReadRecs_a a n cap R W (hF.later hW) (Nat.le_trans hnl hlc) (LSl W hW))
  have F3 := hid (fun W (hW : Below w.heap.size w W) => rReadNode_a a n cap R W (hF.later hW) (Nat.le_trans hnl hlc) (LSl W hW))
  have HF := hid hF
  have CVA : Hid (∀ W, Below w.heap.size w W → (convert 22 9 (.slice a n cap)).run Try.prog W = .ok (.string (Fr.tx R)) W) := hid (fun W hW => by have := conv_anyN (pc := cap) (zs := R) (by rw [RL]; exact hF.later hW); rw [RL] at this; exact this)
  have HLN := hid (fun l => @recsAll_in R l RIN)
  obtain ⟨x, er, hx, hxw⟩ := opAll_wf RIN
  rw [hx] at F1
  obtain ⟨req, hreq, hq⟩ := ops_equal hxw hxw
  have ereq : req = true := hreq.2 rfl
  subst ereq
  have LL : Hid (((recsAll R).getD []).length ≤ 100000) := hid (by
    rcases q : recsAll R with _ | l
    · simp
    · have := (HLN.out l q).2; simp; omega)
  have LIN := hid LSl
  clear LS LSl hb hR hn hreq HLN
  have E0 := hid (own_emptyF w)
  have b0 := below_1 w (.cells #[] 5)
  have B0 := hid b0
  have hg := ops_guardR
  have LC := hid rlive_c
  have t0 := hid True.intro
  have RLH := hid RL
  have RI2 := hid RIN2
  clear b0 RL RIN RIN2 hF
  unfold Rec.opV at F1 hq
  go_enter Try.func3, Try.ntmps3
  go_upto_region 2 with (first
    | (go_at_call 6; refine (FW.out _ B0.out).mono ?_; rintro _ w1 ⟨rfl, hw1⟩; have hw2 := hw1.symm; clear hw1; subst hw2)
    | (at_builtin; refine wpList_appO _ rfl _ _ rfl w.heap.size _ rfl E0.out a n cap R rfl (HF.out.later B0.out) hnc (by omega) (alloc_leR _ _) ?_
       intro v1 u1 ho1 hb1
       obtain ⟨oa, oc, rfl, hI1, hoc, hol⟩ := isB_ownR ho1 RI2.out
       rw [RLH.out] at hI1 hoc ⊢
       have U1 := hid (B0.out.trans hb1)
       have I1 := hid hI1
       have OC1 := hid hoc
       have OL1 := hid hol
       clear ho1 hb1 hI1 hoc hol))
  have IL : Hid (∀ W, Below u1.heap.size u1 W → IsB W oa n R) := hid (fun W hW => I1.out.later hW)
  have OLL : Hid (∀ W, Below u1.heap.size u1 W → Lies W oa oc) := hid (fun W hW => by
    rcases OL1.out with h | ⟨b, off, e, h⟩
    · exact .inl h
    · exact .inr ⟨b, off, e, Nat.lt_of_lt_of_le h hW.size⟩)
  have G1 := hid (fun W (hW : Below u1.heap.size u1 W) => readOp_c oa n oc R W (IL.out W hW) OC1.out (OLL.out W hW))
  have G2 := hid (fun W (hW : Below u1.heap.size u1 W) => readRecs_a oa n oc R W (IL.out W hW) OC1.out (OLL.out W hW))
  have G3 := hid (fun W (hW : Below u1.heap.size u1 W) => readNode_a oa n oc R W (IL.out W hW) OC1.out (OLL.out W hW))
  have CVO : Hid (∀ W, Below u1.heap.size u1 W → (convert 22 9 (.slice oa n oc)).run Try.prog W = .ok (.string (Fr.tx R)) W) := hid (fun W hW => by have := conv_anyN (pc := oc) (zs := R) (by rw [RLH.out]; exact IL.out W hW); rw [RLH.out] at this; exact this)
  rw [hx] at G1
  unfold Rec.opV at G1
  unfold AnsL at F2 G2
  unfold AnsN at F3 G3
  obtain ⟨LR, hLR⟩ : ∃ LR, LR = (recsAll R).getD [] := ⟨_, rfl⟩
  obtain ⟨er2, her2⟩ : ∃ er2, er2 = erO (recsAll R).isSome := ⟨_, rfl⟩
  obtain ⟨X, hX⟩ : ∃ X, X = (nodeAll R).getD Nd.no := ⟨_, rfl⟩
  obtain ⟨er3, her3⟩ : ∃ er3, er3 = erO (nodeAll R).isSome := ⟨_, rfl⟩
  rw [← hLR, ← her2] at F2 G2
  rw [← hLR] at LL
  rw [← hX, ← her3] at F3 G3
  clear hLR her2 hX her3 hx hnc hlc HF OL1 OC1 I1 IL OLL E0 RI2
  have V1 := hid (Below.refl u1.heap.size u1)
  go_upto_region 8 with (first
    | (have _q := t7.out; clear _q; go_at_call 12; refine (F3.out _ U6.out).mono ?_; rintro _ w7 ⟨db, dd, kb, kd, rfl, hN7, hkl, hb7⟩
       have b7 := below_1 w7 (.cells (X.lie db dd kb kd).cells.toArray 39)
       have h7 := heap_alloc_new w7 (.cells (X.lie db dd kb kd).cells.toArray 39)
       have S67 := hid (hb7.trans (b7.mono hb7.size))
       have N7 := hid (hN7.later b7)
       have H7 := hid h7
       have KL := hid hkl
       unfold Nd.val Nd.lie
       clear hb7 b7 h7 hN7 hkl t7)
    | (have _q := t6.out; clear _q; go_at_call 11; refine (G3.out _ V5.out).mono ?_; rintro _ w6 ⟨da, dc, ka, kc, rfl, hN6, _, hb6⟩
       have b6 := below_1 w6 (.cells (X.lie da dc ka kc).cells.toArray 39)
       have h6 := heap_alloc_new w6 (.cells (X.lie da dc ka kc).cells.toArray 39)
       have S56 := hid (hb6.trans (b6.mono hb6.size))
       have U6 := hid (U5.out.trans (S56.out.mono U5.out.size))
       have N6 := hid (hN6.later b6)
       have H6 := hid h6
       have t7 := hid True.intro
       unfold Nd.val Nd.lie
       clear hb6 b6 h6 hN6 t6)
    | (have _q := t5.out; clear _q; go_at_call 10; refine (F2.out _ U4.out).mono ?_; rintro _ w5 ⟨p5, c5, rfl, hL5, hb5⟩
       have S45 := hid hb5
       have U5 := hid (U4.out.trans (hb5.mono U4.out.size))
       have V5 := hid (V4.out.trans (hb5.mono V4.out.size))
       have L5 := hid hL5
       have t6 := hid True.intro
       clear hb5 hL5 t5)
    | (have _q := t4.out; clear _q; go_at_call 9; refine (G2.out _ V3.out).mono ?_; rintro _ w4 ⟨p4, c4, rfl, hL4, hb4⟩
       have S34 := hid hb4
       have U4 := hid (U3.out.trans (hb4.mono U3.out.size))
       have V4 := hid (V3.out.trans (hb4.mono V3.out.size))
       have L4 := hid hL4
       have t5 := hid True.intro
       clear hb4 hL4 t4)
    | (have _q := t3.out; clear _q; go_at_call 8; refine (F1.out _ U2.out).mono ?_; rintro _ w3 ⟨rfl, hb3⟩
       have b3 := below_1 w3 (.cells x.ops.toArray 29)
       have h3 := heap_alloc_new w3 (.cells x.ops.toArray 29)
       have S23 := hid (hb3.trans (b3.mono hb3.size))
       have U3 := hid (U2.out.trans (S23.out.mono U2.out.size))
       have V3 := hid (V2.out.trans (S23.out.mono V2.out.size))
       have H3 := hid h3
       have t4 := hid True.intro
       clear hb3 b3 h3 t3)
    | (have _q := t0.out; clear _q; go_at_call 7; refine (G1.out _ V1.out).mono ?_; rintro _ w2 ⟨rfl, hb2⟩
       have b2 := below_1 w2 (.cells x.ops.toArray 29)
       have h2 := heap_alloc_new w2 (.cells x.ops.toArray 29)
       have S12 := hid (hb2.trans (b2.mono hb2.size))
       have U2 := hid (U1.out.trans (S12.out.mono U1.out.size))
       have V2 := hid (V1.out.trans (S12.out.mono V1.out.size))
       have H2 := hid h2
       have t3 := hid True.intro
       clear hb2 b2 h2 t0)
    | (go_at_call 6; first
         | (refine (FW.out _ U6.out).mono ?_; rintro _ w1 ⟨rfl, hw1⟩; have hw2 := hw1.symm; clear hw1; subst hw2)
         | (refine (FW.out _ U4.out).mono ?_; rintro _ w1 ⟨rfl, hw1⟩; have hw2 := hw1.symm; clear hw1; subst hw2)
         | (refine (FW.out _ U2.out).mono ?_; rintro _ w1 ⟨rfl, hw1⟩; have hw2 := hw1.symm; clear hw1; subst hw2)))
  have W7e : Hid (Below w6.heap.size w6 (w6.alloc (.cells (X.lie da dc ka kc).cells.toArray 39))) := hid (below_1 w6 _)
  change Code.wp _ _ _ _ (w7.alloc (.cells (X.lie db dd kb kd).cells.toArray 39))
  have T6 := S67
  have T5 := hid (S56.out.trans (T6.out.mono S56.out.size))
  have T4 := hid (S45.out.trans (T5.out.mono S45.out.size))
  have T3 := hid (S34.out.trans (T4.out.mono S34.out.size))
  have T2 := hid (S23.out.trans (T3.out.mono S23.out.size))
  have T1 := hid (S12.out.trans (T2.out.mono S12.out.size))
  have TW := hid (U6.out.trans (T6.out.mono U6.out.size))
  have M2 := hid ((T2.out.block _ (lt_blkR H2.out)).trans H2.out)
  have M3 := hid ((T3.out.block _ (lt_blkR H3.out)).trans H3.out)
  have M6 := hid ((T6.out.block _ (lt_blkR H6.out)).trans H6.out)
  have M7 := H7
  have Q4 := hid (L4.out.later T4.out)
  have Q5 := hid (L5.out.later T5.out)
  have Q6 := hid (N6.out.later T6.out)
  have Q7 := N7
  generalize (w7.alloc (.cells (X.lie db dd kb kd).cells.toArray 39)) = W at *
  clear H2 H3 H6 H7 L4 L5 N6 N7 S12 S23 S34 S45 S56 S67 T6 T5 T4 T3 T2 U2 U3 U4 U5 V1 V2 V3 V4 V5 W7e F1 F2 F3 G1 G2 G3
  have l0 : ∀ w', Below W.heap.size W w' → w'.cell? ⟨w2.heap.size, 0, none⟩ = some (.int .u8 x.k) := fun w' h => cell_later h (cellN M2.out 0 rfl).1
  have l1 : ∀ w', Below W.heap.size W w' → w'.cell? ⟨w2.heap.size, 1, none⟩ = some (.int .u32 x.fid) := fun w' h => cell_later h (cellN M2.out 1 rfl).1
  have l2 : ∀ w', Below W.heap.size W w' → w'.cell? ⟨w2.heap.size, 2, none⟩ = some (.int .u32 x.dir) := fun w' h => cell_later h (cellN M2.out 2 rfl).1
  have l3 : ∀ w', Below W.heap.size W w' → w'.cell? ⟨w2.heap.size, 3, none⟩ = some (.string x.nm) := fun w' h => cell_later h (cellN M2.out 3 rfl).1
  have l4 : ∀ w', Below W.heap.size W w' → w'.cell? ⟨w2.heap.size, 4, none⟩ = some (.int .u32 x.to) := fun w' h => cell_later h (cellN M2.out 4 rfl).1
  have l5 : ∀ w', Below W.heap.size W w' → w'.cell? ⟨w2.heap.size, 5, none⟩ = some (.string x.nm2) := fun w' h => cell_later h (cellN M2.out 5 rfl).1
  have l6 : ∀ w', Below W.heap.size W w' → w'.cell? ⟨w2.heap.size, 6, none⟩ = some (.int .u16 x.md) := fun w' h => cell_later h (cellN M2.out 6 rfl).1
  have l7 : ∀ w', Below W.heap.size W w' → w'.cell? ⟨w2.heap.size, 7, none⟩ = some (.string x.dt) := fun w' h => cell_later h (cellN M2.out 7 rfl).1
  have l8 : ∀ w', Below W.heap.size W w' → w'.cell? ⟨w3.heap.size, 0, none⟩ = some (.int .u8 x.k) := fun w' h => cell_later h (cellN M3.out 0 rfl).1
  have l9 : ∀ w', Below W.heap.size W w' → w'.cell? ⟨w3.heap.size, 1, none⟩ = some (.int .u32 x.fid) := fun w' h => cell_later h (cellN M3.out 1 rfl).1
  have l10 : ∀ w', Below W.heap.size W w' → w'.cell? ⟨w3.heap.size, 2, none⟩ = some (.int .u32 x.dir) := fun w' h => cell_later h (cellN M3.out 2 rfl).1
  have l11 : ∀ w', Below W.heap.size W w' → w'.cell? ⟨w3.heap.size, 3, none⟩ = some (.string x.nm) := fun w' h => cell_later h (cellN M3.out 3 rfl).1
  have l12 : ∀ w', Below W.heap.size W w' → w'.cell? ⟨w3.heap.size, 4, none⟩ = some (.int .u32 x.to) := fun w' h => cell_later h (cellN M3.out 4 rfl).1
  have l13 : ∀ w', Below W.heap.size W w' → w'.cell? ⟨w3.heap.size, 5, none⟩ = some (.string x.nm2) := fun w' h => cell_later h (cellN M3.out 5 rfl).1
  have l14 : ∀ w', Below W.heap.size W w' → w'.cell? ⟨w3.heap.size, 6, none⟩ = some (.int .u16 x.md) := fun w' h => cell_later h (cellN M3.out 6 rfl).1
  have l15 : ∀ w', Below W.heap.size W w' → w'.cell? ⟨w3.heap.size, 7, none⟩ = some (.string x.dt) := fun w' h => cell_later h (cellN M3.out 7 rfl).1
  have l16 : ∀ w', Below W.heap.size W w' → w'.cell? ⟨w6.heap.size, 0, none⟩ = some (.int .u32 X.fid) := fun w' h => cell_later h (cellN M6.out 0 rfl).1
  have l17 : ∀ w', Below W.heap.size W w' → w'.cell? ⟨w6.heap.size, 1, none⟩ = some (.int .u8 X.k) := fun w' h => cell_later h (cellN M6.out 1 rfl).1
  have l18 : ∀ w', Below W.heap.size W w' → w'.cell? ⟨w6.heap.size, 2, none⟩ = some (.int .u16 X.md) := fun w' h => cell_later h (cellN M6.out 2 rfl).1
  have l19 : ∀ w', Below W.heap.size W w' → w'.cell? ⟨w6.heap.size, 3, none⟩ = some (.int .u16 X.ln) := fun w' h => cell_later h (cellN M6.out 3 rfl).1
  have l20 : ∀ w', Below W.heap.size W w' → w'.cell? ⟨w6.heap.size, 4, none⟩ = some (.slice da X.zs.length dc) := fun w' h => cell_later h (cellN M6.out 4 rfl).1
  have l21 : ∀ w', Below W.heap.size W w' → w'.cell? ⟨w6.heap.size, 5, none⟩ = some (.slice ka X.ks.length kc) := fun w' h => cell_later h (cellN M6.out 5 rfl).1
  have l22 : ∀ w', Below W.heap.size W w' → w'.cell? ⟨w7.heap.size, 0, none⟩ = some (.int .u32 X.fid) := fun w' h => cell_later h (cellN M7.out 0 rfl).1
  have l23 : ∀ w', Below W.heap.size W w' → w'.cell? ⟨w7.heap.size, 1, none⟩ = some (.int .u8 X.k) := fun w' h => cell_later h (cellN M7.out 1 rfl).1
  have l24 : ∀ w', Below W.heap.size W w' → w'.cell? ⟨w7.heap.size, 2, none⟩ = some (.int .u16 X.md) := fun w' h => cell_later h (cellN M7.out 2 rfl).1
  have l25 : ∀ w', Below W.heap.size W w' → w'.cell? ⟨w7.heap.size, 3, none⟩ = some (.int .u16 X.ln) := fun w' h => cell_later h (cellN M7.out 3 rfl).1
  have l26 : ∀ w', Below W.heap.size W w' → w'.cell? ⟨w7.heap.size, 4, none⟩ = some (.slice db X.zs.length dd) := fun w' h => cell_later h (cellN M7.out 4 rfl).1
  have l27 : ∀ w', Below W.heap.size W w' → w'.cell? ⟨w7.heap.size, 5, none⟩ = some (.slice kb X.ks.length kd) := fun w' h => cell_later h (cellN M7.out 5 rfl).1
  have cvo : ∀ w', Below W.heap.size W w' → (convert 22 9 (.slice oa n oc)).run Try.prog w' = .ok (.string (Fr.tx R)) w' := fun w' h => CVO.out w' (T1.out.trans (h.mono T1.out.size))
  have cva : ∀ w', Below W.heap.size W w' → (convert 22 9 (.slice a n cap)).run Try.prog w' = .ok (.string (Fr.tx R)) w' := fun w' h => CVA.out w' (TW.out.trans (h.mono TW.out.size))
  have SM := hid (fun w' (h : Below W.heap.size W w') => rsame_c p4 p5 c4 c5 LR LR w' (Q4.out.later h) (Q5.out.later h) LL.out LL.out)
  rw [eqL_t rfl] at SM
  have SN := hid (fun w' (h : Below W.heap.size W w') => sameNode_c X da dc ka kc db dd kb kd w' (Q6.out.later h) (Q7.out.later h) (by have := KL.out; omega))
  unfold Nd.val Nd.lie at SN
  have FE := hid (fun w' (h : Below W.heap.size W w') => FW.out w' (TW.out.trans (h.mono TW.out.size)))
  clear CVO CVA FW T1 U1 U6 M2 M3 M6 M7
  refine wp_region_class (by kernel_rfl) (by kernel_rfl) ?_
  repeat (first
    | go_big_quiet_skip
    | (go_big_quiet_want
       apply quiet_by
       · intro w1 hw1
         go_simp
         first
           | rfl
           | (go_at_call 13; exact class_of hw1 (LC.out _))
           | (go_at_call 14; exact class_of hw1 (SM.out _ hw1))
           | (go_at_call 15; exact class_of hw1 (SN.out _ hw1))
           | (go_at_call 6; exact class_same hw1 (FE.out _ hw1))
       · go_simp; rfl
       go_big_quiet_on))
  refine wpQuiet_nil ?_
  intro w9 hw9
  go_wp2
  go_ret
  exact ⟨rfl, TW.out.trans (hw9.mono TW.out.size)⟩
/-! ### The row of RecordReads -/
theorem recordReads_own : ownKnob Try.prog.godebug = none := by kernel_rfl
theorem recordReads_laidOut : laidOutB Try.prog = true := by kernel_rfl
set_option maxRecDepth 100000 in
theorem recordReads_lifted (os : Os) (started : os.Started) (H : Type) (enc : TypeId × Value → H) :
    ReturnsInHanded {} Try.checked os 3 .any (Rows.recordReadsSpec.pre6 enc Try.prog Try.f3 Rows.recordReadsRow.domain false) (Rows.recordReadsSpec.post enc Try.prog Try.f3 false true false false) := by
  refine returnsInHanded_of_change (C := Try.checked) recordReads_own started (by kernel_rfl) Try.func3
    (ChangeSpec.witness6 (enc := enc) (C := Try.checked) false ⟨#[], #[.slice none 0 0], []⟩ 8 (by kernel_rfl) (by kernel_rfl) (by kernel_rfl) (by kernel_rfl)) ?_
  intro W base args ds gs before hval0 hW hcnd _
  have hval : ∀ (j : Nat) t v, Try.f3.params[j]? = some t → args[j]? = some v → Value.okWide Try.prog W .any base t v := hval0
  have hW' := hW
  obtain ⟨p, q, hA0, hV, rfl, hfz, hnd⟩ := hW
  have hA : DataW.TrodAll enc Try.prog W 0 (fun _ => true) true Try.f3.params.toList args.toList ds p := hA0
  rw [Try.params3] at hA hval
  obtain ⟨v0, vs0, d0, ds0, p0, q0, hargs, rfl, rfl, h0, r0⟩ := trodAll_cons hA
  obtain ⟨rfl, rfl, rfl⟩ := trodAll_nil r0
  obtain rfl : args = #[v0] := by cases args; simp_all
  obtain ⟨rfl, rfl⟩ := trodVars_none hV
  have k0 := h0
  have lt0 : ∀ x ∈ p0, x.block < W.heap.size := by obtain ⟨m, hm⟩ := k0; exact DataW.trod_lt m _ _ _ hm
  obtain ⟨a0, len0, cap0, rfl⟩ := okWide_slice Try.underlying22 (hval 0 22 v0 rfl rfl)
  obtain ⟨z0, w0, lc0⟩ := isB_of Try.underlying22 Try.underlying5 (by kernel_rfl) h0
  clear hA0 hval0
  refine (recordReads_walk a0 len0 cap0 z0 lc0 (isB_cap Try.underlying22 Try.underlying5 (by kernel_rfl) h0) W w0).mono fun e W' ⟨he, bel⟩ => ?_
  subst he
  exact ⟨_, rfl, _, _, _, [], _, [], hW', trodAll_mk1 (shut_bool Try.underlying4 _), (trodAll_cons_mk (Below.trod recordReads_laidOut (by kernel_rfl) (of_decide_eq_true (by kernel_rfl)) k0 bel lt0) trodAll_mk0), rfl, bel.frame _, fun h => by cases h⟩
theorem recordReads_over : Rows.recordReadsRow.holds Try.pinned (OpenSpec.ofChange Rows.recordReadsSpec) :=
  OpenClaim.holds_of_wide 3 Try.f3 rfl rfl rfl rfl rfl rfl rfl ⟨rfl, rfl, rfl, rfl, rfl⟩ rfl rfl rfl rfl rfl (by kernel_rfl) Try.func3 (by kernel_rfl)
    (of_decide_eq_true (by kernel_rfl)) (by unfold Func.isWrapper; first | (rw [if_pos (by decide +kernel)]; kernel_rfl) | (rw [if_neg (by decide +kernel)]; exact ⟨rfl, rfl⟩))
    (fun os started H enc _ => recordReads_lifted os started H enc)
/-- The statement. -/
theorem recordReads_holds : Rows.RecordReadsSaid := recordReads_over
#print axioms recordReads_holds

end Go.Proofs.Ytbgninmkglgfeaa
