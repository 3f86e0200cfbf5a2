/-
  A snapshot out of its bytes: takeSnapshot, takeAll, read, ReadSnapshot of the package record.
-/
import Derived.Test.YtbgninmkglgfeaaSR2
namespace Go.Proofs.Ytbgninmkglgfeaa
open Go.RowKit Go.ChangeShapes Go.WideShapes Go.ChangeAt Go.Maps Go.Shelf
set_option linter.unusedVariables false
set_option linter.unusedSimpArgs false
/-- A snapshot that the call owns. -/
def SnOwn (w : World) (base : Nat) (a : Option Addr) (ca : Nat) (L : List Nd) (b : Option Addr) (cb : Nat) (ss : List St) : Prop :=
  NsOwn w base (.slice a L.length ca) L ∧ w.ownsRow base 85 3 (.slice b ss.length cb) ss.length (scells ss) ∧ (∀ x ∈ ss, x.Wf) ∧ L.length ≤ 40 ∧ ss.length ≤ 40
section
variable {w w' : World} {base r : Nat} {a b : Option Addr} {ca cb : Nat} {L : List Nd} {ss : List St}
theorem SnOwn.later (h : SnOwn w base a ca L b cb ss) (hb : Below w.heap.size w w') : SnOwn w' base a ca L b cb ss := ⟨h.1.later hb, own_latR h.2.1 hb, h.2.2⟩
theorem SnOwn.low (h : SnOwn w base a ca L b cb ss) {b' : Nat} (hb : b' ≤ base) : SnOwn w b' a ca L b cb ss := ⟨h.1.low hb, own_low h.2.1 hb, h.2.2⟩
theorem SnOwn.set (h : SnOwn w base a ca L b cb ss) {p : Addr} (hp : p.block < base) (u : Value) : SnOwn (w.setCell p u) base a ca L b cb ss := ⟨h.1.set hp u, own_set h.2.1 hp u, h.2.2⟩
theorem SnOwn.ns (h : SnOwn w base a ca L b cb ss) : IsNs w a L := by
  obtain ⟨p, c, e, hI⟩ := h.1.is (by have := h.2.2.2.1; omega)
  simp only [Value.slice.injEq] at e
  rw [e.1]; exact hI
theorem SnOwn.st (h : SnOwn w base a ca L b cb ss) : IsSs w b ss := by
  obtain ⟨p, c, e, hI⟩ := isSs_own h.2.1 h.2.2.1 (by have := h.2.2.2.2; omega)
  simp only [Value.slice.injEq] at e
  rw [e.1]; exact hI
end
def snV (a : Option Addr) (n ca : Nat) (b : Option Addr) (m cb : Nat) : Value := .agg #[.slice a n ca, .slice b m cb]
def snNo : Value := .agg #[.slice none 0 0, .slice none 0 0]
def snC0 : Array Value := #[.slice none 0 0, .slice none 0 0]
theorem sn_cells {W : World} {g : Nat} {u v : Value} {t : TypeId} {fr : Nat × Nat} (h : W.heap[g]? = some (.cells #[u, v] t fr)) : W.cell? ⟨g, 0, none⟩ = some u ∧ W.cell? ⟨g, 1, none⟩ = some v := by
  constructor
  · rw [cell_of_row W g _ _ _ _ h]; rfl
  · rw [cell_of_row W g _ _ _ _ h]; rfl
theorem takesM_none {w w' : World} {r : Nat} {e : Ending} (h : TakesM w r none e w') : Kr r w w' ∧ e = PN := h
theorem takesM_some {w w' : World} {r : Nat} {l : List Nd} {t : List Int} {e : Ending} (h : TakesM w r (some (l, t)) e w') : Kr r w w' ∧ (∃ v L, e = .returned v ∧ L.map Nd.er = l.map Nd.er ∧ NsOwn w' w.heap.size v L) ∧ ∃ a c, Rdr w' r a c t := h
theorem takesS_none {w w' : World} {r : Nat} {e : Ending} (h : TakesS w r none e w') : Kr r w w' ∧ e = PN := h
theorem takesS_some {w w' : World} {r : Nat} {l : List St} {t : List Int} {e : Ending} (h : TakesS w r (some (l, t)) e w') : Kr r w w' ∧ (∃ v, e = .returned v ∧ w'.ownsRow w.heap.size 85 3 v l.length (scells l)) ∧ ∃ a c, Rdr w' r a c t := h
def TakesZ (w : World) (r : Nat) (zs : List Int) (e : Ending) (w' : World) : Prop := Kr r w w' ∧
  ((∃ ns ss rest, snapP zs = some ((ns, ss), rest) ∧ RSnap ns ss ∧ (∃ a ca b cb L, e = .returned (snV a L.length ca b ss.length cb) ∧ L.map Nd.er = ns.map Nd.er ∧ SnOwn w' w.heap.size a ca L b cb ss) ∧ ∃ a c, Rdr w' r a c rest)
  ∨ ((∀ ns ss rest, snapP zs = some ((ns, ss), rest) → ¬ RSnap ns ss) ∧ e = PN))
set_option maxRecDepth 20000 in
set_option maxHeartbeats 2000000 in
theorem takeSnapshot_c {r : Nat} {a : Option Addr} {c : Nat} {zs : List Int} {w : World} (h : Rdr w r a c zs) :
    Calls Try.prog 43 #[.pointer (some ⟨r, 0, none⟩)] w (TakesZ w r zs) := by
  have hr0 := lt_blkR h.1
  have b0 := below_1 w (.cells snC0 49)
  have hB0 := heap_alloc_new w (.cells snC0 49)
  have hin := rdr_in h
  have MC := hid (takeListM_c (rdr_later h b0))
  have K0 : Hid (Kr r w (w.alloc (.cells snC0 49))) := hid (Kr.of b0)
  have M0 : Hid (Kr r (w.alloc (.cells snC0 49)) (w.alloc (.cells snC0 49))) := hid (Kr.refl _ _)
  have HB0 := hid hB0
  have BK := hid (fun ns ss t (e : snapP zs = some ((ns, ss), t)) => snapP_back hin e)
  have SP : Hid (snapP zs = snapP zs) := hid rfl
  clear h b0 hB0 hin
  unfold snC0 at *
  rcases h0 : measuresP zs with _ | ⟨ns, t⟩
  · rw [h0] at MC
    have NN : Hid (∀ ns ss rest, snapP zs = some ((ns, ss), rest) → ¬ RSnap ns ss) := hid (fun ns ss rest e => by unfold snapP at e; rw [h0] at e; cases e)
    clear BK SP
    go_enter Try.func43, Try.ntmps43
    go_wp2_with (go_at_call 85; refine MC.out.mono ?_; intro e9 w9 h9; obtain ⟨hk9, rfl⟩ := takesM_none h9)
    exact ⟨rfl, K0.out.trans hk9, .inr ⟨NN.out, rfl⟩⟩
  · rw [h0] at MC
    rcases h1 : stampsP t with _ | ⟨ss, rest⟩
    · have NN : Hid (∀ ns ss rest, snapP zs = some ((ns, ss), rest) → ¬ RSnap ns ss) := hid (fun ns ss rest e => by unfold snapP at e; rw [h0] at e; simp only [h1] at e; cases e)
      clear BK SP
      go_enter Try.func43, Try.ntmps43
      go_wp2_with (first
        | (go_at_call 87; refine SC.out.mono ?_; intro e9 w9 h9; obtain ⟨hk9, rfl⟩ := takesS_none h9)
        | (go_at_call 85; refine MC.out.mono ?_; intro e8 w1 h8; obtain ⟨hk8, ⟨v8, L, rfl, hL8, hO8⟩, a1, c1, hR1⟩ := takesM_some h8
           have K1 := hid (K0.out.trans hk8)
           have SC := hid (takeListS_c hR1)
           rw [h1] at SC
           obtain ⟨va, vc, rfl⟩ := own_shapeR hO8.1
           clear h8 hk8 hR1 hO8))
      exact ⟨rfl, K1.out.trans hk9, .inr ⟨NN.out, rfl⟩⟩
    · have SP2 : Hid (snapP zs = some ((ns, ss), rest)) := hid (by unfold snapP; rw [h0]; simp only [h1])
      obtain ⟨ez, bn, bs, _, bw⟩ := BK.out _ _ _ SP2.out
      clear ez
      have BN := hid bn
      have BS := hid bs
      have BW := hid bw
      clear BK SP bn bs bw
      by_cases qr : RSnap ns ss
      · have QR := hid qr
        clear qr
        go_enter Try.func43, Try.ntmps43
        go_wp2_with (first
          | (go_at_call 54; refine (refuse_f _).mono ?_; rintro _ wf ⟨rfl, hwf⟩; have hwf2 := hwf.symm; clear hwf; subst hwf2)
          | (go_at_call 36; refine RC.out.mono ?_; rintro _ w10 ⟨rfl, hb10⟩
             have B10 := hid (B6.out.trans (hb10.mono B6.out.size))
             have K10 := hid (K6.out.trans (Kr.of B10.out))
             have HR10 := hid (rdr_later HR6.out B10.out)
             have HX10 := hid ((hb10.block _ (lt_blkR HX6.out)).trans HX6.out)
             have HB10 := hid ((B10.out.block _ (lt_blkR HB6.out)).trans HB6.out)
             have NO10 := hid (NO6.out.later B10.out)
             obtain ⟨p0, p1⟩ := sn_cells HX10.out
             obtain ⟨q0, q1⟩ := sn_cells HB10.out
             have fz : ∀ i, w10.frozen? ⟨w.heap.size, i, none⟩ = false := fun i => by simp [World.frozen?, HB10.out]
             clear hb10)
          | (go_at_call 87; refine SC.out.mono ?_; intro e9 w6 h9; obtain ⟨hk9, ⟨v9, rfl, hO9⟩, a6, c6, hR6⟩ := takesS_some h9
             have K6 := hid (K1.out.trans hk9)
             have M6 := hid (M1.out.trans hk9)
             have HR6 := hid hR6
             obtain ⟨vb, vd, rfl⟩ := own_shapeR hO9
             have NO6 : Hid (SnOwn w6 (w.heap.size + 1) va vc L vb vd ss) := hid ⟨O1.out.kr hk9 (by omega), own_low hO9 (by have := M1.out.size; simp at this; omega), BW.out, by have := congrArg List.length HL.out; simp at this; rw [this]; exact BN.out, BS.out⟩
             have HB6 := hid ((M6.out.block w.heap.size (by simp) (by omega)).trans HB0.out)
             have HX6 := hid (heap_alloc_new w6 (.cells #[.slice va L.length vc, .slice vb ss.length vd] 49))
             have B6 := hid (below_1 w6 (.cells #[.slice va L.length vc, .slice vb ss.length vd] 49))
             have NO7 := hid (NO6.out.later B6.out)
             have QL : Hid (RSnap L ss) := hid (by rw [← rsnap_er, HL.out, rsnap_er]; exact QR.out)
             have RC := hid ((rightSnapshot_c va vb vc vd L ss _ NO7.out.ns NO7.out.st (by have := NO7.out.2.2.2.1; omega) (by have := BS.out; omega)).mono (fun e9 w9 (h9 : RsP2 L ss _ e9 w9) => show e9 = .returned (.bool true) ∧ Below _ _ w9 from by obtain ⟨bb, rfl, hb1, hb2⟩ := h9; rw [hb1.2 QL.out]; exact ⟨rfl, hb2⟩))
             obtain ⟨p0, p1⟩ := sn_cells HX6.out
             clear h9 hk9 hR6 hO9)
          | (go_at_call 85; refine MC.out.mono ?_; intro e8 w1 h8; obtain ⟨hk8, ⟨v8, L, rfl, hL8, hO8⟩, a1, c1, hR1⟩ := takesM_some h8
             have K1 := hid (K0.out.trans hk8)
             have M1 := hid (M0.out.trans hk8)
             have SC := hid (takeListS_c hR1)
             rw [h1] at SC
             obtain ⟨va, vc, rfl⟩ := own_shapeR hO8.1
             have HL := hid hL8
             have O1 := hid (hO8.low (b := w.heap.size + 1) (by simp))
             clear h8 hk8 hR1 hO8 hL8))
        have LT : w.heap.size < w.heap.size + 1 := Nat.lt_succ_self _
        refine bodyPost_ret (v := snV va L.length vc vb ss.length vd) (by simp [results, Try.results43, go_sem, snV, q0, q1]) rfl ⟨((K10.out.new (Nat.le_refl _) 0 _).new (Nat.le_refl _) 1 _), .inl ⟨ns, ss, rest, SP2.out, QR.out, ⟨va, vc, vb, vd, L, rfl, HL.out, ?_⟩, _, _, (rdr_new (rdr_new HR10.out hr0 0 _) hr0 1 _)⟩⟩
        exact ((NO10.out.set LT _).set LT _).low (Nat.le_succ _)
      · have NN : Hid (∀ ns ss rest, snapP zs = some ((ns, ss), rest) → ¬ RSnap ns ss) := hid (fun ns' ss' rest' e => by rw [SP2.out] at e; simp only [Option.some.injEq, Prod.mk.injEq] at e; obtain ⟨⟨rfl, rfl⟩, _⟩ := e; exact qr)
        have QR := hid qr
        clear qr
        go_enter Try.func43, Try.ntmps43
        go_wp2_with (first
          | (go_at_call 54; refine (refuse_t _).mono ?_; rintro _ wf ⟨rfl, hwf⟩; have hwf2 := hwf.symm; clear hwf; subst hwf2)
          | (go_at_call 36; refine RC.out.mono ?_; rintro _ w10 ⟨rfl, hb10⟩
             have B10 := hid (B6.out.trans (hb10.mono B6.out.size))
             have K10 := hid (K6.out.trans (Kr.of B10.out))
             clear hb10)
          | (go_at_call 87; refine SC.out.mono ?_; intro e9 w6 h9; obtain ⟨hk9, ⟨v9, rfl, hO9⟩, a6, c6, hR6⟩ := takesS_some h9
             have K6 := hid (K1.out.trans hk9)
             have M6 := hid (M1.out.trans hk9)
             obtain ⟨vb, vd, rfl⟩ := own_shapeR hO9
             have NO6 : Hid (SnOwn w6 (w.heap.size + 1) va vc L vb vd ss) := hid ⟨O1.out.kr hk9 (by omega), own_low hO9 (by have := M1.out.size; simp at this; omega), BW.out, by have := congrArg List.length HL.out; simp at this; rw [this]; exact BN.out, BS.out⟩
             have HX6 := hid (heap_alloc_new w6 (.cells #[.slice va L.length vc, .slice vb ss.length vd] 49))
             have B6 := hid (below_1 w6 (.cells #[.slice va L.length vc, .slice vb ss.length vd] 49))
             have NO7 := hid (NO6.out.later B6.out)
             have QL : Hid (¬ RSnap L ss) := hid (by rw [← rsnap_er, HL.out, rsnap_er]; exact QR.out)
             have RC := hid ((rightSnapshot_c va vb vc vd L ss _ NO7.out.ns NO7.out.st (by have := NO7.out.2.2.2.1; omega) (by have := BS.out; omega)).mono (fun e9 w9 (h9 : RsP2 L ss _ e9 w9) => show e9 = .returned (.bool false) ∧ Below _ _ w9 from by obtain ⟨bb, rfl, hb1, hb2⟩ := h9; rw [show bb = false by cases hbb : bb with | false => rfl | true => exact absurd (hb1.1 hbb) QL.out]; exact ⟨rfl, hb2⟩))
             obtain ⟨p0, p1⟩ := sn_cells HX6.out
             clear h9 hk9 hR6 hO9)
          | (go_at_call 85; refine MC.out.mono ?_; intro e8 w1 h8; obtain ⟨hk8, ⟨v8, L, rfl, hL8, hO8⟩, a1, c1, hR1⟩ := takesM_some h8
             have K1 := hid (K0.out.trans hk8)
             have M1 := hid (M0.out.trans hk8)
             have SC := hid (takeListS_c hR1)
             rw [h1] at SC
             obtain ⟨va, vc, rfl⟩ := own_shapeR hO8.1
             have HL := hid hL8
             have O1 := hid (hO8.low (b := w.heap.size + 1) (by simp))
             clear h8 hk8 hR1 hO8 hL8))
        exact ⟨rfl, K10.out, .inr ⟨NN.out, rfl⟩⟩
/-- What all of bytes say, as a snapshot. -/
def GoodZ (zs : List Int) (ns : List Nd) (ss : List St) : Prop := snapP zs = some ((ns, ss), []) ∧ RSnap ns ss
def AllZ (w : World) (zs : List Int) (e : Ending) (w' : World) : Prop := Below w.heap.size w w' ∧
  ((∃ ns ss, GoodZ zs ns ss ∧ ∃ a ca b cb L, e = .returned (snV a L.length ca b ss.length cb) ∧ L.map Nd.er = ns.map Nd.er ∧ SnOwn w' w.heap.size a ca L b cb ss)
  ∨ ((∀ ns ss, ¬ GoodZ zs ns ss) ∧ e = PN))
set_option maxRecDepth 20000 in
set_option maxHeartbeats 2000000 in
theorem takeAllZ_c (a : Option Addr) (n c : Nat) (zs : List Int) (w : World) (h : IsB w a n zs) (hc : n ≤ c) (hl : Lies w a c) :
    Calls Try.prog 84 #[.slice a n c, .func (.func 43) #[] #[]] w (AllZ w zs) := by
  have b0 := below_1 w (.cells #[.slice none 0 0, .slice none 0 0] 49)
  have hB0 := heap_alloc_new w (.cells #[.slice none 0 0, .slice none 0 0] 49)
  have s0 : (w.alloc (.cells #[.slice none 0 0, .slice none 0 0] 49)).heap.size = w.heap.size + 1 := by simp
  have b1 := below_1 (w.alloc (.cells #[.slice none 0 0, .slice none 0 0] 49)) (.cells #[.slice a n c] 134)
  have hr1 := heap_alloc_new (w.alloc (.cells #[.slice none 0 0, .slice none 0 0] 49)) (.cells #[.slice a n c] 134)
  rw [s0] at hr1
  have hB1 := (b1.block _ (lt_blkR hB0)).trans hB0
  have B1 := hid (b0.trans (b1.mono b0.size))
  have hn := h.1
  subst hn
  have hR : Rdr ((w.alloc (.cells #[.slice none 0 0, .slice none 0 0] 49)).alloc (.cells #[.slice a zs.length c] 134)) (w.heap.size + 1) a c zs := ⟨hr1, (h.later b0).later b1, hc, by
    rcases hl with hl | ⟨b, off, e, hb⟩
    · exact .inl hl
    · exact .inr ⟨b, off, e, by omega⟩⟩
  have TC := hid (takeSnapshot_c hR)
  have s1 : ((w.alloc (.cells #[.slice none 0 0, .slice none 0 0] 49)).alloc (.cells #[.slice a zs.length c] 134)).heap.size = w.heap.size + 2 := by simp
  have HB1 := hid hB1
  have S1 := hid s1
  clear h hl b0 b1 hB0 hB1 hr1 hR s0 s1
  by_cases qg : ∃ ns ss rest, snapP zs = some ((ns, ss), rest) ∧ RSnap ns ss
  · obtain ⟨ns, ss, rest, hsp, hrs⟩ := qg
    have GG := hid hsp
    have GR := hid hrs
    have TC2 := hid (TC.out.mono (fun e9 w9 (h9 : TakesZ _ _ zs e9 w9) => show Kr (w.heap.size + 1) _ w9 ∧ (∃ a ca b cb L, e9 = .returned (snV a L.length ca b ss.length cb) ∧ L.map Nd.er = ns.map Nd.er ∧ SnOwn w9 (w.heap.size + 2) a ca L b cb ss) ∧ ∃ a c, Rdr w9 (w.heap.size + 1) a c rest from by
      obtain ⟨hk, ⟨ns', ss', rest', e1, e2, ⟨a', ca', b', cb', L', e3, e4, e5⟩, e6⟩ | ⟨e1, e2⟩⟩ := h9
      · rw [hsp] at e1
        simp only [Option.some.injEq, Prod.mk.injEq] at e1
        obtain ⟨⟨rfl, rfl⟩, rfl⟩ := e1
        rw [S1.out] at e5
        exact ⟨hk, ⟨a', ca', b', cb', L', e3, e4, e5⟩, e6⟩
      · exact absurd hrs (e1 _ _ _ hsp)))
    clear TC hsp hrs
    rcases rest with _ | ⟨q, qs⟩
    · go_enter Try.func84, Try.ntmps84
      go_wp2_with (first
        | (go_at_call 54; refine (refuse_f _).mono ?_; rintro _ wf ⟨rfl, hwf⟩; have hwf2 := hwf.symm; clear hwf; subst hwf2)
        | (go_at_call 43; refine TC2.out.mono ?_; rintro _ w9 ⟨hk9, ⟨va, vc, vb, vd, L, rfl, hL9, hO9⟩, a9, c9, hR9⟩
           have b9 := below_1 w9 (.cells #[.slice va L.length vc, .slice vb ss.length vd] 49)
           have hR10 := (rdr_later hR9 b9).cell.1
           have hX10 := heap_alloc_new w9 (.cells #[.slice va L.length vc, .slice vb ss.length vd] 49)
           have hB9 := (hk9.block w.heap.size (by rw [S1.out]; omega) (by omega)).trans HB1.out
           have hB10 := (b9.block _ (lt_blkR hB9)).trans hB9
           obtain ⟨p0, p1⟩ := sn_cells hX10
           obtain ⟨q0, q1⟩ := sn_cells hB10
           have fz : ∀ i, (w9.alloc (.cells #[.slice va L.length vc, .slice vb ss.length vd] 49)).frozen? ⟨w.heap.size, i, none⟩ = false := fun i => by simp [World.frozen?, hB10]
           have K9 := hid (B1.out.trans (hk9.below (by rw [S1.out]; omega) (by omega)))
           have O9 := hid ((hO9.later b9).low (b' := w.heap.size + 1) (by omega))
           have HL9 := hid hL9
           unfold snV
           simp only [List.length_nil] at hR10
           clear hX10 hB9 hB10 b9 hR9 hk9 hO9 hL9))
      refine bodyPost_ret (v := snV va L.length vc vb ss.length vd) (by simp [results, Try.results84, go_sem, snV, q0, q1]) rfl ⟨((K9.out.alloc K9.out.size _).setCell (Nat.le_refl _) _).setCell (Nat.le_refl _) _, .inl ⟨ns, ss, ⟨GG.out, GR.out⟩, va, vc, vb, vd, L, rfl, HL9.out, ?_⟩⟩
      exact ((O9.out.set (Nat.lt_succ_self _) _).set (Nat.lt_succ_self _) _).low (Nat.le_succ _)
    · have NG : Hid (∀ ns ss, ¬ GoodZ zs ns ss) := hid (fun ns' ss' hg => by have e := hg.1; rw [GG.out] at e; simp at e)
      have hqq : 0 < (q :: qs).length := by simp
      obtain ⟨qn, hqn⟩ : ∃ qn, qn = (q :: qs).length := ⟨_, rfl⟩
      have HQN := hid hqn
      rw [← hqn] at hqq
      have hqd : decide (0 < qn) = true := decide_eq_true hqq
      have hqI : (0 : Int) < (qn : Int) := by omega
      clear hqn
      go_enter Try.func84, Try.ntmps84
      go_wp2_with (first
        | (go_at_call 54; refine (refuse_t _).mono ?_; rintro _ wf ⟨rfl, hwf⟩; have hwf2 := hwf.symm; clear hwf; subst hwf2)
        | (go_at_call 43; refine TC2.out.mono ?_; rintro _ w9 ⟨hk9, ⟨va, vc, vb, vd, L, rfl, hL9, hO9⟩, a9, c9, hR9⟩
           have b9 := below_1 w9 (.cells #[.slice va L.length vc, .slice vb ss.length vd] 49)
           have hR10 := (rdr_later hR9 b9).cell.1
           rw [← HQN.out] at hR10
           have K9 := hid (B1.out.trans (hk9.below (by rw [S1.out]; omega) (by omega)))
           unfold snV
           clear b9 hR9 hk9 hO9 hL9))
      exact ⟨rfl, K9.out.alloc K9.out.size _, .inr ⟨NG.out, rfl⟩⟩
  · have NG : Hid (∀ ns ss, ¬ GoodZ zs ns ss) := hid (fun ns ss hg => qg ⟨ns, ss, [], hg.1, hg.2⟩)
    have TC2 := hid (TC.out.mono (fun e9 w9 (h9 : TakesZ _ _ zs e9 w9) => show Kr (w.heap.size + 1) _ w9 ∧ e9 = PN from by
      obtain ⟨hk, ⟨ns', ss', rest', e1, e2, _⟩ | ⟨e1, e2⟩⟩ := h9
      · exact absurd ⟨_, _, _, e1, e2⟩ qg
      · exact ⟨hk, e2⟩))
    clear TC qg
    go_enter Try.func84, Try.ntmps84
    go_wp2_with (go_at_call 43; refine TC2.out.mono ?_; rintro _ w9 ⟨hk9, rfl⟩)
    exact ⟨rfl, B1.out.trans (hk9.below (by rw [S1.out]; omega) (by omega)), .inr ⟨NG.out, rfl⟩⟩
set_option maxHeartbeats 2000000 in
theorem catchZ_idle (p : Addr) (w : World) :
    CallsD Try.prog 83 #[.pointer (some p)] .returning w fun e u' w' => e = .returned (.tuple #[]) ∧ u' = .returning ∧ w' = w := by
  refine callsD_of_wpS Try.func83 rfl fun c₀ cs hu => ?_
  apply wpS_seq
  apply wpS_region
  simp [wpOpsS, go_sem, recoverD, hu, Try.ntmps83, Exit.thenS]
  refine wpS_of_wp ?_
  go_wp2
  cases c₀
  simp_all [bodyPostS, results, Try.results83]
set_option maxHeartbeats 2000000 in
theorem catchZ_panicking (p : Addr) (x : Int) (older : List PanicEntry) (w : World) (hc : w.cell? p = some (.int .i64 x)) (hz : w.frozen? p = false) (hp : p.block < w.heap.size) :
    CallsD Try.prog 83 #[.pointer (some p)] (.panicking ({ v := .iface 93 (.agg #[.int .i64 3]), recovered := false } :: older)) w fun e u' w' =>
      e = .returned (.tuple #[]) ∧ u' = .panicking ({ v := .iface 93 (.agg #[.int .i64 3]), recovered := true } :: older) ∧ w' = (w.alloc (.cells #[.int .i64 3] 93)).setCell p (.int .i64 3) := by
  refine callsD_of_wpS Try.func83 rfl fun c₀ cs hu => ?_
  apply wpS_seq
  apply wpS_region
  simp [wpOpsS, go_sem, recoverD, hu, Try.ntmps83, Exit.thenS]
  refine wpS_of_wp ?_
  have hta : ∀ W : World, (Instr.typeAssert (.iface 93 (.agg #[.int .i64 3])) 20 93 true).run Try.prog W = .ok (.tuple #[.agg #[.int .i64 3], .bool true]) W := fun W => by
    simp [Instr.typeAssert, go_sem, Try.underlying93]
  have hne : p.block ≠ w.heap.size := by omega
  have hc2 : (w.alloc (.cells #[.int .i64 3] 93)).cell? p = some (.int .i64 x) := cell_later (below_1 w _) hc
  have hz2 : (w.alloc (.cells #[.int .i64 3] 93)).frozen? p = false := by rw [World.frozen?_of_block ((below_1 w (.cells #[.int .i64 3] 93)).block p.block hp)]; exact hz
  go_wp2
  simp [bodyPostS, results, Try.results83]
def ReadsZ (w : World) (zs : List Int) (e : Ending) (w' : World) : Prop := Below w.heap.size w w' ∧
  ((∃ ns ss, GoodZ zs ns ss ∧ ∃ a ca b cb L, e = .returned (.tuple #[snV a L.length ca b ss.length cb, .int .i64 0]) ∧ L.map Nd.er = ns.map Nd.er ∧ SnOwn w' w.heap.size a ca L b cb ss)
  ∨ ((∀ ns ss, ¬ GoodZ zs ns ss) ∧ e = .returned (.tuple #[snNo, .int .i64 3])))
set_option maxRecDepth 20000 in
set_option maxHeartbeats 2000000 in
theorem readZ1_c (a : Option Addr) (n c : Nat) (zs : List Int) (w : World) (h : IsB w a n zs) (hc : n ≤ c) (hl : Lies w a c) :
    Calls Try.prog 42 #[.slice a n c, .func (.func 43) #[] #[]] w (ReadsZ w zs) := by
  have hmf : ∀ (fn : Fn) (first cap : Array Value) (w : World), (Instr.makeFunc fn first cap).run Try.prog w = .ok (.func fn first cap) w := fun _ _ _ _ => rfl
  have b0 := below_1 w (.cells #[.slice none 0 0, .slice none 0 0] 49)
  have hB0 := heap_alloc_new w (.cells #[.slice none 0 0, .slice none 0 0] 49)
  have s0 : (w.alloc (.cells #[.slice none 0 0, .slice none 0 0] 49)).heap.size = w.heap.size + 1 := by simp
  have b1 := below_1 (w.alloc (.cells #[.slice none 0 0, .slice none 0 0] 49)) (.cells #[.int .i64 0] 30)
  have hE1 := heap_alloc_new (w.alloc (.cells #[.slice none 0 0, .slice none 0 0] 49)) (.cells #[.int .i64 0] 30)
  rw [s0] at hE1
  have s1 : ((w.alloc (.cells #[.slice none 0 0, .slice none 0 0] 49)).alloc (.cells #[.int .i64 0] 30)).heap.size = w.heap.size + 2 := by simp
  have hB1 := (b1.block _ (lt_blkR hB0)).trans hB0
  have B1 := hid (b0.trans (b1.mono b0.size))
  have TC := hid (takeAllZ_c a n c zs _ ((h.later b0).later b1) hc (by
    rcases hl with hl | ⟨b, off, e, hb⟩
    · exact .inl hl
    · exact .inr ⟨b, off, e, by simp; omega⟩))
  have HB1 := hid hB1
  have HE1 := hid hE1
  have S1 := hid s1
  clear h hl b0 b1 hB0 hB1 hE1 s0 s1
  by_cases qg : ∃ ns ss, GoodZ zs ns ss
  · obtain ⟨ns, ss, hg⟩ := qg
    have GG := hid hg
    have TC2 := hid (TC.out.mono (fun e9 w9 (h9 : AllZ _ zs e9 w9) => show Below (w.heap.size + 2) _ w9 ∧ ∃ a ca b cb L, e9 = .returned (snV a L.length ca b ss.length cb) ∧ L.map Nd.er = ns.map Nd.er ∧ SnOwn w9 (w.heap.size + 2) a ca L b cb ss from by
      obtain ⟨hk, ⟨ns', ss', e1, a', ca', b', cb', L', e3, e4, e5⟩ | ⟨e1, e2⟩⟩ := h9
      · have e6 := e1.1
        rw [hg.1] at e6
        simp only [Option.some.injEq, Prod.mk.injEq] at e6
        obtain ⟨⟨rfl, rfl⟩, _⟩ := e6
        rw [S1.out] at e5 hk
        exact ⟨hk, a', ca', b', cb', L', e3, e4, e5⟩
      · exact absurd hg (e1 _ _)))
    clear TC hg
    go_enter_defers Try.func42, Try.ntmps42
    go_wp2_with (go_at_call 84; refine TC2.out.mono ?_; rintro _ w2 ⟨hb2, va, vc, vb, vd, L, rfl, hL2, hO2⟩
                 have hB2 := (hb2.block w.heap.size (by omega)).trans HB1.out
                 have hE2 := (hb2.block (w.heap.size + 1) (by omega)).trans HE1.out
                 obtain ⟨q0, q1⟩ := sn_cells hB2
                 have fz : ∀ i, w2.frozen? ⟨w.heap.size, i, none⟩ = false := fun i => by simp [World.frozen?, hB2]
                 have fe : w2.frozen? ⟨w.heap.size + 1, 0, none⟩ = false := by simp [World.frozen?, hE2]
                 have ce : w2.cell? ⟨w.heap.size + 1, 0, none⟩ = some (.int .i64 0) := by rw [cell_of_row _ _ _ _ _ _ hE2]; rfl
                 have O2 := hid hO2
                 have HL2 := hid hL2
                 have BB2 := hid (B1.out.trans (hb2.mono (by omega)))
                 unfold snV
                 clear hO2 hb2 hL2)
    refine leaves_cons (f := 83) (args := #[.pointer (some ⟨w.heap.size + 1, 0, none⟩)]) (by simp) (by simp [go_sem]) ?_
    refine (catchZ_idle ⟨w.heap.size + 1, 0, none⟩ _).mono ?_
    rintro e u' w'' ⟨rfl, rfl, rfl⟩
    have FIN : Below w.heap.size w (((w2.setCell ⟨w.heap.size, 0, none⟩ (.slice va L.length vc)).setCell ⟨w.heap.size, 1, none⟩ (.slice vb ss.length vd)).setCell ⟨w.heap.size + 1, 0, none⟩ (.int .i64 0)) ∧ SnOwn (((w2.setCell ⟨w.heap.size, 0, none⟩ (.slice va L.length vc)).setCell ⟨w.heap.size, 1, none⟩ (.slice vb ss.length vd)).setCell ⟨w.heap.size + 1, 0, none⟩ (.int .i64 0)) w.heap.size va vc L vb vd ss := ⟨(((BB2.out.setCell (p := ⟨w.heap.size, 0, none⟩) (Nat.le_refl _) _).setCell (p := ⟨w.heap.size, 1, none⟩) (Nat.le_refl _) _).setCell (p := ⟨w.heap.size + 1, 0, none⟩) (Nat.le_succ _) _), (((O2.out.set (p := ⟨w.heap.size, 0, none⟩) (by show w.heap.size < w.heap.size + 2; omega) _).set (p := ⟨w.heap.size, 1, none⟩) (by show w.heap.size < w.heap.size + 2; omega) _).set (p := ⟨w.heap.size + 1, 0, none⟩) (by show w.heap.size + 1 < w.heap.size + 2; omega) _).low (by omega)⟩
    simp [Leaves, settle, results, Try.results42, go_sem, q0, q1, ce]
    exact ⟨FIN.1, .inl ⟨ns, ss, GG.out, va, vc, vb, vd, L, rfl, HL2.out, FIN.2⟩⟩
  · have NG : Hid (∀ ns ss, ¬ GoodZ zs ns ss) := hid (fun ns ss hg => qg ⟨ns, ss, hg⟩)
    have TC2 := hid (TC.out.mono (fun e9 w9 (h9 : AllZ _ zs e9 w9) => show Below (w.heap.size + 2) _ w9 ∧ e9 = PN from by
      obtain ⟨hk, ⟨ns', ss', e1, _⟩ | ⟨e1, e2⟩⟩ := h9
      · exact absurd ⟨_, _, e1⟩ qg
      · rw [S1.out] at hk; exact ⟨hk, e2⟩))
    clear TC qg
    go_enter_defers Try.func42, Try.ntmps42
    go_wp2_with (go_at_call 84; refine TC2.out.mono ?_; rintro _ w2 ⟨hb2, rfl⟩
                 have hB2 := (hb2.block w.heap.size (by omega)).trans HB1.out
                 have hE2 := (hb2.block (w.heap.size + 1) (by omega)).trans HE1.out
                 obtain ⟨q0, q1⟩ := sn_cells hB2
                 have fz : ∀ i, w2.frozen? ⟨w.heap.size, i, none⟩ = false := fun i => by simp [World.frozen?, hB2]
                 have fe : w2.frozen? ⟨w.heap.size + 1, 0, none⟩ = false := by simp [World.frozen?, hE2]
                 have ce : w2.cell? ⟨w.heap.size + 1, 0, none⟩ = some (.int .i64 0) := by rw [cell_of_row _ _ _ _ _ _ hE2]; rfl)
    refine leaves_cons (f := 83) (args := #[.pointer (some ⟨w.heap.size + 1, 0, none⟩)]) (by simp) (by simp [go_sem]) ?_
    refine (catchZ_panicking ⟨w.heap.size + 1, 0, none⟩ 0 [] w2 ce fe (lt_blkR hE2)).mono ?_
    have b3 := below_1 w2 (.cells #[.int .i64 3] 93)
    have hB3 : ((w2.alloc (.cells #[.int .i64 3] 93)).setCell ⟨w.heap.size + 1, 0, none⟩ (.int .i64 3)).heap[w.heap.size]? = some (.cells #[.slice none 0 0, .slice none 0 0] 49 (0, 0)) := by
      rw [heap_setCell_other _ _ _ _ (by simp)]; exact (b3.block _ (lt_blkR hB2)).trans hB2
    have hE3 := heap_setBox (W := w2.alloc (.cells #[.int .i64 3] 93)) (.int .i64 3) ((b3.block _ (lt_blkR hE2)).trans hE2)
    obtain ⟨r0, r1⟩ := sn_cells hB3
    have rE := cell_box hE3
    have BB2 := B1.out.trans (hb2.mono (by omega))
    have B3 := hid ((BB2.trans (b3.mono BB2.size)).setCell (p := ⟨w.heap.size + 1, 0, none⟩) (by simp) (.int .i64 3))
    rintro e u' w'' ⟨rfl, rfl, hw⟩
    rw [hw]
    clear BB2
    generalize (w2.alloc (.cells #[.int .i64 3] 93)).setCell ⟨w.heap.size + 1, 0, none⟩ (.int .i64 3) = w4 at *
    simp [Leaves, settle, results, Try.results42, go_sem, r0, r1, rE]
    exact ⟨B3.out, .inr ⟨NG.out, rfl⟩⟩
set_option maxRecDepth 20000 in
set_option maxHeartbeats 2000000 in
theorem readSnapshot_c (a : Option Addr) (n c : Nat) (zs : List Int) (w : World) (h : IsB w a n zs) (hc : n ≤ c) (hl : Lies w a c) :
    Calls Try.prog 19 #[.slice a n c] w (ReadsZ w zs) := by
  have b0 := below_1 w (.cells #[.slice none 0 0, .slice none 0 0] 49)
  have HB0 := hid (heap_alloc_new w (.cells #[.slice none 0 0, .slice none 0 0] 49))
  have s0 : (w.alloc (.cells #[.slice none 0 0, .slice none 0 0] 49)).heap.size = w.heap.size + 1 := by simp
  have RC := hid (readZ1_c a n c zs _ (h.later b0) hc (by
    rcases hl with hl | ⟨b, off, e, hb⟩
    · exact .inl hl
    · exact .inr ⟨b, off, e, by simp; omega⟩))
  have B0 := hid b0
  have S0 := hid s0
  clear h hl b0 s0
  by_cases qg : ∃ ns ss, GoodZ zs ns ss
  · obtain ⟨ns, ss, hg⟩ := qg
    have GG := hid hg
    have TC2 := hid (RC.out.mono (fun e9 w9 (h9 : ReadsZ _ zs e9 w9) => show Below (w.heap.size + 1) _ w9 ∧ ∃ a ca b cb L, e9 = .returned (.tuple #[snV a L.length ca b ss.length cb, .int .i64 0]) ∧ L.map Nd.er = ns.map Nd.er ∧ SnOwn w9 (w.heap.size + 1) a ca L b cb ss from by
      obtain ⟨hk, ⟨ns', ss', e1, a', ca', b', cb', L', e3, e4, e5⟩ | ⟨e1, e2⟩⟩ := h9
      · have e6 := e1.1
        rw [hg.1] at e6
        simp only [Option.some.injEq, Prod.mk.injEq] at e6
        obtain ⟨⟨rfl, rfl⟩, _⟩ := e6
        rw [S0.out] at e5 hk
        exact ⟨hk, a', ca', b', cb', L', e3, e4, e5⟩
      · exact absurd hg (e1 _ _)))
    clear RC hg
    go_enter Try.func19, Try.ntmps19
    go_wp2_with (go_at_call 42; refine TC2.out.mono ?_; rintro _ w1 ⟨hb1, va, vc, vb, vd, L, rfl, hL1, hO1⟩
                 have hB1 := (hb1.block w.heap.size (by omega)).trans HB0.out
                 obtain ⟨q0, q1⟩ := sn_cells hB1
                 have fz : ∀ i, w1.frozen? ⟨w.heap.size, i, none⟩ = false := fun i => by simp [World.frozen?, hB1]
                 have O1 := hid hO1
                 have HL1 := hid hL1
                 have BB1 := hid (B0.out.trans (hb1.mono (by omega)))
                 unfold snV
                 clear hO1 hb1 hL1)
    refine bodyPost_ret (v := .tuple #[snV va L.length vc vb ss.length vd, .int .i64 0]) (by simp [results, Try.results19, go_sem, snV, q0, q1]) rfl ⟨((BB1.out.setCell (p := ⟨w.heap.size, 0, none⟩) (Nat.le_refl _) _).setCell (p := ⟨w.heap.size, 1, none⟩) (Nat.le_refl _) _), .inl ⟨ns, ss, GG.out, va, vc, vb, vd, L, rfl, HL1.out, ?_⟩⟩
    exact ((O1.out.set (Nat.lt_succ_self _) _).set (Nat.lt_succ_self _) _).low (Nat.le_succ _)
  · have NG : Hid (∀ ns ss, ¬ GoodZ zs ns ss) := hid (fun ns ss hg => qg ⟨ns, ss, hg⟩)
    have TC2 := hid (RC.out.mono (fun e9 w9 (h9 : ReadsZ _ zs e9 w9) => show Below (w.heap.size + 1) _ w9 ∧ e9 = .returned (.tuple #[snNo, .int .i64 3]) from by
      obtain ⟨hk, ⟨ns', ss', e1, _⟩ | ⟨e1, e2⟩⟩ := h9
      · exact absurd ⟨_, _, e1⟩ qg
      · rw [S0.out] at hk; exact ⟨hk, e2⟩))
    clear RC qg
    go_enter Try.func19, Try.ntmps19
    go_wp2_with (go_at_call 42; refine TC2.out.mono ?_; rintro _ w1 ⟨hb1, rfl⟩
                 have hB1 := (hb1.block w.heap.size (by omega)).trans HB0.out
                 obtain ⟨q0, q1⟩ := sn_cells hB1
                 have fz : ∀ i, w1.frozen? ⟨w.heap.size, i, none⟩ = false := fun i => by simp [World.frozen?, hB1]
                 have BB1 := hid (B0.out.trans (hb1.mono (by omega)))
                 unfold snNo
                 clear hb1)
    refine bodyPost_ret (v := .tuple #[snNo, .int .i64 3]) (by simp [results, Try.results19, go_sem, snNo, q0, q1]) rfl ⟨((BB1.out.setCell (p := ⟨w.heap.size, 0, none⟩) (Nat.le_refl _) _).setCell (p := ⟨w.heap.size, 1, none⟩) (Nat.le_refl _) _), .inr ⟨NG.out, rfl⟩⟩
end Go.Proofs.Ytbgninmkglgfeaa
