/-
  Nodes with their lengths ahead out of their bytes: takeMeasured, takeList of the package record.
-/
import Derived.Test.YtbgninmkglgfeaaSRd
namespace Go.Proofs.Ytbgninmkglgfeaa
open Go.RowKit Go.ChangeShapes Go.WideShapes Go.ChangeAt Go.Maps Go.Shelf
set_option linter.unusedVariables false
set_option linter.unusedSimpArgs false
theorem allN_none {w w' : World} {e : Ending} (h : AllN w none e w') : Below w.heap.size w w' ∧ e = PN := h
theorem allN_some {w w' : World} {x : Nd} {e : Ending} (h : AllN w (some x) e w') : Below w.heap.size w w' ∧ ∃ da dc ka kc, e = .returned (x.lie da dc ka kc).val ∧ NdOwn w' w.heap.size (x.lie da dc ka kc) := h
set_option maxRecDepth 20000 in
set_option maxHeartbeats 2000000 in
theorem takeMeasured_c {r : Nat} {a : Option Addr} {c : Nat} {zs : List Int} {w : World} (h : Rdr w r a c zs) :
    Calls Try.prog 86 #[.pointer (some ⟨r, 0, none⟩)] w (TakesN w r (measP zs)) := by
  have hr0 := lt_blkR h.1
  have b0 := below_1 w (.cells Nd.no.cells.toArray 39)
  have hB0 := heap_alloc_new w (.cells Nd.no.cells.toArray 39)
  have NC := hid (tnum_c 2 (rdr_later h b0) (by omega))
  have HBD := hid (fun m t (e : numP 2 zs = some (m, t)) => numP_bd h e)
  have K0 : Hid (Kr r w (w.alloc (.cells Nd.no.cells.toArray 39))) := hid (Kr.of b0)
  have M0 : Hid (Kr r (w.alloc (.cells Nd.no.cells.toArray 39)) (w.alloc (.cells Nd.no.cells.toArray 39))) := hid (Kr.refl _ _)
  have HB0 := hid hB0
  clear h b0 hB0
  unfold measP
  unfold Takes at NC
  rcases hn : numP 2 zs with _ | ⟨m, t⟩
  · rw [hn] at NC
    simp only [Option.map_none] at NC ⊢
    go_enter Try.func86, Try.ntmps86
    go_wp2_with (go_at_call 51; refine NC.out.mono ?_; rintro _ w1 ⟨hk, rfl⟩)
    exact ⟨rfl, K0.out.trans hk, rfl⟩
  · obtain ⟨m0, m1⟩ := HBD.out m t hn
    rw [hn] at NC
    simp only [Option.map_some] at NC ⊢
    have m1' : m < 65536 := by simpa using m1
    have kc : IntKind.i64.wrap m = m := by rw [IntKind.wrap_i64]; omega
    obtain ⟨k, rfl⟩ : ∃ k : Nat, m = k := ⟨m.toNat, by omega⟩
    rw [Int.toNat_natCast]
    clear m1 HBD hn
    by_cases q : k ≤ t.length
    · rw [if_pos q]
      rcases hx : nodeAll (t.take k) with _ | x
      · simp only
        go_enter Try.func86, Try.ntmps86
        go_wp2_with (first
          | (go_at_call 62; refine AC.out.mono ?_; intro e3 w3 h3; obtain ⟨hb3, rfl⟩ := allN_none h3)
          | (go_at_call 94; refine PC.out.mono ?_; rintro _ w2 ⟨⟨rfl, hI⟩, a2, u2, hw2, hR2⟩
             have K2 := hid (K1.out.trans (show Kr r w1 w2 by rw [hw2]; exact Kr.set r w1 u2))
             have AC := hid (takeAllN_c a1 k c1 (t.take k) w2 hI (Nat.le_trans q HL1.out.1) (by
               rcases HL1.out.2 with hl | ⟨b, off, e, hb⟩
               · exact .inl hl
               · exact .inr ⟨b, off, e, Nat.lt_trans hb (lt_blkR hR2.1)⟩))
             rw [hx] at AC
             clear hI hR2 hw2)
          | (go_at_call 51; refine NC.out.mono ?_; rintro _ w1 ⟨hk, rfl, a1, c1, hR1⟩; have K1 := hid (K0.out.trans hk); have PC := hid (piece2_c r a1 c1 t k w1 hR1 (by omega)); unfold PiecePost2 at PC; simp only [if_pos q] at PC; have HL1 := hid hR1.2.2; clear hk hR1))
        exact ⟨rfl, K2.out.trans (Kr.of hb3), rfl⟩
      · simp only
        go_enter Try.func86, Try.ntmps86
        go_wp2_with (first
          | (go_at_call 62; refine AC.out.mono ?_; intro e3 w3 h3; obtain ⟨hb3, da, dc, ka, kc, rfl, hO3⟩ := allN_some h3
             have K3 := hid (K2.out.trans (Kr.of hb3))
             have M3 := hid (M2.out.trans (Kr.of hb3))
             have R3 := hid (rdr_later HR2.out hb3)
             have O3 := hid (hO3.low (b := w.heap.size + 1) (by have := M2.out.size; simp at this; omega))
             have hB3 := (M3.out.block w.heap.size (by simp) (by omega)).trans HB0.out
             obtain ⟨q0, q1, q2, q3, q4, q5⟩ := nd_cells hB3
             have fz : ∀ i, w3.frozen? ⟨w.heap.size, i, none⟩ = false := fun i => by simp [World.frozen?, hB3]
             unfold Nd.lie Nd.val
             simp only [Nd.no, List.length_nil] at q0 q1 q2 q3 q4 q5
             clear h3 hb3 hO3 hB3)
          | (go_at_call 94; refine PC.out.mono ?_; rintro _ w2 ⟨⟨rfl, hI⟩, a2, u2, hw2, hR2⟩
             have K2 := hid (K1.out.trans (show Kr r w1 w2 by rw [hw2]; exact Kr.set r w1 u2))
             have M2 := hid (M1.out.trans (show Kr r w1 w2 by rw [hw2]; exact Kr.set r w1 u2))
             have AC := hid (takeAllN_c a1 k c1 (t.take k) w2 hI (Nat.le_trans q HL1.out.1) (by
               rcases HL1.out.2 with hl | ⟨b, off, e, hb⟩
               · exact .inl hl
               · exact .inr ⟨b, off, e, Nat.lt_trans hb (lt_blkR hR2.1)⟩))
             rw [hx] at AC
             have HR2 := hid hR2
             clear hI hR2 hw2)
          | (go_at_call 51; refine NC.out.mono ?_; rintro _ w1 ⟨hk, rfl, a1, c1, hR1⟩; have K1 := hid (K0.out.trans hk); have M1 := hid (M0.out.trans hk); have PC := hid (piece2_c r a1 c1 t k w1 hR1 (by omega)); unfold PiecePost2 at PC; simp only [if_pos q] at PC; have HL1 := hid hR1.2.2; clear hk hR1))
        have L : w.heap.size < w.heap.size + 1 := Nat.lt_succ_self _
        refine bodyPost_ret (v := Nd.val (⟨x.fid, x.k, x.md, x.ln, da, dc, x.zs, ka, kc, x.ks⟩ : Nd)) (by simp [results, Try.results86, go_sem, Nd.val, q0, q1, q2, q3, q4, q5]) rfl ⟨((((((K3.out.new (Nat.le_refl _) 0 _).new (Nat.le_refl _) 1 _).new (Nat.le_refl _) 2 _).new (Nat.le_refl _) 3 _).new (Nat.le_refl _) 4 _).new (Nat.le_refl _) 5 _), ⟨da, dc, ka, kc, rfl, ?_⟩, _, _, (rdr_new (rdr_new (rdr_new (rdr_new (rdr_new (rdr_new R3.out hr0 0 _) hr0 1 _) hr0 2 _) hr0 3 _) hr0 4 _) hr0 5 _)⟩
        exact ((((((O3.out.set L _).set L _).set L _).set L _).set L _).set L _).low (Nat.le_succ _)
    · rw [if_neg q]
      go_enter Try.func86, Try.ntmps86
      go_wp2_with (first
        | (go_at_call 94; refine PC.out.mono ?_; rintro _ w2 ⟨rfl, hw2⟩)
        | (go_at_call 51; refine NC.out.mono ?_; rintro _ w1 ⟨hk, rfl, a1, c1, hR1⟩; have K1 := hid (K0.out.trans hk); have PC := hid (piece2_c r a1 c1 t k w1 hR1 (by omega)); unfold PiecePost2 at PC; simp only [if_neg q] at PC; clear hk hR1))
      refine ⟨rfl, ?_, rfl⟩
      first | exact K1.out | (rw [hw2]; exact K1.out)
def ncells (l : List Nd) : List Value := l.flatMap Nd.cells
theorem ncells_snoc (l : List Nd) (x : Nd) : ncells (l ++ [x]) = ncells l ++ x.cells := by unfold ncells; simp
theorem ncells_get (l : List Nd) (i j : Nat) (hi : i < l.length) (hj : j < 6) : (ncells l)[i * 6 + j]? = (l.getD i Nd.no).cells[j]? := by
  induction l generalizing i with
  | nil => cases hi
  | cons x t ih =>
    unfold ncells
    rw [List.flatMap_cons]
    rcases i with _ | i
    · rw [List.getElem?_append_left (by simp [Nd.cells]; omega)]
      simp
    · rw [List.getElem?_append_right (by simp [Nd.cells]; omega)]
      have e : (i + 1) * 6 + j - x.cells.length = i * 6 + j := by simp [Nd.cells]; omega
      rw [e]
      have := ih i (by simpa using hi)
      unfold ncells at this
      rw [this]
      simp [List.getD]
theorem info_nd : ∃ i : TypeInfo, Try.prog.info? 39 = some i ∧ i.zero = some Nd.no.val ∧ i.size = 6 ∧ i.bytes = 64 := by
  have h : (Try.prog.info? 39).map (fun i => (i.zero, i.size, i.bytes)) = some (some Nd.no.val, 6, 64) := by kernel_rfl
  cases hi : Try.prog.info? 39 with
  | none => rw [hi] at h; cases h
  | some i => rw [hi] at h; simp at h; exact ⟨i, rfl, h.1, h.2.1, h.2.2⟩
theorem RowAt.kr {w w' : World} {r base : Nat} {t : TypeId} {p : Option Addr} {vs : List Value} (h : RowAt w base t p vs) (hk : Kr r w w') (hr : r < base) : RowAt w' base t p vs := by
  rcases h with h | ⟨g, cs, fr, h1, h2, h3, h4⟩
  · exact .inl h
  · exact .inr ⟨g, cs, fr, h1, h2, (hk.block _ (lt_blkR h3) (by omega)).trans h3, h4⟩
theorem NdAt.kr {w w' : World} {r base : Nat} {x : Nd} (h : NdAt w base x) (hk : Kr r w w') (hr : r < base) : NdAt w' base x := ⟨h.1, h.2.1.kr hk hr, h.2.2.kr hk hr⟩
/-- Nodes that the call owns. -/
def NsOwn (w : World) (base : Nat) (v : Value) (L : List Nd) : Prop := w.ownsRow base 39 6 v L.length (ncells L) ∧ ∀ x ∈ L, NdAt w base x
theorem NsOwn.nil (w : World) (base : Nat) : NsOwn w base (.slice none 0 0) [] := ⟨World.ownsRow_nil _ _ _ _, fun x hx => by cases hx⟩
theorem NsOwn.later {w w' : World} {base : Nat} {v : Value} {L : List Nd} (h : NsOwn w base v L) (hb : Below w.heap.size w w') : NsOwn w' base v L := ⟨own_latR h.1 hb, fun x hx => (h.2 x hx).later hb⟩
theorem NsOwn.kr {w w' : World} {r base : Nat} {v : Value} {L : List Nd} (h : NsOwn w base v L) (hk : Kr r w w') (hr : r < base) : NsOwn w' base v L := ⟨own_kr h.1 hk hr, fun x hx => (h.2 x hx).kr hk hr⟩
theorem NsOwn.low {w : World} {base b : Nat} {v : Value} {L : List Nd} (h : NsOwn w base v L) (hb : b ≤ base) : NsOwn w b v L := ⟨own_low h.1 hb, fun x hx => (h.2 x hx).low hb⟩
theorem NsOwn.set {w : World} {base : Nat} {v : Value} {L : List Nd} {p : Addr} (h : NsOwn w base v L) (hp : p.block < base) (u : Value) : NsOwn (w.setCell p u) base v L := ⟨own_set h.1 hp u, fun x hx => (h.2 x hx).set hp u⟩
theorem NsOwn.is {w : World} {base : Nat} {v : Value} {L : List Nd} (h : NsOwn w base v L) (hm : L.length ≤ 100000) : ∃ a cap, v = .slice a L.length cap ∧ IsNs w a L := by
  rcases h.1.2 with ⟨hv, hn⟩ | ⟨g, cap, cur, hv, hrest⟩
  · have e : L = [] := List.eq_nil_of_length_eq_zero hn
    subst e
    exact ⟨none, 0, hv, ⟨Nat.zero_le _, (fun x hx => by cases hx), fun hp => absurd hp (by simp)⟩⟩
  · refine ⟨_, _, hv, ⟨by unfold maxLen; omega, fun x hx => (h.2 x hx).ok, fun hp => ⟨g, 0, rfl, fun i hi => ?_⟩⟩⟩
    intro j u hu
    have hj : j < 6 := by
      have := (List.getElem?_eq_some_iff.1 hu).1
      simpa [Nd.cells] using this
    have e := h.1.cells (g := g) (by rw [hv]; rfl) (i * 6 + j) u (by rw [ncells_get L i j hi hj]; exact hu)
    rw [← e]
    congr 1
    unfold Addr.add
    split
    · rename_i q; simp [q]
    · simp
theorem nd_news {w : World} {g : Nat} {x : Nd} {t : TypeId} {fr : Nat × Nat} (hb : w.heap[g]? = some (.cells x.cells.toArray t fr)) : ∀ j u, x.cells[j]? = some u → w.cell? ((⟨g, 0, none⟩ : Addr).add j) = some u := fun j u hu => by
  have e : (⟨g, 0, none⟩ : Addr).add j = ⟨g, 0 + j, none⟩ := by unfold Addr.add; split <;> simp_all
  rw [e, cell_of_row w g _ _ t fr hb]
  simpa using hu
theorem nd_one (x : Nd) : ∀ u ∈ x.cells, u.oneCell' = true := fun u hu => by
  simp [Nd.cells] at hu
  rcases hu with rfl | rfl | rfl | rfl | rfl | rfl <;> rfl
def TakesM (w : World) (r : Nat) (res : Option (List Nd × List Int)) (e : Ending) (w' : World) : Prop :=
  Kr r w w' ∧ match res with
    | some (l, rest) => (∃ v L, e = .returned v ∧ L.map Nd.er = l.map Nd.er ∧ NsOwn w' w.heap.size v L) ∧ ∃ a c, Rdr w' r a c rest
    | none => e = PN
theorem measN_step {n : Nat} {z : List Int} : measN (n + 1) z = match measP z with
    | none => none
    | some (x, t) => match measN n t with
      | none => none
      | some (l, u) => some (x :: l, u) := rfl
/-- What is still to be read, behind what was read. -/
def LeftM (R : Option (List Nd × List Int)) (l : List Nd) (n : Nat) (z : List Int) : Prop := R = match measN n z with
  | none => none
  | some (t, u) => some (l ++ t, u)
theorem LeftM.none {R : Option (List Nd × List Int)} {l : List Nd} {n : Nat} {z : List Int} (h : LeftM R l (n + 1) z) (hp : measP z = none) : R = none := by
  unfold LeftM at h
  rw [measN_step, hp] at h
  exact h
theorem LeftM.some {R : Option (List Nd × List Int)} {l : List Nd} {n : Nat} {z t : List Int} {x : Nd} (h : LeftM R l (n + 1) z) (hp : measP z = some (x, t)) : LeftM R (l ++ [x]) n t := by
  unfold LeftM at h ⊢
  rw [measN_step, hp] at h
  simp only at h
  rw [h]
  rcases measN n t with _ | ⟨l', u⟩
  · rfl
  · simp
set_option maxRecDepth 20000 in
set_option maxHeartbeats 2000000 in
theorem takeListM_c {r : Nat} {a : Option Addr} {c : Nat} {zs : List Int} {w : World} (h : Rdr w r a c zs) :
    Calls Try.prog 85 #[.pointer (some ⟨r, 0, none⟩), .int .i64 40, .func (.func 86) #[] #[]] w (TakesM w r (measuresP zs)) := by
  obtain ⟨i0, hi, hz0, hz1, hz2⟩ := info_nd
  have hr0 := lt_blkR h.1
  have NC := hid (tnum_c 1 h (by omega))
  have HBD := hid (fun m t (e : numP 1 zs = some (m, t)) => numP_bd h e)
  clear h
  unfold measuresP
  rcases h0 : numP 1 zs with _ | ⟨m, t⟩
  · rw [h0] at NC
    simp only
    go_enter Try.func85, Try.ntmps85
    go_wp2_with (go_at_call 51; refine NC.out.mono ?_; intro e9 w9 h9; obtain ⟨hk9, rfl⟩ := takes_none h9)
    exact ⟨rfl, hk9, rfl⟩
  · obtain ⟨m0, m1⟩ := HBD.out m t h0
    have m1' : m < 256 := by simpa using m1
    have kc : IntKind.i64.wrap m = m := by rw [IntKind.wrap_i64]; omega
    obtain ⟨k, rfl⟩ : ∃ k : Nat, m = k := ⟨m.toNat, by omega⟩
    rw [h0] at NC
    simp only [Int.toNat_natCast]
    clear m1 HBD h0
    by_cases q : (k : Int) ≤ 40
    · rw [if_pos q]
      have qn : ¬ (40 : Int) < k := by omega
      obtain ⟨R, hR⟩ : ∃ R, R = measN k t := ⟨_, rfl⟩
      rw [← hR]
      have HL0 : Hid (LeftM R [] k t) := hid (by unfold LeftM; rw [hR]; rcases measN k t with _ | ⟨l', u⟩ <;> rfl)
      clear hR
      go_enter Try.func85, Try.ntmps85
      go_wp2_with (first
        | (go_at_call 54; rw [show decide ((40 : Int) < (k : Int)) = false from decide_eq_false (by omega)]; refine (refuse_f _).mono ?_; rintro _ wf ⟨rfl, hwf⟩; have hwf2 := hwf.symm; clear hwf; subst hwf2)
        | (go_at_call 51; refine NC.out.mono ?_; intro e8 w1 h8; obtain ⟨hk8, rfl, a1, c1, hR1⟩ := takes_some h8; have K1 := hid hk8; have HR1 := hid hR1; clear h8 hk8 hR1))
      go_loopg [8, 17] k (fun g v8 v17 wr => ∃ (j : Nat) (l L : List Nd) (z : List Int) (a : Option Addr) (c : Nat), j + g = k ∧ L.length = j ∧ v17 = .int .i64 j ∧ Hid (L.map Nd.er = l.map Nd.er) ∧ Hid (NsOwn wr w.heap.size v8 L) ∧ Hid (Rdr wr r a c z) ∧ Hid (Kr r w wr) ∧ Hid (LeftM R l g z))
      case atStart => exact ⟨0, [], [], t, a1, c1, by omega, rfl, rfl, hid rfl, hid (NsOwn.nil _ _), HR1, K1, HL0⟩
      case round =>
        clear HR1 K1 HL0
        obtain ⟨_, l, L, z, a2, c2, hjg, rfl, rfl, HM, HO, HR, HK, HLF⟩ := hrel
        obtain ⟨va, vc, rfl⟩ := own_shapeR HO.out.1
        by_cases hlt : L.length < k
        · have hltI : (L.length : Int) < k := by omega
          obtain ⟨g1, rfl⟩ : ∃ g1, gk = g1 + 1 := ⟨gk - 1, by omega⟩
          have TC := hid (takeMeasured_c HR.out)
          rcases hp : measP z with _ | ⟨x, u⟩
          · have HN := hid (HLF.out.none hp)
            rw [hp] at TC
            go_wp2_with (go_at_call 86; refine TC.out.mono ?_; intro e9 w9 h9; obtain ⟨hk9, rfl⟩ := takesN_none h9)
            exact ⟨rfl, HK.out.trans hk9, by rw [HN.out]⟩
          · have HN := hid (HLF.out.some hp)
            rw [hp] at TC
            go_wp2_with (first
              | (at_builtin; refine wpList_append_own _ rfl _ _ 46 rfl w.heap.size 39 i0 Nd.no.val 6 64 Try.underlying46 hi hz0 hz1 hz2 (by rfl) (by decide) _ _ _ rfl O4.out.1 ⟨w3.heap.size, 0, none⟩ 1 1 (⟨x.fid, x.k, x.md, x.ln, da, dc, x.zs, ka, kc2, x.ks⟩ : Nd).cells rfl rfl (nd_news (x := ⟨x.fid, x.k, x.md, x.ln, da, dc, x.zs, ka, kc2, x.ks⟩) N4.out) (nd_one _) (by unfold maxLen; omega) (by omega) (Nat.le_trans K4.out.size (Nat.le_refl _)) ?_; intro v9 w9 hown9 hgrow9 hnil9)
              | (go_at_call 86; refine TC.out.mono ?_; intro e9 w3 h9; obtain ⟨hk9, ⟨da, dc, ka, kc2, rfl, hX3⟩, a3, c3, hR3⟩ := takesN_some h9
                 have b4 := below_1 w3 (.cells (⟨x.fid, x.k, x.md, x.ln, da, dc, x.zs, ka, kc2, x.ks⟩ : Nd).cells.toArray 39)
                 have K4 := hid ((HK.out.trans hk9).trans (Kr.of b4))
                 have O4 := hid ((HO.out.kr hk9 hr0).later b4)
                 have X4 := hid ((hX3.at.later b4).low HK.out.size)
                 have R4 := hid (rdr_later hR3 b4)
                 have N4 := hid (heap_alloc_new w3 (.cells (⟨x.fid, x.k, x.md, x.ln, da, dc, x.zs, ka, kc2, x.ks⟩ : Nd).cells.toArray 39))
                 unfold Nd.lie Nd.val
                 clear h9 hk9 hR3 b4 hX3))
            have O9 : Hid (NsOwn w9 w.heap.size v9 (L ++ [x.lie da dc ka kc2])) := hid ⟨by rw [List.length_append, ncells_snoc]; exact hown9, fun y hy => (List.mem_append.1 hy).elim (fun hy => ⟨(O4.out.2 y hy).1, (O4.out.2 y hy).2.1.grown O4.out.1 (by decide) hgrow9, (O4.out.2 y hy).2.2.grown O4.out.1 (by decide) hgrow9⟩) (fun hy => by rw [List.mem_singleton.1 hy]; exact ⟨X4.out.1, X4.out.2.1.grown O4.out.1 (by decide) hgrow9, X4.out.2.2.grown O4.out.1 (by decide) hgrow9⟩)⟩
            have K9 := hid (kr_grown (base := 0) K4.out O4.out.1 hgrow9)
            have R9 := hid (rdr_grown R4.out O4.out.1 hgrow9 hr0)
            obtain ⟨a9, c9, rfl⟩ := own_shapeR hown9
            clear hown9 hgrow9 hnil9
            go_roundg g1
            case measure => omega
            case rel => exact ⟨L.length + 1, l ++ [x], L ++ [x.lie da dc ka kc2], u, a3, c3, by omega, by rw [List.length_append]; rfl, by go_num, hid (by rw [List.map_append, List.map_append, HM.out]; rfl), O9, R9, K9, HN⟩
        · have em : L.length = k := by omega
          have hg0 : gk = 0 := by omega
          subst em
          subst hg0
          have hge : ¬ (L.length : Int) < L.length := by omega
          have HE : Hid (R = some (l, z)) := hid (by have := HLF.out; unfold LeftM at this; simpa [measN] using this)
          go_wp2
          go_ret
          rw [HE.out]
          exact ⟨HK.out, ⟨_, L, rfl, HM.out, HO.out⟩, _, _, HR.out⟩
    · rw [if_neg q]
      have qn : (40 : Int) < k := by omega
      go_enter Try.func85, Try.ntmps85
      go_wp2_with (first
        | (go_at_call 54; (try rw [show decide ((40 : Int) < (k : Int)) = true from decide_eq_true (by omega)]); refine (refuse_t _).mono ?_; rintro _ wf ⟨rfl, hwf⟩; have hwf2 := hwf.symm; clear hwf; subst hwf2)
        | (go_at_call 51; refine NC.out.mono ?_; intro e8 w1 h8; obtain ⟨hk8, rfl, a1, c1, hR1⟩ := takes_some h8; have K1 := hid hk8; clear h8 hk8 hR1))
      exact ⟨rfl, K1.out, rfl⟩
end Go.Proofs.Ytbgninmkglgfeaa
