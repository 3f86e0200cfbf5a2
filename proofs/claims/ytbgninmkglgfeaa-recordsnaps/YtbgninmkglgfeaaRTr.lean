/-
  Records out of their bytes: takeRecord, takeList, takeRecords of the package record.
-/
import Derived.Test.YtbgninmkglgfeaaRBk
namespace Go.Proofs.Ytbgninmkglgfeaa
open Go.RowKit Go.ChangeShapes Go.WideShapes Go.ChangeAt Go.Maps Go.Shelf
set_option linter.unusedVariables false
set_option linter.unusedSimpArgs false
def recP (zs : List Int) : Option (Rec × List Int) := match numP 8 zs with
  | none => none
  | some (sn, t) => match opP t with
    | none => none
    | some (x, u) => some ({ x with sn := sn }, u)
def recsN : Nat → List Int → Option (List Rec × List Int)
  | 0, z => some ([], z)
  | n + 1, z => match recP z with
    | none => none
    | some (x, t) => match recsN n t with
      | none => none
      | some (l, u) => some (x :: l, u)
def recsP (zs : List Int) : Option (List Rec × List Int) := match numP 1 zs with
  | none => none
  | some (m, t) => if m ≤ 24 then recsN m.toNat t else none
def InB (zs : List Int) : Prop := ∀ i, 0 ≤ zs.getD i 0 ∧ zs.getD i 0 ≤ 255
theorem InB.drop {zs : List Int} (h : InB zs) (k : Nat) : InB (zs.drop k) := fun i => by
  have := h (k + i)
  simpa [List.getD, List.getElem?_drop] using this
theorem InB.take {zs : List Int} (h : InB zs) (k : Nat) : InB (zs.take k) := fun i => by
  by_cases hi : i < k
  · have := h i
    simpa [List.getD, List.getElem?_take, hi] using this
  · simp [List.getD, List.getElem?_take, hi]
theorem numP_in {s : Nat} {zs t : List Int} {m : Int} (h : InB zs) (hp : numP s zs = some (m, t)) : (0 ≤ m ∧ m < 256 ^ s) ∧ InB t := by
  unfold numP at hp
  by_cases q : s ≤ zs.length
  · rw [if_pos q] at hp
    simp only [Option.some.injEq, Prod.mk.injEq] at hp
    rw [← hp.1, ← hp.2]
    exact ⟨numF_bd zs h s q, h.drop s⟩
  · rw [if_neg q] at hp; cases hp
theorem shortP_in {zs ys t : List Int} (h : InB zs) (hp : shortP zs = some (ys, t)) : ys.length ≤ 255 ∧ InB t := by
  have hl := shortP_len hp (fun m u e => by have := (numP_in h e).1; simpa using this)
  refine ⟨hl, ?_⟩
  unfold shortP at hp
  rcases hn : numP 1 zs with _ | ⟨m, u⟩
  · rw [hn] at hp; cases hp
  · rw [hn] at hp
    simp only at hp
    split at hp
    · simp only [Option.some.injEq, Prod.mk.injEq] at hp
      rw [← hp.2]
      exact (numP_in h hn).2.drop _
    · cases hp
theorem opP_in {zs t : List Int} {x : Rec} (h : InB zs) (hp : opP zs = some (x, t)) : x.Wf ∧ x.sn = 0 ∧ InB t := by
  unfold opP at hp
  rcases h0 : numP 1 zs with _ | ⟨k, z1⟩
  · rw [h0] at hp; cases hp
  rw [h0] at hp; simp only at hp
  obtain ⟨b0, i1⟩ := numP_in h h0
  rcases h1 : numP 4 z1 with _ | ⟨fid, z2⟩
  · rw [h1] at hp; cases hp
  rw [h1] at hp; simp only at hp
  obtain ⟨b1, i2⟩ := numP_in i1 h1
  rcases h2 : numP 4 z2 with _ | ⟨dir, z3⟩
  · rw [h2] at hp; cases hp
  rw [h2] at hp; simp only at hp
  obtain ⟨b2, i3⟩ := numP_in i2 h2
  rcases h3 : shortP z3 with _ | ⟨nm, z4⟩
  · rw [h3] at hp; cases hp
  rw [h3] at hp; simp only at hp
  obtain ⟨b3, i4⟩ := shortP_in i3 h3
  rcases h4 : numP 4 z4 with _ | ⟨tt, z5⟩
  · rw [h4] at hp; cases hp
  rw [h4] at hp; simp only at hp
  obtain ⟨b4, i5⟩ := numP_in i4 h4
  rcases h5 : shortP z5 with _ | ⟨nm2, z6⟩
  · rw [h5] at hp; cases hp
  rw [h5] at hp; simp only at hp
  obtain ⟨b5, i6⟩ := shortP_in i5 h5
  rcases h6 : numP 2 z6 with _ | ⟨md, z7⟩
  · rw [h6] at hp; cases hp
  rw [h6] at hp; simp only at hp
  obtain ⟨b6, i7⟩ := numP_in i6 h6
  rcases h7 : shortP z7 with _ | ⟨dt, z8⟩
  · rw [h7] at hp; cases hp
  rw [h7] at hp; simp only at hp
  obtain ⟨b7, i8⟩ := shortP_in i7 h7
  split at hp
  · simp only [Option.some.injEq, Prod.mk.injEq] at hp
    obtain ⟨rfl, rfl⟩ := hp
    refine ⟨⟨⟨b0.1, by simpa using b0.2⟩, ⟨b1.1, by simpa using b1.2⟩, ⟨b2.1, by simpa using b2.2⟩, ⟨b4.1, by simpa using b4.2⟩, ⟨b6.1, by simpa using b6.2⟩, ⟨by simp, by simp⟩, ?_, ?_, ?_⟩, rfl, i8⟩
    · simp only [Fr.tx_size]; unfold maxLen; omega
    · simp only [Fr.tx_size]; unfold maxLen; omega
    · simp only [Fr.tx_size]; unfold maxLen; omega
  · cases hp
theorem recP_in {zs t : List Int} {x : Rec} (h : InB zs) (hp : recP zs = some (x, t)) : x.Wf ∧ InB t := by
  unfold recP at hp
  rcases h0 : numP 8 zs with _ | ⟨sn, z1⟩
  · rw [h0] at hp; cases hp
  rw [h0] at hp; simp only at hp
  obtain ⟨b0, i1⟩ := numP_in h h0
  rcases h1 : opP z1 with _ | ⟨y, z2⟩
  · rw [h1] at hp; cases hp
  rw [h1] at hp
  simp only [Option.some.injEq, Prod.mk.injEq] at hp
  obtain ⟨rfl, rfl⟩ := hp
  obtain ⟨w1, _, i2⟩ := opP_in i1 h1
  exact ⟨⟨w1.1, w1.2.1, w1.2.2.1, w1.2.2.2.1, w1.2.2.2.2.1, ⟨b0.1, by simpa using b0.2⟩, w1.2.2.2.2.2.2⟩, i2⟩
theorem recsN_in : ∀ (n : Nat) {zs t : List Int} {l : List Rec}, InB zs → recsN n zs = some (l, t) → (∀ x ∈ l, x.Wf) ∧ InB t ∧ l.length = n
  | 0, zs, t, l, h, hp => by
    simp only [recsN, Option.some.injEq, Prod.mk.injEq] at hp
    obtain ⟨rfl, rfl⟩ := hp
    exact ⟨(fun x hx => by cases hx), h, rfl⟩
  | n + 1, zs, t, l, h, hp => by
    unfold recsN at hp
    rcases h0 : recP zs with _ | ⟨x, z1⟩
    · rw [h0] at hp; cases hp
    rw [h0] at hp; simp only at hp
    obtain ⟨b0, i1⟩ := recP_in h h0
    rcases h1 : recsN n z1 with _ | ⟨l', u⟩
    · rw [h1] at hp; cases hp
    rw [h1] at hp
    simp only [Option.some.injEq, Prod.mk.injEq] at hp
    obtain ⟨rfl, rfl⟩ := hp
    obtain ⟨b2, i2, e2⟩ := recsN_in n i1 h1
    exact ⟨(fun y hy => (List.mem_cons.1 hy).elim (fun e => by rw [e]; exact b0) (b2 y)), i2, by rw [List.length_cons, e2]⟩
theorem rdr_in {w : World} {r : Nat} {a : Option Addr} {c : Nat} {zs : List Int} (h : Rdr w r a c zs) : InB zs := h.2.1.2.2.2
set_option maxRecDepth 20000 in
set_option maxHeartbeats 2000000 in
theorem takeRecord_c {r : Nat} {a : Option Addr} {c : Nat} {zs : List Int} {w : World} (h : Rdr w r a c zs) :
    Calls Try.prog 60 #[.pointer (some ⟨r, 0, none⟩)] w (Takes w r ((recP zs).map fun p => (p.1.val, p.2))) := by
  have hr0 := lt_blkR h.1
  have b0 := below_1 w (.cells Rec.no.cells.toArray 79)
  have hB0 := heap_alloc_new w (.cells Rec.no.cells.toArray 79)
  have NC := hid (tnum_c 8 (rdr_later h b0) (by omega))
  have K0 : Hid (Kr r w (w.alloc (.cells Rec.no.cells.toArray 79))) := hid (Kr.of b0)
  have HB0 := hid hB0
  clear h b0 hB0
  have M0 : Hid (Kr r (w.alloc (.cells Rec.no.cells.toArray 79)) (w.alloc (.cells Rec.no.cells.toArray 79))) := hid (Kr.refl _ _)
  unfold recP
  rcases h0 : numP 8 zs with _ | ⟨sn, t⟩
  · rw [h0] at NC
    simp only [Option.map_none]
    go_enter Try.func60, Try.ntmps60
    go_wp2_with (go_at_call 51; refine NC.out.mono ?_; intro e9 w9 h9; obtain ⟨hk9, rfl⟩ := takes_none h9)
    exact ⟨rfl, K0.out.trans hk9, rfl⟩
  · rw [h0] at NC
    simp only
    rcases h1 : opP t with _ | ⟨x, u⟩
    · simp only [Option.map_none]
      go_enter Try.func60, Try.ntmps60
      go_wp2_with (first
        | (go_at_call 24; refine TC.out.mono ?_; intro e9 w9 h9; obtain ⟨hk9, rfl⟩ := takes_none h9)
        | (go_at_call 51; refine NC.out.mono ?_; intro e8 w1 h8; obtain ⟨hk8, rfl, a1, c1, hR1⟩ := takes_some h8; have K1 := hid (K0.out.trans hk8); have TC := hid (takeOp_c hR1); rw [h1] at TC; clear h8 hk8 hR1))
      exact ⟨rfl, K1.out.trans hk9, rfl⟩
    · simp only [Option.map_some]
      go_enter Try.func60, Try.ntmps60
      go_wp2_with (first
        | (go_at_call 24; refine TC.out.mono ?_; intro e9 w2 h9; obtain ⟨hk9, rfl, a2, c2, hR2⟩ := takes_some h9; have K2 := hid (K1.out.trans hk9); have hB2 := ((M1.out.trans hk9).block w.heap.size (by simp) (by omega)).trans HB0.out; obtain ⟨q0, q1, q2, q3, q4, q5, q6, q7, q8⟩ := rec_box hB2; have fz : ∀ i, w2.frozen? ⟨w.heap.size, i, none⟩ = false := (fun i => by simp [World.frozen?, hB2]); clear h9 hk9 hB2)
        | (go_at_call 51; refine NC.out.mono ?_; intro e8 w1 h8; obtain ⟨hk8, rfl, a1, c1, hR1⟩ := takes_some h8; have K1 := hid (K0.out.trans hk8); have M1 := hid (M0.out.trans hk8); have TC := hid (takeOp_c hR1); rw [h1] at TC; simp only [Option.map_some] at TC; unfold Rec.opV at TC; clear h8 hk8 hR1))
      refine bodyPost_ret (v := Rec.val { x with sn := sn }) (by simp [results, Try.results60, go_sem, Rec.val, q0, q1, q2, q3, q4, q5, q6, q7, q8]) rfl ⟨(((((((((K2.out.new (Nat.le_refl _) 0 _).new (Nat.le_refl _) 1 _).new (Nat.le_refl _) 2 _).new (Nat.le_refl _) 3 _).new (Nat.le_refl _) 4 _).new (Nat.le_refl _) 5 _).new (Nat.le_refl _) 6 _).new (Nat.le_refl _) 7 _).new (Nat.le_refl _) 8 _), rfl, _, _, (rdr_new (rdr_new (rdr_new (rdr_new (rdr_new (rdr_new (rdr_new (rdr_new (rdr_new hR2 hr0 0 _) hr0 1 _) hr0 2 _) hr0 3 _) hr0 4 _) hr0 5 _) hr0 6 _) hr0 7 _) hr0 8 _)⟩
def TakesL (w : World) (r : Nat) (res : Option (List Rec × List Int)) (e : Ending) (w' : World) : Prop :=
  Kr r w w' ∧ match res with
    | some (l, rest) => (∃ v, e = .returned v ∧ w'.ownsRow w.heap.size 79 9 v l.length (rcells l)) ∧ ∃ a c, Rdr w' r a c rest
    | none => e = PN
theorem own_kr {w w' : World} {r base e size n : Nat} {v : Value} {xs : List Value} (h : w.ownsRow base e size v n xs) (hk : Kr r w w') (hr : r < base) : w'.ownsRow base e size v n xs := by
  refine ⟨h.1, ?_⟩
  rcases h.2 with h | ⟨g, cap, cur, e1, e2, e3, e4⟩
  · exact .inl h
  · exact .inr ⟨g, cap, cur, e1, e2, (hk.block g (lt_blkR e3) (by omega)).trans e3, e4⟩
theorem kr_grown {r base : Nat} {w w1 w2 : World} {e size n : Nat} {v : Value} {xs : List Value} (h : Kr r w w1) (hown : w1.ownsRow w.heap.size e size v n xs) (hg : w1.grownBy w2 v.ownBlock) : Kr r w w2 :=
  ⟨hg.os.trans h.os, hg.tape.trans h.tape, hg.output.trans h.output, Nat.le_trans h.size hg.size, fun k hk hne => (hg.block k (Nat.lt_of_lt_of_le hk h.size) (fun e => by have := (hown.lt k e.symm).1; omega)).trans (h.block k hk hne)⟩
theorem rdr_grown {w1 w2 : World} {r base : Nat} {a : Option Addr} {c : Nat} {zs : List Int} {e size n : Nat} {v : Value} {xs : List Value} (h : Rdr w1 r a c zs) (hown : w1.ownsRow base e size v n xs) (hg : w1.grownBy w2 v.ownBlock) (hr : r < base) : Rdr w2 r a c zs := by
  refine ⟨(hg.block r (lt_blkR h.1) (fun e => by have := (hown.lt r e.symm).1; omega)).trans h.1, ?_, h.2.2⟩
  obtain ⟨h1, h2, h3, h4⟩ := h.2.1
  refine ⟨h1, h2, fun hp => ?_, h4⟩
  obtain ⟨b, off, e, hc⟩ := h3 hp
  rcases h.2.2.2 with ⟨e', _⟩ | ⟨b', off', e', hbr⟩
  · rw [e'] at e; cases e
  · rw [e] at e'
    cases e'
    exact ⟨b, off, e, fun i hi => hg.cell (hc i hi) (fun e => by have := (hown.lt b e.symm).1; omega)⟩
theorem recsN_step {n : Nat} {z : List Int} : recsN (n + 1) z = match recP z with
    | none => none
    | some (x, t) => match recsN n t with
      | none => none
      | some (l, u) => some (x :: l, u) := rfl
theorem snocR (l : List Rec) (x : Rec) : rcells (l ++ [x]) = rcells l ++ x.cells := rcells_snoc l x
theorem rec_newsR {w : World} {g : Nat} {x : Rec} {t : TypeId} {fr : Nat × Nat} (hb : w.heap[g]? = some (.cells x.cells.toArray t fr)) : ∀ j u, x.cells[j]? = some u → w.cell? ((⟨g, 0, none⟩ : Addr).add j) = some u := fun j u hu => by
  have e : (⟨g, 0, none⟩ : Addr).add j = ⟨g, 0 + j, none⟩ := by unfold Addr.add; split <;> simp_all
  rw [e, cell_of_row w g _ _ t fr hb]
  simpa using hu
theorem rec_oneR (x : Rec) : ∀ u ∈ x.cells, u.oneCell' = true := fun u hu => by
  simp [Rec.cells] at hu
  rcases hu with rfl | rfl | rfl | rfl | rfl | rfl | rfl | rfl | rfl <;> rfl
/-- What is still to be read, behind what was read. -/
def Left (R : Option (List Rec × List Int)) (l : List Rec) (n : Nat) (z : List Int) : Prop := R = match recsN n z with
  | none => none
  | some (t, u) => some (l ++ t, u)
theorem Left.none {R : Option (List Rec × List Int)} {l : List Rec} {n : Nat} {z : List Int} (h : Left R l (n + 1) z) (hp : recP z = none) : R = none := by
  unfold Left at h
  rw [recsN_step, hp] at h
  exact h
theorem Left.some {R : Option (List Rec × List Int)} {l : List Rec} {n : Nat} {z t : List Int} {x : Rec} (h : Left R l (n + 1) z) (hp : recP z = some (x, t)) : Left R (l ++ [x]) n t := by
  unfold Left at h ⊢
  rw [recsN_step, hp] at h
  simp only at h
  rw [h]
  rcases recsN n t with _ | ⟨l', u⟩
  · rfl
  · simp
set_option maxRecDepth 20000 in
set_option maxHeartbeats 2000000 in
theorem takeList_c {r : Nat} {a : Option Addr} {c : Nat} {zs : List Int} {w : World} (h : Rdr w r a c zs) :
    Calls Try.prog 59 #[.pointer (some ⟨r, 0, none⟩), .int .i64 24, .func (.func 60) #[] #[]] w (TakesL w r (recsP zs)) := by
  obtain ⟨i0, hi, hz0, hz1, hz2⟩ := info_rec
  have hr0 := lt_blkR h.1
  have NC := hid (tnum_c 1 h (by omega))
  have HBD := hid (fun m t (e : numP 1 zs = some (m, t)) => numP_bd h e)
  clear h
  unfold recsP
  rcases h0 : numP 1 zs with _ | ⟨m, t⟩
  · rw [h0] at NC
    simp only
    go_enter Try.func59, Try.ntmps59
    go_wp2_with (go_at_call 51; refine NC.out.mono ?_; intro e9 w9 h9; obtain ⟨hk9, rfl⟩ := takes_none h9)
    exact ⟨rfl, hk9, rfl⟩
  · obtain ⟨m0, m1⟩ := HBD.out m t h0
    have m1' : m < 256 := by simpa using m1
    have kc : IntKind.i64.wrap m = m := by rw [IntKind.wrap_i64]; omega
    obtain ⟨k, rfl⟩ : ∃ k : Nat, m = k := ⟨m.toNat, by omega⟩
    rw [h0] at NC
    simp only [Int.toNat_natCast]
    clear m1 HBD h0
    by_cases q : (k : Int) ≤ 24
    · rw [if_pos q]
      have qn : ¬ (24 : Int) < k := by omega
      obtain ⟨R, hR⟩ : ∃ R, R = recsN k t := ⟨_, rfl⟩
      rw [← hR]
      have HL0 : Hid (Left R [] k t) := hid (by unfold Left; rw [hR]; rcases recsN k t with _ | ⟨l', u⟩ <;> rfl)
      clear hR
      go_enter Try.func59, Try.ntmps59
      go_wp2_with (first
        | (go_at_call 54; rw [show decide ((24 : Int) < (k : Int)) = false from decide_eq_false (by omega)]; refine (refuse_f _).mono ?_; rintro _ wf ⟨rfl, hwf⟩; have hwf2 := hwf.symm; clear hwf; subst hwf2)
        | (go_at_call 51; refine NC.out.mono ?_; intro e8 w1 h8; obtain ⟨hk8, rfl, a1, c1, hR1⟩ := takes_some h8; have K1 := hid hk8; have HR1 := hid hR1; clear h8 hk8 hR1))
      go_loopg [8, 17] k (fun g v8 v17 wr => ∃ (j : Nat) (l : List Rec) (z : List Int) (a : Option Addr) (c : Nat), j + g = k ∧ l.length = j ∧ v17 = .int .i64 j ∧ Hid (wr.ownsRow w.heap.size 79 9 v8 l.length (rcells l)) ∧ Hid (Rdr wr r a c z) ∧ Hid (Kr r w wr) ∧ Hid (Left R l g z))
      case atStart => exact ⟨0, [], t, a1, c1, by omega, rfl, rfl, hid (World.ownsRow_nil _ _ 79 9), HR1, K1, HL0⟩
      case round =>
        clear HR1 K1 HL0
        obtain ⟨_, l, z, a2, c2, hjg, rfl, rfl, HO, HR, HK, HLF⟩ := hrel
        obtain ⟨va, vc, rfl⟩ := own_shapeR HO.out
        by_cases hlt : l.length < k
        · have hltI : (l.length : Int) < k := by omega
          obtain ⟨g1, rfl⟩ : ∃ g1, gk = g1 + 1 := ⟨gk - 1, by omega⟩
          have TC := hid (takeRecord_c HR.out)
          rcases hp : recP z with _ | ⟨x, u⟩
          · have HN := hid (HLF.out.none hp)
            rw [hp] at TC
            simp only [Option.map_none] at TC
            go_wp2_with (go_at_call 60; refine TC.out.mono ?_; intro e9 w9 h9; obtain ⟨hk9, rfl⟩ := takes_none h9)
            exact ⟨rfl, HK.out.trans hk9, by rw [HN.out]⟩
          · have HN := hid (HLF.out.some hp)
            rw [hp] at TC
            simp only [Option.map_some] at TC
            unfold Rec.val at TC
            go_wp2_with (first
              | (at_builtin; refine wpList_append_own _ rfl _ _ 33 rfl w.heap.size 79 i0 Rec.no.val 9 88 Try.underlying33 hi hz0 hz1 hz2 (by rfl) (by decide) _ _ _ rfl O4.out ⟨w3.heap.size, 0, none⟩ 1 1 x.cells rfl rfl (rec_newsR N4.out) (rec_oneR x) (by unfold maxLen; omega) (by omega) (Nat.le_trans K4.out.size (Nat.le_refl _)) ?_; intro v9 w9 hown9 hgrow9 hnil9)
              | (go_at_call 60; refine TC.out.mono ?_; intro e9 w3 h9; obtain ⟨hk9, rfl, a3, c3, hR3⟩ := takes_some h9
                 have b4 := below_1 w3 (.cells x.cells.toArray 79)
                 have K4 := hid ((HK.out.trans hk9).trans (Kr.of b4))
                 have O4 := hid (own_latR (own_kr HO.out hk9 hr0) b4)
                 have R4 := hid (rdr_later hR3 b4)
                 have N4 := hid (heap_alloc_new w3 (.cells x.cells.toArray 79))
                 clear h9 hk9 hR3 b4))
            have O9 : Hid (w9.ownsRow w.heap.size 79 9 v9 (l ++ [x]).length (rcells (l ++ [x]))) := hid (by rw [List.length_append, snocR]; exact hown9)
            have K9 := hid (kr_grown (base := 0) K4.out O4.out hgrow9)
            have R9 := hid (rdr_grown R4.out O4.out hgrow9 hr0)
            obtain ⟨a9, c9, rfl⟩ := own_shapeR hown9
            clear hown9 hgrow9 hnil9
            go_roundg g1
            case measure => omega
            case rel => exact ⟨l.length + 1, l ++ [x], u, a3, c3, by omega, by rw [List.length_append]; rfl, by go_num, O9, R9, K9, HN⟩
        · have em : l.length = k := by omega
          have hg0 : gk = 0 := by omega
          subst em
          subst hg0
          have hge : ¬ (l.length : Int) < l.length := by omega
          have HE : Hid (R = some (l, z)) := hid (by have := HLF.out; unfold Left at this; simpa [recsN] using this)
          go_wp2
          go_ret
          rw [HE.out]
          exact ⟨HK.out, ⟨_, rfl, HO.out⟩, _, _, HR.out⟩
    · rw [if_neg q]
      have qn : (24 : Int) < k := by omega
      go_enter Try.func59, Try.ntmps59
      go_wp2_with (first
        | (go_at_call 54; (try rw [show decide ((24 : Int) < (k : Int)) = true from decide_eq_true (by omega)]); refine (refuse_t _).mono ?_; rintro _ wf ⟨rfl, hwf⟩; have hwf2 := hwf.symm; clear hwf; subst hwf2)
        | (go_at_call 51; refine NC.out.mono ?_; intro e8 w1 h8; obtain ⟨hk8, rfl, a1, c1, hR1⟩ := takes_some h8; have K1 := hid hk8; clear h8 hk8 hR1))
      exact ⟨rfl, K1.out, rfl⟩
set_option maxHeartbeats 1000000 in
theorem takeRecords_c {r : Nat} {a : Option Addr} {c : Nat} {zs : List Int} {w : World} (h : Rdr w r a c zs) :
    Calls Try.prog 27 #[.pointer (some ⟨r, 0, none⟩)] w (TakesL w r (recsP zs)) := by
  have LC := hid (takeList_c h)
  clear h
  obtain ⟨R, hR⟩ : ∃ R, R = recsP zs := ⟨_, rfl⟩
  rw [← hR] at LC ⊢
  clear hR
  unfold TakesL at LC
  rcases R with _ | ⟨l, u⟩
  · go_enter Try.func27, Try.ntmps27
    go_wp2_with (go_at_call 59; refine LC.out.mono ?_; rintro _ w1 ⟨hk, rfl⟩)
    exact ⟨rfl, hk, rfl⟩
  · go_enter Try.func27, Try.ntmps27
    go_wp2_with (go_at_call 59; refine LC.out.mono ?_; rintro _ w1 ⟨hk, ⟨v, rfl, hO⟩, hR⟩; obtain ⟨a1, c1, rfl⟩ := own_shapeR hO)
    go_ret
    exact ⟨hk, ⟨_, rfl, hO⟩, hR⟩
end Go.Proofs.Ytbgninmkglgfeaa
