/-
  Stamps and nodes of a snapshot out of their bytes: takeStamp, takeMeasured, takeList of the package record. (Written by gen_snapr.py.)
  Nodes with their lengths ahead out of their bytes: takeMeasured, takeList of the package record.
  A snapshot out of its bytes: takeSnapshot, takeAll, read, ReadSnapshot of the package record.
  A snapshot that is given; the law's small. (Written by gen_snapopen.py.)
-/
import Derived.Test.YtbgninmkglgfeaaGS
import Derived.Test.YtbgninmkglgfeaaRR7
namespace Go.Proofs.Ytbgninmkglgfeaa
open Go.RowKit Go.ChangeShapes Go.WideShapes Go.ChangeAt Go.Maps Go.Shelf
set_option linter.unusedVariables false
set_option linter.unusedSimpArgs false
def scells (l : List St) : List Value := l.flatMap St.cells
theorem scells_snoc (l : List St) (x : St) : scells (l ++ [x]) = scells l ++ x.cells := by unfold scells; simp
theorem scells_get (l : List St) (i j : Nat) (hi : i < l.length) (hj : j < 3) : (scells l)[i * 3 + j]? = (l.getD i St.no).cells[j]? := by
  induction l generalizing i with
  | nil => cases hi
  | cons x t ih =>
    unfold scells
    rw [List.flatMap_cons]
    rcases i with _ | i
    · rw [List.getElem?_append_left (by simp [St.cells]; omega)]
      simp
    · rw [List.getElem?_append_right (by simp [St.cells]; omega)]
      have e : (i + 1) * 3 + j - x.cells.length = i * 3 + j := by simp [St.cells]; omega
      rw [e]
      have := ih i (by simpa using hi)
      unfold scells at this
      rw [this]
      simp [List.getD]
theorem info_st : ∃ i : TypeInfo, Try.prog.info? 85 = some i ∧ i.zero = some St.no.val ∧ i.size = 3 ∧ i.bytes = 24 := by
  have h : (Try.prog.info? 85).map (fun i => (i.zero, i.size, i.bytes)) = some (some St.no.val, 3, 24) := by kernel_rfl
  cases hi : Try.prog.info? 85 with
  | none => rw [hi] at h; cases h
  | some i => rw [hi] at h; simp at h; exact ⟨i, rfl, h.1, h.2.1, h.2.2⟩
theorem isSs_own {w : World} {base : Nat} {v : Value} {l : List St} (h : w.ownsRow base 85 3 v l.length (scells l)) (hw : ∀ x ∈ l, x.Wf) (hm : l.length ≤ 100000) : ∃ a cap, v = .slice a l.length cap ∧ IsSs w a l := by
  rcases h.2 with ⟨hv, hn⟩ | ⟨g, cap, cur, hv, hrest⟩
  · have e : l = [] := List.eq_nil_of_length_eq_zero hn
    subst e
    exact ⟨none, 0, hv, ⟨Nat.zero_le _, (fun x hx => by cases hx), fun hp => absurd hp (by simp)⟩⟩
  · refine ⟨_, _, hv, ⟨by unfold maxLen; omega, hw, fun hp => ⟨g, 0, rfl, fun i hi => ?_⟩⟩⟩
    have key : ∀ j, j < 3 → ∀ u, (l.getD i St.no).cells[j]? = some u → w.cell? ⟨g, 0 + i * 3 + j, none⟩ = some u := fun j hj u hu => by
      have e := h.cells (g := g) (by rw [hv]; rfl) (i * 3 + j) u (by rw [scells_get l i j hi hj]; exact hu)
      rw [← e]
      congr 1
      unfold Addr.add
      split
      · rename_i q; simp [q]
      · simp
    exact ⟨key 0 (by omega) _ rfl, key 1 (by omega) _ rfl, key 2 (by omega) _ rfl⟩
set_option maxRecDepth 20000 in
set_option maxHeartbeats 2000000 in
theorem takeStamp_c {r : Nat} {a : Option Addr} {c : Nat} {zs : List Int} {w : World} (h : Rdr w r a c zs) :
    Calls Try.prog 88 #[.pointer (some ⟨r, 0, none⟩)] w (Takes w r ((stampP zs).map fun p => (p.1.val, p.2))) := by
  have hr0 := lt_blkR h.1
  have hin := rdr_in h
  have b0 := below_1 w (.cells St.no.cells.toArray 85)
  have hB0 := heap_alloc_new w (.cells St.no.cells.toArray 85)
  have NC := hid (takeFid_c (rdr_later h b0))
  have K0 : Hid (Kr r w (w.alloc (.cells St.no.cells.toArray 85))) := hid (Kr.of b0)
  have HB0 := hid hB0
  clear h b0 hB0
  have M0 : Hid (Kr r (w.alloc (.cells St.no.cells.toArray 85)) (w.alloc (.cells St.no.cells.toArray 85))) := hid (Kr.refl _ _)
  unfold stampP
  rcases h0 : numP 4 zs with _ | ⟨f, t⟩
  · rw [h0] at NC
    simp only [Option.map_none]
    clear hin
    go_enter Try.func88, Try.ntmps88
    go_wp2_with (go_at_call 52; refine NC.out.mono ?_; intro e9 w9 h9; obtain ⟨hk9, rfl⟩ := takes_none h9)
    exact ⟨rfl, K0.out.trans hk9, rfl⟩
  · rw [h0] at NC
    simp only
    obtain ⟨_, i1⟩ := numP_in hin h0
    rcases h1 : numP 8 t with _ | ⟨v, u⟩
    · simp only [Option.map_none]
      clear hin i1
      go_enter Try.func88, Try.ntmps88
      go_wp2_with (first
        | (go_at_call 51; refine TC.out.mono ?_; intro e9 w9 h9; obtain ⟨hk9, rfl⟩ := takes_none h9)
        | (go_at_call 52; refine NC.out.mono ?_; intro e8 w1 h8; obtain ⟨hk8, rfl, a1, c1, hR1⟩ := takes_some h8; have K1 := hid (K0.out.trans hk8); have TC := hid (tnum_c 8 hR1 (by omega)); rw [h1] at TC; clear h8 hk8 hR1))
      exact ⟨rfl, K1.out.trans hk9, rfl⟩
    · simp only
      obtain ⟨_, i2⟩ := numP_in i1 h1
      rcases h2 : numP 1 u with _ | ⟨k, x⟩
      · simp only [Option.map_none]
        clear hin i1 i2
        have t0 := hid True.intro
        go_enter Try.func88, Try.ntmps88
        go_wp2_with (first
          | (have _q := t1.out; clear _q; go_at_call 51; refine TD.out.mono ?_; intro e9 w9 h9; obtain ⟨hk9, rfl⟩ := takes_none h9)
          | (have _q := t0.out; clear _q; go_at_call 51; refine TC.out.mono ?_; intro e9 w2 h9; obtain ⟨hk9, rfl, a2, c2, hR2⟩ := takes_some h9; have K2 := hid (K1.out.trans hk9); have TD := hid (tnum_c 1 hR2 (by omega)); rw [h2] at TD; have t1 := hid True.intro; clear h9 hk9 hR2 t0)
          | (go_at_call 52; refine NC.out.mono ?_; intro e8 w1 h8; obtain ⟨hk8, rfl, a1, c1, hR1⟩ := takes_some h8; have K1 := hid (K0.out.trans hk8); have TC := hid (tnum_c 8 hR1 (by omega)); rw [h1] at TC; clear h8 hk8 hR1))
        exact ⟨rfl, K2.out.trans hk9, rfl⟩
      · obtain ⟨bk, _⟩ := numP_in i2 h2
        have ek : IntKind.u8.wrap k = k := by rw [IntKind.wrap_u8']; simp at bk; omega
        simp only [Option.map_some]
        clear hin i1 i2 bk
        have t0 := hid True.intro
        go_enter Try.func88, Try.ntmps88
        go_wp2_with (first
          | (have _q := t1.out; clear _q; go_at_call 51; refine TD.out.mono ?_; intro e9 w3 h9; obtain ⟨hk9, rfl, a3, c3, hR3⟩ := takes_some h9; have K3 := hid (K2.out.trans hk9); have hB2 := ((M2.out.trans hk9).block w.heap.size (by simp) (by omega)).trans HB0.out; (have q0 : w3.cell? ⟨w.heap.size, 0, none⟩ = some (.int .u32 0) := cell_of_row2 hB2 0 rfl); (have q1 : w3.cell? ⟨w.heap.size, 1, none⟩ = some (.int .u64 0) := cell_of_row2 hB2 1 rfl); (have q2 : w3.cell? ⟨w.heap.size, 2, none⟩ = some (.int .u8 0) := cell_of_row2 hB2 2 rfl); have fz : ∀ i, w3.frozen? ⟨w.heap.size, i, none⟩ = false := (fun i => by simp [World.frozen?, hB2]); clear h9 hk9 hB2 t1)
          | (have _q := t0.out; clear _q; go_at_call 51; refine TC.out.mono ?_; intro e9 w2 h9; obtain ⟨hk9, rfl, a2, c2, hR2⟩ := takes_some h9; have K2 := hid (K1.out.trans hk9); have M2 := hid (M1.out.trans hk9); have TD := hid (tnum_c 1 hR2 (by omega)); rw [h2] at TD; have t1 := hid True.intro; clear h9 hk9 hR2 t0)
          | (go_at_call 52; refine NC.out.mono ?_; intro e8 w1 h8; obtain ⟨hk8, rfl, a1, c1, hR1⟩ := takes_some h8; have K1 := hid (K0.out.trans hk8); have M1 := hid (M0.out.trans hk8); have TC := hid (tnum_c 8 hR1 (by omega)); rw [h1] at TC; clear h8 hk8 hR1))
        refine bodyPost_ret (v := St.val ⟨f, v, k⟩) (by simp [results, Try.results88, go_sem, St.val, q0, q1, q2]) rfl ⟨(((K3.out.new (Nat.le_refl _) 0 _).new (Nat.le_refl _) 1 _).new (Nat.le_refl _) 2 _), rfl, _, _, (rdr_new (rdr_new (rdr_new hR3 hr0 0 _) hr0 1 _) hr0 2 _)⟩
def TakesS (w : World) (r : Nat) (res : Option (List St × List Int)) (e : Ending) (w' : World) : Prop :=
  Kr r w w' ∧ match res with
    | some (l, rest) => (∃ v, e = .returned v ∧ w'.ownsRow w.heap.size 85 3 v l.length (scells l)) ∧ ∃ a c, Rdr w' r a c rest
    | none => e = PN
theorem stampsN_step {n : Nat} {z : List Int} : stampsN (n + 1) z = match stampP z with
    | none => none
    | some (x, t) => match stampsN n t with
      | none => none
      | some (l, u) => some (x :: l, u) := rfl
theorem st_news {w : World} {g : Nat} {x : St} {t : TypeId} {fr : Nat × Nat} (hb : w.heap[g]? = some (.cells x.cells.toArray t fr)) : ∀ j u, x.cells[j]? = some u → w.cell? ((⟨g, 0, none⟩ : Addr).add j) = some u := fun j u hu => by
  have e : (⟨g, 0, none⟩ : Addr).add j = ⟨g, 0 + j, none⟩ := by unfold Addr.add; split <;> simp_all
  rw [e, cell_of_row w g _ _ t fr hb]
  simpa using hu
theorem st_one (x : St) : ∀ u ∈ x.cells, u.oneCell' = true := fun u hu => by
  simp [St.cells] at hu
  rcases hu with rfl | rfl | rfl <;> rfl
/-- What is still to be read, behind what was read. -/
def LeftS (R : Option (List St × List Int)) (l : List St) (n : Nat) (z : List Int) : Prop := R = match stampsN n z with
  | none => none
  | some (t, u) => some (l ++ t, u)
theorem LeftS.none {R : Option (List St × List Int)} {l : List St} {n : Nat} {z : List Int} (h : LeftS R l (n + 1) z) (hp : stampP z = none) : R = none := by
  unfold LeftS at h
  rw [stampsN_step, hp] at h
  exact h
theorem LeftS.some {R : Option (List St × List Int)} {l : List St} {n : Nat} {z t : List Int} {x : St} (h : LeftS R l (n + 1) z) (hp : stampP z = some (x, t)) : LeftS R (l ++ [x]) n t := by
  unfold LeftS at h ⊢
  rw [stampsN_step, hp] at h
  simp only at h
  rw [h]
  rcases stampsN n t with _ | ⟨l', u⟩
  · rfl
  · simp
set_option maxRecDepth 20000 in
set_option maxHeartbeats 2000000 in
theorem takeListS_c {r : Nat} {a : Option Addr} {c : Nat} {zs : List Int} {w : World} (h : Rdr w r a c zs) :
    Calls Try.prog 87 #[.pointer (some ⟨r, 0, none⟩), .int .i64 40, .func (.func 88) #[] #[]] w (TakesS w r (stampsP zs)) := by
  obtain ⟨i0, hi, hz0, hz1, hz2⟩ := info_st
  have hr0 := lt_blkR h.1
  have NC := hid (tnum_c 1 h (by omega))
  have HBD := hid (fun m t (e : numP 1 zs = some (m, t)) => numP_bd h e)
  clear h
  unfold stampsP
  rcases h0 : numP 1 zs with _ | ⟨m, t⟩
  · rw [h0] at NC
    simp only
    go_enter Try.func87, Try.ntmps87
    go_wp2_with (go_at_call 51; refine NC.out.mono ?_; intro e9 w9 h9; obtain ⟨hk9, rfl⟩ := takes_none h9)
    exact ⟨rfl, hk9, rfl⟩
  · obtain ⟨m0, m1⟩ := HBD.out m t h0
    have m1' : m < 256 := by simpa using m1
    have kc : IntKind.i64.wrap m = m := by rw [IntKind.wrap_i64]; omega
    obtain ⟨k, rfl⟩ : ∃ k : Nat, m = k := ⟨m.toNat, by omega⟩
    rw [h0] at NC
    simp only [Int.toNat_natCast]
    clear m1 HBD h0
    by_cases q : (k : Int) ≤ 40
    · rw [if_pos q]
      have qn : ¬ (40 : Int) < k := by omega
      obtain ⟨R, hR⟩ : ∃ R, R = stampsN k t := ⟨_, rfl⟩
      rw [← hR]
      have HL0 : Hid (LeftS R [] k t) := hid (by unfold LeftS; rw [hR]; rcases stampsN k t with _ | ⟨l', u⟩ <;> rfl)
      clear hR
      go_enter Try.func87, Try.ntmps87
      go_wp2_with (first
        | (go_at_call 54; rw [show decide ((40 : Int) < (k : Int)) = false from decide_eq_false (by omega)]; refine (refuse_f _).mono ?_; rintro _ wf ⟨rfl, hwf⟩; have hwf2 := hwf.symm; clear hwf; subst hwf2)
        | (go_at_call 51; refine NC.out.mono ?_; intro e8 w1 h8; obtain ⟨hk8, rfl, a1, c1, hR1⟩ := takes_some h8; have K1 := hid hk8; have HR1 := hid hR1; clear h8 hk8 hR1))
      go_loopg [8, 17] k (fun g v8 v17 wr => ∃ (j : Nat) (l : List St) (z : List Int) (a : Option Addr) (c : Nat), j + g = k ∧ l.length = j ∧ v17 = .int .i64 j ∧ Hid (wr.ownsRow w.heap.size 85 3 v8 l.length (scells l)) ∧ Hid (Rdr wr r a c z) ∧ Hid (Kr r w wr) ∧ Hid (LeftS R l g z))
      case atStart => exact ⟨0, [], t, a1, c1, by omega, rfl, rfl, hid (World.ownsRow_nil _ _ 85 3), HR1, K1, HL0⟩
      case round =>
        clear HR1 K1 HL0
        obtain ⟨_, l, z, a2, c2, hjg, rfl, rfl, HO, HR, HK, HLF⟩ := hrel
        obtain ⟨va, vc, rfl⟩ := own_shapeR HO.out
        by_cases hlt : l.length < k
        · have hltI : (l.length : Int) < k := by omega
          obtain ⟨g1, rfl⟩ : ∃ g1, gk = g1 + 1 := ⟨gk - 1, by omega⟩
          have TC := hid (takeStamp_c HR.out)
          rcases hp : stampP z with _ | ⟨x, u⟩
          · have HN := hid (HLF.out.none hp)
            rw [hp] at TC
            simp only [Option.map_none] at TC
            go_wp2_with (go_at_call 88; refine TC.out.mono ?_; intro e9 w9 h9; obtain ⟨hk9, rfl⟩ := takes_none h9)
            exact ⟨rfl, HK.out.trans hk9, by rw [HN.out]⟩
          · have HN := hid (HLF.out.some hp)
            rw [hp] at TC
            simp only [Option.map_some] at TC
            unfold St.val at TC
            go_wp2_with (first
              | (at_builtin; refine wpList_append_own _ rfl _ _ 47 rfl w.heap.size 85 i0 St.no.val 3 24 Try.underlying47 hi hz0 hz1 hz2 (by rfl) (by decide) _ _ _ rfl O4.out ⟨w3.heap.size, 0, none⟩ 1 1 x.cells rfl rfl (st_news N4.out) (st_one x) (by unfold maxLen; omega) (by omega) (Nat.le_trans K4.out.size (Nat.le_refl _)) ?_; intro v9 w9 hown9 hgrow9 hnil9)
              | (go_at_call 88; refine TC.out.mono ?_; intro e9 w3 h9; obtain ⟨hk9, rfl, a3, c3, hR3⟩ := takes_some h9
                 have b4 := below_1 w3 (.cells x.cells.toArray 85)
                 have K4 := hid ((HK.out.trans hk9).trans (Kr.of b4))
                 have O4 := hid (own_latR (own_kr HO.out hk9 hr0) b4)
                 have R4 := hid (rdr_later hR3 b4)
                 have N4 := hid (heap_alloc_new w3 (.cells x.cells.toArray 85))
                 clear h9 hk9 hR3 b4))
            have O9 : Hid (w9.ownsRow w.heap.size 85 3 v9 (l ++ [x]).length (scells (l ++ [x]))) := hid (by rw [List.length_append, scells_snoc]; exact hown9)
            have K9 := hid (kr_grown (base := 0) K4.out O4.out hgrow9)
            have R9 := hid (rdr_grown R4.out O4.out hgrow9 hr0)
            obtain ⟨a9, c9, rfl⟩ := own_shapeR hown9
            clear hown9 hgrow9 hnil9
            go_roundg g1
            case measure => omega
            case rel => exact ⟨l.length + 1, l ++ [x], u, a3, c3, by omega, by rw [List.length_append]; rfl, by go_num, O9, R9, K9, HN⟩
        · have em : l.length = k := by omega
          have hg0 : gk = 0 := by omega
          subst em
          subst hg0
          have hge : ¬ (l.length : Int) < l.length := by omega
          have HE : Hid (R = some (l, z)) := hid (by have := HLF.out; unfold LeftS at this; simpa [stampsN] using this)
          go_wp2
          go_ret
          rw [HE.out]
          exact ⟨HK.out, ⟨_, rfl, HO.out⟩, _, _, HR.out⟩
    · rw [if_neg q]
      have qn : (40 : Int) < k := by omega
      go_enter Try.func87, Try.ntmps87
      go_wp2_with (first
        | (go_at_call 54; (try rw [show decide ((40 : Int) < (k : Int)) = true from decide_eq_true (by omega)]); refine (refuse_t _).mono ?_; rintro _ wf ⟨rfl, hwf⟩; have hwf2 := hwf.symm; clear hwf; subst hwf2)
        | (go_at_call 51; refine NC.out.mono ?_; intro e8 w1 h8; obtain ⟨hk8, rfl, a1, c1, hR1⟩ := takes_some h8; have K1 := hid hk8; clear h8 hk8 hR1))
      exact ⟨rfl, K1.out, rfl⟩
end Go.Proofs.Ytbgninmkglgfeaa
namespace Go.Proofs.Ytbgninmkglgfeaa
open Go.RowKit Go.ChangeShapes Go.WideShapes Go.ChangeAt Go.Maps Go.Shelf
set_option linter.unusedVariables false
set_option linter.unusedSimpArgs false
theorem allN_none {w w' : World} {e : Ending} (h : AllN w none e w') : Below w.heap.size w w' ∧ e = PN := h
theorem allN_some {w w' : World} {x : Nd} {e : Ending} (h : AllN w (some x) e w') : Below w.heap.size w w' ∧ ∃ da dc ka kc, e = .returned (x.lie da dc ka kc).val ∧ NdOwn w' w.heap.size (x.lie da dc ka kc) := h
set_option maxRecDepth 20000 in
set_option maxHeartbeats 2000000 in
theorem takeMeasured_c {r : Nat} {a : Option Addr} {c : Nat} {zs : List Int} {w : World} (h : Rdr w r a c zs) :
    Calls Try.prog 86 #[.pointer (some ⟨r, 0, none⟩)] w (TakesN w r (measP zs)) := by
  have hr0 := lt_blkR h.1
  have b0 := below_1 w (.cells Nd.no.cells.toArray 39)
  have hB0 := heap_alloc_new w (.cells Nd.no.cells.toArray 39)
  have NC := hid (tnum_c 2 (rdr_later h b0) (by omega))
  have HBD := hid (fun m t (e : numP 2 zs = some (m, t)) => numP_bd h e)
  have K0 : Hid (Kr r w (w.alloc (.cells Nd.no.cells.toArray 39))) := hid (Kr.of b0)
  have M0 : Hid (Kr r (w.alloc (.cells Nd.no.cells.toArray 39)) (w.alloc (.cells Nd.no.cells.toArray 39))) := hid (Kr.refl _ _)
  have HB0 := hid hB0
  clear h b0 hB0
  unfold measP
  unfold Takes at NC
  rcases hn : numP 2 zs with _ | ⟨m, t⟩
  · rw [hn] at NC
    simp only [Option.map_none] at NC ⊢
    go_enter Try.func86, Try.ntmps86
    go_wp2_with (go_at_call 51; refine NC.out.mono ?_; rintro _ w1 ⟨hk, rfl⟩)
    exact ⟨rfl, K0.out.trans hk, rfl⟩
  · obtain ⟨m0, m1⟩ := HBD.out m t hn
    rw [hn] at NC
    simp only [Option.map_some] at NC ⊢
    have m1' : m < 65536 := by simpa using m1
    have kc : IntKind.i64.wrap m = m := by rw [IntKind.wrap_i64]; omega
    obtain ⟨k, rfl⟩ : ∃ k : Nat, m = k := ⟨m.toNat, by omega⟩
    rw [Int.toNat_natCast]
    clear m1 HBD hn
    by_cases q : k ≤ t.length
    · rw [if_pos q]
      rcases hx : nodeAll (t.take k) with _ | x
      · simp only
        go_enter Try.func86, Try.ntmps86
        go_wp2_with (first
          | (go_at_call 62; refine AC.out.mono ?_; intro e3 w3 h3; obtain ⟨hb3, rfl⟩ := allN_none h3)
          | (go_at_call 94; refine PC.out.mono ?_; rintro _ w2 ⟨⟨rfl, hI⟩, a2, u2, hw2, hR2⟩
             have K2 := hid (K1.out.trans (show Kr r w1 w2 by rw [hw2]; exact Kr.set r w1 u2))
             have AC := hid (takeAllN_c a1 k c1 (t.take k) w2 hI (Nat.le_trans q HL1.out.1) (by
               rcases HL1.out.2 with hl | ⟨b, off, e, hb⟩
               · exact .inl hl
               · exact .inr ⟨b, off, e, Nat.lt_trans hb (lt_blkR hR2.1)⟩))
             rw [hx] at AC
             clear hI hR2 hw2)
          | (go_at_call 51; refine NC.out.mono ?_; rintro _ w1 ⟨hk, rfl, a1, c1, hR1⟩; have K1 := hid (K0.out.trans hk); have PC := hid (piece2_c r a1 c1 t k w1 hR1 (by omega)); unfold PiecePost2 at PC; simp only [if_pos q] at PC; have HL1 := hid hR1.2.2; clear hk hR1))
        exact ⟨rfl, K2.out.trans (Kr.of hb3), rfl⟩
      · simp only
        go_enter Try.func86, Try.ntmps86
        go_wp2_with (first
          | (go_at_call 62; refine AC.out.mono ?_; intro e3 w3 h3; obtain ⟨hb3, da, dc, ka, kc, rfl, hO3⟩ := allN_some h3
             have K3 := hid (K2.out.trans (Kr.of hb3))
             have M3 := hid (M2.out.trans (Kr.of hb3))
             have R3 := hid (rdr_later HR2.out hb3)
             have O3 := hid (hO3.low (b := w.heap.size + 1) (by have := M2.out.size; simp at this; omega))
             have hB3 := (M3.out.block w.heap.size (by simp) (by omega)).trans HB0.out
             obtain ⟨q0, q1, q2, q3, q4, q5⟩ := nd_cells hB3
             have fz : ∀ i, w3.frozen? ⟨w.heap.size, i, none⟩ = false := fun i => by simp [World.frozen?, hB3]
             unfold Nd.lie Nd.val
             simp only [Nd.no, List.length_nil] at q0 q1 q2 q3 q4 q5
             clear h3 hb3 hO3 hB3)
          | (go_at_call 94; refine PC.out.mono ?_; rintro _ w2 ⟨⟨rfl, hI⟩, a2, u2, hw2, hR2⟩
             have K2 := hid (K1.out.trans (show Kr r w1 w2 by rw [hw2]; exact Kr.set r w1 u2))
             have M2 := hid (M1.out.trans (show Kr r w1 w2 by rw [hw2]; exact Kr.set r w1 u2))
             have AC := hid (takeAllN_c a1 k c1 (t.take k) w2 hI (Nat.le_trans q HL1.out.1) (by
               rcases HL1.out.2 with hl | ⟨b, off, e, hb⟩
               · exact .inl hl
               · exact .inr ⟨b, off, e, Nat.lt_trans hb (lt_blkR hR2.1)⟩))
             rw [hx] at AC
             have HR2 := hid hR2
             clear hI hR2 hw2)
          | (go_at_call 51; refine NC.out.mono ?_; rintro _ w1 ⟨hk, rfl, a1, c1, hR1⟩; have K1 := hid (K0.out.trans hk); have M1 := hid (M0.out.trans hk); have PC := hid (piece2_c r a1 c1 t k w1 hR1 (by omega)); unfold PiecePost2 at PC; simp only [if_pos q] at PC; have HL1 := hid hR1.2.2; clear hk hR1))
        have L : w.heap.size < w.heap.size + 1 := Nat.lt_succ_self _
        refine bodyPost_ret (v := Nd.val (⟨x.fid, x.k, x.md, x.ln, da, dc, x.zs, ka, kc, x.ks⟩ : Nd)) (by simp [results, Try.results86, go_sem, Nd.val, q0, q1, q2, q3, q4, q5]) rfl ⟨((((((K3.out.new (Nat.le_refl _) 0 _).new (Nat.le_refl _) 1 _).new (Nat.le_refl _) 2 _).new (Nat.le_refl _) 3 _).new (Nat.le_refl _) 4 _).new (Nat.le_refl _) 5 _), ⟨da, dc, ka, kc, rfl, ?_⟩, _, _, (rdr_new (rdr_new (rdr_new (rdr_new (rdr_new (rdr_new R3.out hr0 0 _) hr0 1 _) hr0 2 _) hr0 3 _) hr0 4 _) hr0 5 _)⟩
        exact ((((((O3.out.set L _).set L _).set L _).set L _).set L _).set L _).low (Nat.le_succ _)
    · rw [if_neg q]
      go_enter Try.func86, Try.ntmps86
      go_wp2_with (first
        | (go_at_call 94; refine PC.out.mono ?_; rintro _ w2 ⟨rfl, hw2⟩)
        | (go_at_call 51; refine NC.out.mono ?_; rintro _ w1 ⟨hk, rfl, a1, c1, hR1⟩; have K1 := hid (K0.out.trans hk); have PC := hid (piece2_c r a1 c1 t k w1 hR1 (by omega)); unfold PiecePost2 at PC; simp only [if_neg q] at PC; clear hk hR1))
      refine ⟨rfl, ?_, rfl⟩
      first | exact K1.out | (rw [hw2]; exact K1.out)
def ncells (l : List Nd) : List Value := l.flatMap Nd.cells
theorem ncells_snoc (l : List Nd) (x : Nd) : ncells (l ++ [x]) = ncells l ++ x.cells := by unfold ncells; simp
theorem ncells_get (l : List Nd) (i j : Nat) (hi : i < l.length) (hj : j < 6) : (ncells l)[i * 6 + j]? = (l.getD i Nd.no).cells[j]? := by
  induction l generalizing i with
  | nil => cases hi
  | cons x t ih =>
    unfold ncells
    rw [List.flatMap_cons]
    rcases i with _ | i
    · rw [List.getElem?_append_left (by simp [Nd.cells]; omega)]
      simp
    · rw [List.getElem?_append_right (by simp [Nd.cells]; omega)]
      have e : (i + 1) * 6 + j - x.cells.length = i * 6 + j := by simp [Nd.cells]; omega
      rw [e]
      have := ih i (by simpa using hi)
      unfold ncells at this
      rw [this]
      simp [List.getD]
theorem info_nd : ∃ i : TypeInfo, Try.prog.info? 39 = some i ∧ i.zero = some Nd.no.val ∧ i.size = 6 ∧ i.bytes = 64 := by
  have h : (Try.prog.info? 39).map (fun i => (i.zero, i.size, i.bytes)) = some (some Nd.no.val, 6, 64) := by kernel_rfl
  cases hi : Try.prog.info? 39 with
  | none => rw [hi] at h; cases h
  | some i => rw [hi] at h; simp at h; exact ⟨i, rfl, h.1, h.2.1, h.2.2⟩
theorem RowAt.kr {w w' : World} {r base : Nat} {t : TypeId} {p : Option Addr} {vs : List Value} (h : RowAt w base t p vs) (hk : Kr r w w') (hr : r < base) : RowAt w' base t p vs := by
  rcases h with h | ⟨g, cs, fr, h1, h2, h3, h4⟩
  · exact .inl h
  · exact .inr ⟨g, cs, fr, h1, h2, (hk.block _ (lt_blkR h3) (by omega)).trans h3, h4⟩
theorem NdAt.kr {w w' : World} {r base : Nat} {x : Nd} (h : NdAt w base x) (hk : Kr r w w') (hr : r < base) : NdAt w' base x := ⟨h.1, h.2.1.kr hk hr, h.2.2.kr hk hr⟩
/-- Nodes that the call owns. -/
def NsOwn (w : World) (base : Nat) (v : Value) (L : List Nd) : Prop := w.ownsRow base 39 6 v L.length (ncells L) ∧ ∀ x ∈ L, NdAt w base x
theorem NsOwn.nil (w : World) (base : Nat) : NsOwn w base (.slice none 0 0) [] := ⟨World.ownsRow_nil _ _ _ _, fun x hx => by cases hx⟩
theorem NsOwn.later {w w' : World} {base : Nat} {v : Value} {L : List Nd} (h : NsOwn w base v L) (hb : Below w.heap.size w w') : NsOwn w' base v L := ⟨own_latR h.1 hb, fun x hx => (h.2 x hx).later hb⟩
theorem NsOwn.kr {w w' : World} {r base : Nat} {v : Value} {L : List Nd} (h : NsOwn w base v L) (hk : Kr r w w') (hr : r < base) : NsOwn w' base v L := ⟨own_kr h.1 hk hr, fun x hx => (h.2 x hx).kr hk hr⟩
theorem NsOwn.low {w : World} {base b : Nat} {v : Value} {L : List Nd} (h : NsOwn w base v L) (hb : b ≤ base) : NsOwn w b v L := ⟨own_low h.1 hb, fun x hx => (h.2 x hx).low hb⟩
theorem NsOwn.set {w : World} {base : Nat} {v : Value} {L : List Nd} {p : Addr} (h : NsOwn w base v L) (hp : p.block < base) (u : Value) : NsOwn (w.setCell p u) base v L := ⟨own_set h.1 hp u, fun x hx => (h.2 x hx).set hp u⟩
theorem NsOwn.is {w : World} {base : Nat} {v : Value} {L : List Nd} (h : NsOwn w base v L) (hm : L.length ≤ 100000) : ∃ a cap, v = .slice a L.length cap ∧ IsNs w a L := by
  rcases h.1.2 with ⟨hv, hn⟩ | ⟨g, cap, cur, hv, hrest⟩
  · have e : L = [] := List.eq_nil_of_length_eq_zero hn
    subst e
    exact ⟨none, 0, hv, ⟨Nat.zero_le _, (fun x hx => by cases hx), fun hp => absurd hp (by simp)⟩⟩
  · refine ⟨_, _, hv, ⟨by unfold maxLen; omega, fun x hx => (h.2 x hx).ok, fun hp => ⟨g, 0, rfl, fun i hi => ?_⟩⟩⟩
    intro j u hu
    have hj : j < 6 := by
      have := (List.getElem?_eq_some_iff.1 hu).1
      simpa [Nd.cells] using this
    have e := h.1.cells (g := g) (by rw [hv]; rfl) (i * 6 + j) u (by rw [ncells_get L i j hi hj]; exact hu)
    rw [← e]
    congr 1
    unfold Addr.add
    split
    · rename_i q; simp [q]
    · simp
theorem nd_news {w : World} {g : Nat} {x : Nd} {t : TypeId} {fr : Nat × Nat} (hb : w.heap[g]? = some (.cells x.cells.toArray t fr)) : ∀ j u, x.cells[j]? = some u → w.cell? ((⟨g, 0, none⟩ : Addr).add j) = some u := fun j u hu => by
  have e : (⟨g, 0, none⟩ : Addr).add j = ⟨g, 0 + j, none⟩ := by unfold Addr.add; split <;> simp_all
  rw [e, cell_of_row w g _ _ t fr hb]
  simpa using hu
theorem nd_one (x : Nd) : ∀ u ∈ x.cells, u.oneCell' = true := fun u hu => by
  simp [Nd.cells] at hu
  rcases hu with rfl | rfl | rfl | rfl | rfl | rfl <;> rfl
def TakesM (w : World) (r : Nat) (res : Option (List Nd × List Int)) (e : Ending) (w' : World) : Prop :=
  Kr r w w' ∧ match res with
    | some (l, rest) => (∃ v L, e = .returned v ∧ L.map Nd.er = l.map Nd.er ∧ NsOwn w' w.heap.size v L) ∧ ∃ a c, Rdr w' r a c rest
    | none => e = PN
theorem measN_step {n : Nat} {z : List Int} : measN (n + 1) z = match measP z with
    | none => none
    | some (x, t) => match measN n t with
      | none => none
      | some (l, u) => some (x :: l, u) := rfl
/-- What is still to be read, behind what was read. -/
def LeftM (R : Option (List Nd × List Int)) (l : List Nd) (n : Nat) (z : List Int) : Prop := R = match measN n z with
  | none => none
  | some (t, u) => some (l ++ t, u)
theorem LeftM.none {R : Option (List Nd × List Int)} {l : List Nd} {n : Nat} {z : List Int} (h : LeftM R l (n + 1) z) (hp : measP z = none) : R = none := by
  unfold LeftM at h
  rw [measN_step, hp] at h
  exact h
theorem LeftM.some {R : Option (List Nd × List Int)} {l : List Nd} {n : Nat} {z t : List Int} {x : Nd} (h : LeftM R l (n + 1) z) (hp : measP z = some (x, t)) : LeftM R (l ++ [x]) n t := by
  unfold LeftM at h ⊢
  rw [measN_step, hp] at h
  simp only at h
  rw [h]
  rcases measN n t with _ | ⟨l', u⟩
  · rfl
  · simp
set_option maxRecDepth 20000 in
set_option maxHeartbeats 2000000 in
theorem takeListM_c {r : Nat} {a : Option Addr} {c : Nat} {zs : List Int} {w : World} (h : Rdr w r a c zs) :
    Calls Try.prog 85 #[.pointer (some ⟨r, 0, none⟩), .int .i64 40, .func (.func 86) #[] #[]] w (TakesM w r (measuresP zs)) := by
  obtain ⟨i0, hi, hz0, hz1, hz2⟩ := info_nd
  have hr0 := lt_blkR h.1
  have NC := hid (tnum_c 1 h (by omega))
  have HBD := hid (fun m t (e : numP 1 zs = some (m, t)) => numP_bd h e)
  clear h
  unfold measuresP
  rcases h0 : numP 1 zs with _ | ⟨m, t⟩
  · rw [h0] at NC
    simp only
    go_enter Try.func85, Try.ntmps85
    go_wp2_with (go_at_call 51; refine NC.out.mono ?_; intro e9 w9 h9; obtain ⟨hk9, rfl⟩ := takes_none h9)
    exact ⟨rfl, hk9, rfl⟩
  · obtain ⟨m0, m1⟩ := HBD.out m t h0
    have m1' : m < 256 := by simpa using m1
    have kc : IntKind.i64.wrap m = m := by rw [IntKind.wrap_i64]; omega
    obtain ⟨k, rfl⟩ : ∃ k : Nat, m = k := ⟨m.toNat, by omega⟩
    rw [h0] at NC
    simp only [Int.toNat_natCast]
    clear m1 HBD h0
    by_cases q : (k : Int) ≤ 40
    · rw [if_pos q]
      have qn : ¬ (40 : Int) < k := by omega
      obtain ⟨R, hR⟩ : ∃ R, R = measN k t := ⟨_, rfl⟩
      rw [← hR]
      have HL0 : Hid (LeftM R [] k t) := hid (by unfold LeftM; rw [hR]; rcases measN k t with _ | ⟨l', u⟩ <;> rfl)
      clear hR
      go_enter Try.func85, Try.ntmps85
      go_wp2_with (first
        | (go_at_call 54; rw [show decide ((40 : Int) < (k : Int)) = false from decide_eq_false (by omega)]; refine (refuse_f _).mono ?_; rintro _ wf ⟨rfl, hwf⟩; have hwf2 := hwf.symm; clear hwf; subst hwf2)
        | (go_at_call 51; refine NC.out.mono ?_; intro e8 w1 h8; obtain ⟨hk8, rfl, a1, c1, hR1⟩ := takes_some h8; have K1 := hid hk8; have HR1 := hid hR1; clear h8 hk8 hR1))
      go_loopg [8, 17] k (fun g v8 v17 wr => ∃ (j : Nat) (l L : List Nd) (z : List Int) (a : Option Addr) (c : Nat), j + g = k ∧ L.length = j ∧ v17 = .int .i64 j ∧ Hid (L.map Nd.er = l.map Nd.er) ∧ Hid (NsOwn wr w.heap.size v8 L) ∧ Hid (Rdr wr r a c z) ∧ Hid (Kr r w wr) ∧ Hid (LeftM R l g z))
      case atStart => exact ⟨0, [], [], t, a1, c1, by omega, rfl, rfl, hid rfl, hid (NsOwn.nil _ _), HR1, K1, HL0⟩
      case round =>
        clear HR1 K1 HL0
        obtain ⟨_, l, L, z, a2, c2, hjg, rfl, rfl, HM, HO, HR, HK, HLF⟩ := hrel
        obtain ⟨va, vc, rfl⟩ := own_shapeR HO.out.1
        by_cases hlt : L.length < k
        · have hltI : (L.length : Int) < k := by omega
          obtain ⟨g1, rfl⟩ : ∃ g1, gk = g1 + 1 := ⟨gk - 1, by omega⟩
          have TC := hid (takeMeasured_c HR.out)
          rcases hp : measP z with _ | ⟨x, u⟩
          · have HN := hid (HLF.out.none hp)
            rw [hp] at TC
            go_wp2_with (go_at_call 86; refine TC.out.mono ?_; intro e9 w9 h9; obtain ⟨hk9, rfl⟩ := takesN_none h9)
            exact ⟨rfl, HK.out.trans hk9, by rw [HN.out]⟩
          · have HN := hid (HLF.out.some hp)
            rw [hp] at TC
            go_wp2_with (first
              | (at_builtin; refine wpList_append_own _ rfl _ _ 46 rfl w.heap.size 39 i0 Nd.no.val 6 64 Try.underlying46 hi hz0 hz1 hz2 (by rfl) (by decide) _ _ _ rfl O4.out.1 ⟨w3.heap.size, 0, none⟩ 1 1 (⟨x.fid, x.k, x.md, x.ln, da, dc, x.zs, ka, kc2, x.ks⟩ : Nd).cells rfl rfl (nd_news (x := ⟨x.fid, x.k, x.md, x.ln, da, dc, x.zs, ka, kc2, x.ks⟩) N4.out) (nd_one _) (by unfold maxLen; omega) (by omega) (Nat.le_trans K4.out.size (Nat.le_refl _)) ?_; intro v9 w9 hown9 hgrow9 hnil9)
              | (go_at_call 86; refine TC.out.mono ?_; intro e9 w3 h9; obtain ⟨hk9, ⟨da, dc, ka, kc2, rfl, hX3⟩, a3, c3, hR3⟩ := takesN_some h9
                 have b4 := below_1 w3 (.cells (⟨x.fid, x.k, x.md, x.ln, da, dc, x.zs, ka, kc2, x.ks⟩ : Nd).cells.toArray 39)
                 have K4 := hid ((HK.out.trans hk9).trans (Kr.of b4))
                 have O4 := hid ((HO.out.kr hk9 hr0).later b4)
                 have X4 := hid ((hX3.at.later b4).low HK.out.size)
                 have R4 := hid (rdr_later hR3 b4)
                 have N4 := hid (heap_alloc_new w3 (.cells (⟨x.fid, x.k, x.md, x.ln, da, dc, x.zs, ka, kc2, x.ks⟩ : Nd).cells.toArray 39))
                 unfold Nd.lie Nd.val
                 clear h9 hk9 hR3 b4 hX3))
            have O9 : Hid (NsOwn w9 w.heap.size v9 (L ++ [x.lie da dc ka kc2])) := hid ⟨by rw [List.length_append, ncells_snoc]; exact hown9, fun y hy => (List.mem_append.1 hy).elim (fun hy => ⟨(O4.out.2 y hy).1, (O4.out.2 y hy).2.1.grown O4.out.1 (by decide) hgrow9, (O4.out.2 y hy).2.2.grown O4.out.1 (by decide) hgrow9⟩) (fun hy => by rw [List.mem_singleton.1 hy]; exact ⟨X4.out.1, X4.out.2.1.grown O4.out.1 (by decide) hgrow9, X4.out.2.2.grown O4.out.1 (by decide) hgrow9⟩)⟩
            have K9 := hid (kr_grown (base := 0) K4.out O4.out.1 hgrow9)
            have R9 := hid (rdr_grown R4.out O4.out.1 hgrow9 hr0)
            obtain ⟨a9, c9, rfl⟩ := own_shapeR hown9
            clear hown9 hgrow9 hnil9
            go_roundg g1
            case measure => omega
            case rel => exact ⟨L.length + 1, l ++ [x], L ++ [x.lie da dc ka kc2], u, a3, c3, by omega, by rw [List.length_append]; rfl, by go_num, hid (by rw [List.map_append, List.map_append, HM.out]; rfl), O9, R9, K9, HN⟩
        · have em : L.length = k := by omega
          have hg0 : gk = 0 := by omega
          subst em
          subst hg0
          have hge : ¬ (L.length : Int) < L.length := by omega
          have HE : Hid (R = some (l, z)) := hid (by have := HLF.out; unfold LeftM at this; simpa [measN] using this)
          go_wp2
          go_ret
          rw [HE.out]
          exact ⟨HK.out, ⟨_, L, rfl, HM.out, HO.out⟩, _, _, HR.out⟩
    · rw [if_neg q]
      have qn : (40 : Int) < k := by omega
      go_enter Try.func85, Try.ntmps85
      go_wp2_with (first
        | (go_at_call 54; (try rw [show decide ((40 : Int) < (k : Int)) = true from decide_eq_true (by omega)]); refine (refuse_t _).mono ?_; rintro _ wf ⟨rfl, hwf⟩; have hwf2 := hwf.symm; clear hwf; subst hwf2)
        | (go_at_call 51; refine NC.out.mono ?_; intro e8 w1 h8; obtain ⟨hk8, rfl, a1, c1, hR1⟩ := takes_some h8; have K1 := hid hk8; clear h8 hk8 hR1))
      exact ⟨rfl, K1.out, rfl⟩
end Go.Proofs.Ytbgninmkglgfeaa
namespace Go.Proofs.Ytbgninmkglgfeaa
open Go.RowKit Go.ChangeShapes Go.WideShapes Go.ChangeAt Go.Maps Go.Shelf
set_option linter.unusedVariables false
set_option linter.unusedSimpArgs false
/-- A snapshot that the call owns. -/
def SnOwn (w : World) (base : Nat) (a : Option Addr) (ca : Nat) (L : List Nd) (b : Option Addr) (cb : Nat) (ss : List St) : Prop :=
  NsOwn w base (.slice a L.length ca) L ∧ w.ownsRow base 85 3 (.slice b ss.length cb) ss.length (scells ss) ∧ (∀ x ∈ ss, x.Wf) ∧ L.length ≤ 40 ∧ ss.length ≤ 40
section
variable {w w' : World} {base r : Nat} {a b : Option Addr} {ca cb : Nat} {L : List Nd} {ss : List St}
theorem SnOwn.later (h : SnOwn w base a ca L b cb ss) (hb : Below w.heap.size w w') : SnOwn w' base a ca L b cb ss := ⟨h.1.later hb, own_latR h.2.1 hb, h.2.2⟩
theorem SnOwn.low (h : SnOwn w base a ca L b cb ss) {b' : Nat} (hb : b' ≤ base) : SnOwn w b' a ca L b cb ss := ⟨h.1.low hb, own_low h.2.1 hb, h.2.2⟩
theorem SnOwn.set (h : SnOwn w base a ca L b cb ss) {p : Addr} (hp : p.block < base) (u : Value) : SnOwn (w.setCell p u) base a ca L b cb ss := ⟨h.1.set hp u, own_set h.2.1 hp u, h.2.2⟩
theorem SnOwn.ns (h : SnOwn w base a ca L b cb ss) : IsNs w a L := by
  obtain ⟨p, c, e, hI⟩ := h.1.is (by have := h.2.2.2.1; omega)
  simp only [Value.slice.injEq] at e
  rw [e.1]; exact hI
theorem SnOwn.st (h : SnOwn w base a ca L b cb ss) : IsSs w b ss := by
  obtain ⟨p, c, e, hI⟩ := isSs_own h.2.1 h.2.2.1 (by have := h.2.2.2.2; omega)
  simp only [Value.slice.injEq] at e
  rw [e.1]; exact hI
end
def snV (a : Option Addr) (n ca : Nat) (b : Option Addr) (m cb : Nat) : Value := .agg #[.slice a n ca, .slice b m cb]
def snNo : Value := .agg #[.slice none 0 0, .slice none 0 0]
def snC0 : Array Value := #[.slice none 0 0, .slice none 0 0]
theorem sn_cells {W : World} {g : Nat} {u v : Value} {t : TypeId} {fr : Nat × Nat} (h : W.heap[g]? = some (.cells #[u, v] t fr)) : W.cell? ⟨g, 0, none⟩ = some u ∧ W.cell? ⟨g, 1, none⟩ = some v := by
  constructor
  · rw [cell_of_row W g _ _ _ _ h]; rfl
  · rw [cell_of_row W g _ _ _ _ h]; rfl
theorem takesM_none {w w' : World} {r : Nat} {e : Ending} (h : TakesM w r none e w') : Kr r w w' ∧ e = PN := h
theorem takesM_some {w w' : World} {r : Nat} {l : List Nd} {t : List Int} {e : Ending} (h : TakesM w r (some (l, t)) e w') : Kr r w w' ∧ (∃ v L, e = .returned v ∧ L.map Nd.er = l.map Nd.er ∧ NsOwn w' w.heap.size v L) ∧ ∃ a c, Rdr w' r a c t := h
theorem takesS_none {w w' : World} {r : Nat} {e : Ending} (h : TakesS w r none e w') : Kr r w w' ∧ e = PN := h
theorem takesS_some {w w' : World} {r : Nat} {l : List St} {t : List Int} {e : Ending} (h : TakesS w r (some (l, t)) e w') : Kr r w w' ∧ (∃ v, e = .returned v ∧ w'.ownsRow w.heap.size 85 3 v l.length (scells l)) ∧ ∃ a c, Rdr w' r a c t := h
def TakesZ (w : World) (r : Nat) (zs : List Int) (e : Ending) (w' : World) : Prop := Kr r w w' ∧
  ((∃ ns ss rest, snapP zs = some ((ns, ss), rest) ∧ RSnap ns ss ∧ (∃ a ca b cb L, e = .returned (snV a L.length ca b ss.length cb) ∧ L.map Nd.er = ns.map Nd.er ∧ SnOwn w' w.heap.size a ca L b cb ss) ∧ ∃ a c, Rdr w' r a c rest)
  ∨ ((∀ ns ss rest, snapP zs = some ((ns, ss), rest) → ¬ RSnap ns ss) ∧ e = PN))
set_option maxRecDepth 20000 in
set_option maxHeartbeats 2000000 in
theorem takeSnapshot_c {r : Nat} {a : Option Addr} {c : Nat} {zs : List Int} {w : World} (h : Rdr w r a c zs) :
    Calls Try.prog 43 #[.pointer (some ⟨r, 0, none⟩)] w (TakesZ w r zs) := by
  have hr0 := lt_blkR h.1
  have b0 := below_1 w (.cells snC0 49)
  have hB0 := heap_alloc_new w (.cells snC0 49)
  have hin := rdr_in h
  have MC := hid (takeListM_c (rdr_later h b0))
  have K0 : Hid (Kr r w (w.alloc (.cells snC0 49))) := hid (Kr.of b0)
  have M0 : Hid (Kr r (w.alloc (.cells snC0 49)) (w.alloc (.cells snC0 49))) := hid (Kr.refl _ _)
  have HB0 := hid hB0
  have BK := hid (fun ns ss t (e : snapP zs = some ((ns, ss), t)) => snapP_back hin e)
  have SP : Hid (snapP zs = snapP zs) := hid rfl
  clear h b0 hB0 hin
  unfold snC0 at *
  rcases h0 : measuresP zs with _ | ⟨ns, t⟩
  · rw [h0] at MC
    have NN : Hid (∀ ns ss rest, snapP zs = some ((ns, ss), rest) → ¬ RSnap ns ss) := hid (fun ns ss rest e => by unfold snapP at e; rw [h0] at e; cases e)
    clear BK SP
    go_enter Try.func43, Try.ntmps43
    go_wp2_with (go_at_call 85; refine MC.out.mono ?_; intro e9 w9 h9; obtain ⟨hk9, rfl⟩ := takesM_none h9)
    exact ⟨rfl, K0.out.trans hk9, .inr ⟨NN.out, rfl⟩⟩
  · rw [h0] at MC
    rcases h1 : stampsP t with _ | ⟨ss, rest⟩
    · have NN : Hid (∀ ns ss rest, snapP zs = some ((ns, ss), rest) → ¬ RSnap ns ss) := hid (fun ns ss rest e => by unfold snapP at e; rw [h0] at e; simp only [h1] at e; cases e)
      clear BK SP
      go_enter Try.func43, Try.ntmps43
      go_wp2_with (first
        | (go_at_call 87; refine SC.out.mono ?_; intro e9 w9 h9; obtain ⟨hk9, rfl⟩ := takesS_none h9)
        | (go_at_call 85; refine MC.out.mono ?_; intro e8 w1 h8; obtain ⟨hk8, ⟨v8, L, rfl, hL8, hO8⟩, a1, c1, hR1⟩ := takesM_some h8
           have K1 := hid (K0.out.trans hk8)
           have SC := hid (takeListS_c hR1)
           rw [h1] at SC
           obtain ⟨va, vc, rfl⟩ := own_shapeR hO8.1
           clear h8 hk8 hR1 hO8))
      exact ⟨rfl, K1.out.trans hk9, .inr ⟨NN.out, rfl⟩⟩
    · have SP2 : Hid (snapP zs = some ((ns, ss), rest)) := hid (by unfold snapP; rw [h0]; simp only [h1])
      obtain ⟨ez, bn, bs, _, bw⟩ := BK.out _ _ _ SP2.out
      clear ez
      have BN := hid bn
      have BS := hid bs
      have BW := hid bw
      clear BK SP bn bs bw
      by_cases qr : RSnap ns ss
      · have QR := hid qr
        clear qr
        go_enter Try.func43, Try.ntmps43
        go_wp2_with (first
          | (go_at_call 54; refine (refuse_f _).mono ?_; rintro _ wf ⟨rfl, hwf⟩; have hwf2 := hwf.symm; clear hwf; subst hwf2)
          | (go_at_call 36; refine RC.out.mono ?_; rintro _ w10 ⟨rfl, hb10⟩
             have B10 := hid (B6.out.trans (hb10.mono B6.out.size))
             have K10 := hid (K6.out.trans (Kr.of B10.out))
             have HR10 := hid (rdr_later HR6.out B10.out)
             have HX10 := hid ((hb10.block _ (lt_blkR HX6.out)).trans HX6.out)
             have HB10 := hid ((B10.out.block _ (lt_blkR HB6.out)).trans HB6.out)
             have NO10 := hid (NO6.out.later B10.out)
             obtain ⟨p0, p1⟩ := sn_cells HX10.out
             obtain ⟨q0, q1⟩ := sn_cells HB10.out
             have fz : ∀ i, w10.frozen? ⟨w.heap.size, i, none⟩ = false := fun i => by simp [World.frozen?, HB10.out]
             clear hb10)
          | (go_at_call 87; refine SC.out.mono ?_; intro e9 w6 h9; obtain ⟨hk9, ⟨v9, rfl, hO9⟩, a6, c6, hR6⟩ := takesS_some h9
             have K6 := hid (K1.out.trans hk9)
             have M6 := hid (M1.out.trans hk9)
             have HR6 := hid hR6
             obtain ⟨vb, vd, rfl⟩ := own_shapeR hO9
             have NO6 : Hid (SnOwn w6 (w.heap.size + 1) va vc L vb vd ss) := hid ⟨O1.out.kr hk9 (by omega), own_low hO9 (by have := M1.out.size; simp at this; omega), BW.out, by have := congrArg List.length HL.out; simp at this; rw [this]; exact BN.out, BS.out⟩
             have HB6 := hid ((M6.out.block w.heap.size (by simp) (by omega)).trans HB0.out)
             have HX6 := hid (heap_alloc_new w6 (.cells #[.slice va L.length vc, .slice vb ss.length vd] 49))
             have B6 := hid (below_1 w6 (.cells #[.slice va L.length vc, .slice vb ss.length vd] 49))
             have NO7 := hid (NO6.out.later B6.out)
             have QL : Hid (RSnap L ss) := hid (by rw [← rsnap_er, HL.out, rsnap_er]; exact QR.out)
             have RC := hid ((rightSnapshot_c va vb vc vd L ss _ NO7.out.ns NO7.out.st (by have := NO7.out.2.2.2.1; omega) (by have := BS.out; omega)).mono (fun e9 w9 (h9 : RsP2 L ss _ e9 w9) => show e9 = .returned (.bool true) ∧ Below _ _ w9 from by obtain ⟨bb, rfl, hb1, hb2⟩ := h9; rw [hb1.2 QL.out]; exact ⟨rfl, hb2⟩))
             obtain ⟨p0, p1⟩ := sn_cells HX6.out
             clear h9 hk9 hR6 hO9)
          | (go_at_call 85; refine MC.out.mono ?_; intro e8 w1 h8; obtain ⟨hk8, ⟨v8, L, rfl, hL8, hO8⟩, a1, c1, hR1⟩ := takesM_some h8
             have K1 := hid (K0.out.trans hk8)
             have M1 := hid (M0.out.trans hk8)
             have SC := hid (takeListS_c hR1)
             rw [h1] at SC
             obtain ⟨va, vc, rfl⟩ := own_shapeR hO8.1
             have HL := hid hL8
             have O1 := hid (hO8.low (b := w.heap.size + 1) (by simp))
             clear h8 hk8 hR1 hO8 hL8))
        have LT : w.heap.size < w.heap.size + 1 := Nat.lt_succ_self _
        refine bodyPost_ret (v := snV va L.length vc vb ss.length vd) (by simp [results, Try.results43, go_sem, snV, q0, q1]) rfl ⟨((K10.out.new (Nat.le_refl _) 0 _).new (Nat.le_refl _) 1 _), .inl ⟨ns, ss, rest, SP2.out, QR.out, ⟨va, vc, vb, vd, L, rfl, HL.out, ?_⟩, _, _, (rdr_new (rdr_new HR10.out hr0 0 _) hr0 1 _)⟩⟩
        exact ((NO10.out.set LT _).set LT _).low (Nat.le_succ _)
      · have NN : Hid (∀ ns ss rest, snapP zs = some ((ns, ss), rest) → ¬ RSnap ns ss) := hid (fun ns' ss' rest' e => by rw [SP2.out] at e; simp only [Option.some.injEq, Prod.mk.injEq] at e; obtain ⟨⟨rfl, rfl⟩, _⟩ := e; exact qr)
        have QR := hid qr
        clear qr
        go_enter Try.func43, Try.ntmps43
        go_wp2_with (first
          | (go_at_call 54; refine (refuse_t _).mono ?_; rintro _ wf ⟨rfl, hwf⟩; have hwf2 := hwf.symm; clear hwf; subst hwf2)
          | (go_at_call 36; refine RC.out.mono ?_; rintro _ w10 ⟨rfl, hb10⟩
             have B10 := hid (B6.out.trans (hb10.mono B6.out.size))
             have K10 := hid (K6.out.trans (Kr.of B10.out))
             clear hb10)
          | (go_at_call 87; refine SC.out.mono ?_; intro e9 w6 h9; obtain ⟨hk9, ⟨v9, rfl, hO9⟩, a6, c6, hR6⟩ := takesS_some h9
             have K6 := hid (K1.out.trans hk9)
             have M6 := hid (M1.out.trans hk9)
             obtain ⟨vb, vd, rfl⟩ := own_shapeR hO9
             have NO6 : Hid (SnOwn w6 (w.heap.size + 1) va vc L vb vd ss) := hid ⟨O1.out.kr hk9 (by omega), own_low hO9 (by have := M1.out.size; simp at this; omega), BW.out, by have := congrArg List.length HL.out; simp at this; rw [this]; exact BN.out, BS.out⟩
             have HX6 := hid (heap_alloc_new w6 (.cells #[.slice va L.length vc, .slice vb ss.length vd] 49))
             have B6 := hid (below_1 w6 (.cells #[.slice va L.length vc, .slice vb ss.length vd] 49))
             have NO7 := hid (NO6.out.later B6.out)
             have QL : Hid (¬ RSnap L ss) := hid (by rw [← rsnap_er, HL.out, rsnap_er]; exact QR.out)
             have RC := hid ((rightSnapshot_c va vb vc vd L ss _ NO7.out.ns NO7.out.st (by have := NO7.out.2.2.2.1; omega) (by have := BS.out; omega)).mono (fun e9 w9 (h9 : RsP2 L ss _ e9 w9) => show e9 = .returned (.bool false) ∧ Below _ _ w9 from by obtain ⟨bb, rfl, hb1, hb2⟩ := h9; rw [show bb = false by cases hbb : bb with | false => rfl | true => exact absurd (hb1.1 hbb) QL.out]; exact ⟨rfl, hb2⟩))
             obtain ⟨p0, p1⟩ := sn_cells HX6.out
             clear h9 hk9 hR6 hO9)
          | (go_at_call 85; refine MC.out.mono ?_; intro e8 w1 h8; obtain ⟨hk8, ⟨v8, L, rfl, hL8, hO8⟩, a1, c1, hR1⟩ := takesM_some h8
             have K1 := hid (K0.out.trans hk8)
             have M1 := hid (M0.out.trans hk8)
             have SC := hid (takeListS_c hR1)
             rw [h1] at SC
             obtain ⟨va, vc, rfl⟩ := own_shapeR hO8.1
             have HL := hid hL8
             have O1 := hid (hO8.low (b := w.heap.size + 1) (by simp))
             clear h8 hk8 hR1 hO8 hL8))
        exact ⟨rfl, K10.out, .inr ⟨NN.out, rfl⟩⟩
/-- What all of bytes say, as a snapshot. -/
def GoodZ (zs : List Int) (ns : List Nd) (ss : List St) : Prop := snapP zs = some ((ns, ss), []) ∧ RSnap ns ss
def AllZ (w : World) (zs : List Int) (e : Ending) (w' : World) : Prop := Below w.heap.size w w' ∧
  ((∃ ns ss, GoodZ zs ns ss ∧ ∃ a ca b cb L, e = .returned (snV a L.length ca b ss.length cb) ∧ L.map Nd.er = ns.map Nd.er ∧ SnOwn w' w.heap.size a ca L b cb ss)
  ∨ ((∀ ns ss, ¬ GoodZ zs ns ss) ∧ e = PN))
set_option maxRecDepth 20000 in
set_option maxHeartbeats 2000000 in
theorem takeAllZ_c (a : Option Addr) (n c : Nat) (zs : List Int) (w : World) (h : IsB w a n zs) (hc : n ≤ c) (hl : Lies w a c) :
    Calls Try.prog 84 #[.slice a n c, .func (.func 43) #[] #[]] w (AllZ w zs) := by
  have b0 := below_1 w (.cells #[.slice none 0 0, .slice none 0 0] 49)
  have hB0 := heap_alloc_new w (.cells #[.slice none 0 0, .slice none 0 0] 49)
  have s0 : (w.alloc (.cells #[.slice none 0 0, .slice none 0 0] 49)).heap.size = w.heap.size + 1 := by simp
  have b1 := below_1 (w.alloc (.cells #[.slice none 0 0, .slice none 0 0] 49)) (.cells #[.slice a n c] 134)
  have hr1 := heap_alloc_new (w.alloc (.cells #[.slice none 0 0, .slice none 0 0] 49)) (.cells #[.slice a n c] 134)
  rw [s0] at hr1
  have hB1 := (b1.block _ (lt_blkR hB0)).trans hB0
  have B1 := hid (b0.trans (b1.mono b0.size))
  have hn := h.1
  subst hn
  have hR : Rdr ((w.alloc (.cells #[.slice none 0 0, .slice none 0 0] 49)).alloc (.cells #[.slice a zs.length c] 134)) (w.heap.size + 1) a c zs := ⟨hr1, (h.later b0).later b1, hc, by
    rcases hl with hl | ⟨b, off, e, hb⟩
    · exact .inl hl
    · exact .inr ⟨b, off, e, by omega⟩⟩
  have TC := hid (takeSnapshot_c hR)
  have s1 : ((w.alloc (.cells #[.slice none 0 0, .slice none 0 0] 49)).alloc (.cells #[.slice a zs.length c] 134)).heap.size = w.heap.size + 2 := by simp
  have HB1 := hid hB1
  have S1 := hid s1
  clear h hl b0 b1 hB0 hB1 hr1 hR s0 s1
  by_cases qg : ∃ ns ss rest, snapP zs = some ((ns, ss), rest) ∧ RSnap ns ss
  · obtain ⟨ns, ss, rest, hsp, hrs⟩ := qg
    have GG := hid hsp
    have GR := hid hrs
    have TC2 := hid (TC.out.mono (fun e9 w9 (h9 : TakesZ _ _ zs e9 w9) => show Kr (w.heap.size + 1) _ w9 ∧ (∃ a ca b cb L, e9 = .returned (snV a L.length ca b ss.length cb) ∧ L.map Nd.er = ns.map Nd.er ∧ SnOwn w9 (w.heap.size + 2) a ca L b cb ss) ∧ ∃ a c, Rdr w9 (w.heap.size + 1) a c rest from by
      obtain ⟨hk, ⟨ns', ss', rest', e1, e2, ⟨a', ca', b', cb', L', e3, e4, e5⟩, e6⟩ | ⟨e1, e2⟩⟩ := h9
      · rw [hsp] at e1
        simp only [Option.some.injEq, Prod.mk.injEq] at e1
        obtain ⟨⟨rfl, rfl⟩, rfl⟩ := e1
        rw [S1.out] at e5
        exact ⟨hk, ⟨a', ca', b', cb', L', e3, e4, e5⟩, e6⟩
      · exact absurd hrs (e1 _ _ _ hsp)))
    clear TC hsp hrs
    rcases rest with _ | ⟨q, qs⟩
    · go_enter Try.func84, Try.ntmps84
      go_wp2_with (first
        | (go_at_call 54; refine (refuse_f _).mono ?_; rintro _ wf ⟨rfl, hwf⟩; have hwf2 := hwf.symm; clear hwf; subst hwf2)
        | (go_at_call 43; refine TC2.out.mono ?_; rintro _ w9 ⟨hk9, ⟨va, vc, vb, vd, L, rfl, hL9, hO9⟩, a9, c9, hR9⟩
           have b9 := below_1 w9 (.cells #[.slice va L.length vc, .slice vb ss.length vd] 49)
           have hR10 := (rdr_later hR9 b9).cell.1
           have hX10 := heap_alloc_new w9 (.cells #[.slice va L.length vc, .slice vb ss.length vd] 49)
           have hB9 := (hk9.block w.heap.size (by rw [S1.out]; omega) (by omega)).trans HB1.out
           have hB10 := (b9.block _ (lt_blkR hB9)).trans hB9
           obtain ⟨p0, p1⟩ := sn_cells hX10
           obtain ⟨q0, q1⟩ := sn_cells hB10
           have fz : ∀ i, (w9.alloc (.cells #[.slice va L.length vc, .slice vb ss.length vd] 49)).frozen? ⟨w.heap.size, i, none⟩ = false := fun i => by simp [World.frozen?, hB10]
           have K9 := hid (B1.out.trans (hk9.below (by rw [S1.out]; omega) (by omega)))
           have O9 := hid ((hO9.later b9).low (b' := w.heap.size + 1) (by omega))
           have HL9 := hid hL9
           unfold snV
           simp only [List.length_nil] at hR10
           clear hX10 hB9 hB10 b9 hR9 hk9 hO9 hL9))
      refine bodyPost_ret (v := snV va L.length vc vb ss.length vd) (by simp [results, Try.results84, go_sem, snV, q0, q1]) rfl ⟨((K9.out.alloc K9.out.size _).setCell (Nat.le_refl _) _).setCell (Nat.le_refl _) _, .inl ⟨ns, ss, ⟨GG.out, GR.out⟩, va, vc, vb, vd, L, rfl, HL9.out, ?_⟩⟩
      exact ((O9.out.set (Nat.lt_succ_self _) _).set (Nat.lt_succ_self _) _).low (Nat.le_succ _)
    · have NG : Hid (∀ ns ss, ¬ GoodZ zs ns ss) := hid (fun ns' ss' hg => by have e := hg.1; rw [GG.out] at e; simp at e)
      have hqq : 0 < (q :: qs).length := by simp
      obtain ⟨qn, hqn⟩ : ∃ qn, qn = (q :: qs).length := ⟨_, rfl⟩
      have HQN := hid hqn
      rw [← hqn] at hqq
      have hqd : decide (0 < qn) = true := decide_eq_true hqq
      have hqI : (0 : Int) < (qn : Int) := by omega
      clear hqn
      go_enter Try.func84, Try.ntmps84
      go_wp2_with (first
        | (go_at_call 54; refine (refuse_t _).mono ?_; rintro _ wf ⟨rfl, hwf⟩; have hwf2 := hwf.symm; clear hwf; subst hwf2)
        | (go_at_call 43; refine TC2.out.mono ?_; rintro _ w9 ⟨hk9, ⟨va, vc, vb, vd, L, rfl, hL9, hO9⟩, a9, c9, hR9⟩
           have b9 := below_1 w9 (.cells #[.slice va L.length vc, .slice vb ss.length vd] 49)
           have hR10 := (rdr_later hR9 b9).cell.1
           rw [← HQN.out] at hR10
           have K9 := hid (B1.out.trans (hk9.below (by rw [S1.out]; omega) (by omega)))
           unfold snV
           clear b9 hR9 hk9 hO9 hL9))
      exact ⟨rfl, K9.out.alloc K9.out.size _, .inr ⟨NG.out, rfl⟩⟩
  · have NG : Hid (∀ ns ss, ¬ GoodZ zs ns ss) := hid (fun ns ss hg => qg ⟨ns, ss, [], hg.1, hg.2⟩)
    have TC2 := hid (TC.out.mono (fun e9 w9 (h9 : TakesZ _ _ zs e9 w9) => show Kr (w.heap.size + 1) _ w9 ∧ e9 = PN from by
      obtain ⟨hk, ⟨ns', ss', rest', e1, e2, _⟩ | ⟨e1, e2⟩⟩ := h9
      · exact absurd ⟨_, _, _, e1, e2⟩ qg
      · exact ⟨hk, e2⟩))
    clear TC qg
    go_enter Try.func84, Try.ntmps84
    go_wp2_with (go_at_call 43; refine TC2.out.mono ?_; rintro _ w9 ⟨hk9, rfl⟩)
    exact ⟨rfl, B1.out.trans (hk9.below (by rw [S1.out]; omega) (by omega)), .inr ⟨NG.out, rfl⟩⟩
set_option maxHeartbeats 2000000 in
theorem catchZ_idle (p : Addr) (w : World) :
    CallsD Try.prog 83 #[.pointer (some p)] .returning w fun e u' w' => e = .returned (.tuple #[]) ∧ u' = .returning ∧ w' = w := by
  refine callsD_of_wpS Try.func83 rfl fun c₀ cs hu => ?_
  apply wpS_seq
  apply wpS_region
  simp [wpOpsS, go_sem, recoverD, hu, Try.ntmps83, Exit.thenS]
  refine wpS_of_wp ?_
  go_wp2
  cases c₀
  simp_all [bodyPostS, results, Try.results83]
set_option maxHeartbeats 2000000 in
theorem catchZ_panicking (p : Addr) (x : Int) (older : List PanicEntry) (w : World) (hc : w.cell? p = some (.int .i64 x)) (hz : w.frozen? p = false) (hp : p.block < w.heap.size) :
    CallsD Try.prog 83 #[.pointer (some p)] (.panicking ({ v := .iface 93 (.agg #[.int .i64 3]), recovered := false } :: older)) w fun e u' w' =>
      e = .returned (.tuple #[]) ∧ u' = .panicking ({ v := .iface 93 (.agg #[.int .i64 3]), recovered := true } :: older) ∧ w' = (w.alloc (.cells #[.int .i64 3] 93)).setCell p (.int .i64 3) := by
  refine callsD_of_wpS Try.func83 rfl fun c₀ cs hu => ?_
  apply wpS_seq
  apply wpS_region
  simp [wpOpsS, go_sem, recoverD, hu, Try.ntmps83, Exit.thenS]
  refine wpS_of_wp ?_
  have hta : ∀ W : World, (Instr.typeAssert (.iface 93 (.agg #[.int .i64 3])) 20 93 true).run Try.prog W = .ok (.tuple #[.agg #[.int .i64 3], .bool true]) W := fun W => by
    simp [Instr.typeAssert, go_sem, Try.underlying93]
  have hne : p.block ≠ w.heap.size := by omega
  have hc2 : (w.alloc (.cells #[.int .i64 3] 93)).cell? p = some (.int .i64 x) := cell_later (below_1 w _) hc
  have hz2 : (w.alloc (.cells #[.int .i64 3] 93)).frozen? p = false := by rw [World.frozen?_of_block ((below_1 w (.cells #[.int .i64 3] 93)).block p.block hp)]; exact hz
  go_wp2
  simp [bodyPostS, results, Try.results83]
def ReadsZ (w : World) (zs : List Int) (e : Ending) (w' : World) : Prop := Below w.heap.size w w' ∧
  ((∃ ns ss, GoodZ zs ns ss ∧ ∃ a ca b cb L, e = .returned (.tuple #[snV a L.length ca b ss.length cb, .int .i64 0]) ∧ L.map Nd.er = ns.map Nd.er ∧ SnOwn w' w.heap.size a ca L b cb ss)
  ∨ ((∀ ns ss, ¬ GoodZ zs ns ss) ∧ e = .returned (.tuple #[snNo, .int .i64 3])))
set_option maxRecDepth 20000 in
set_option maxHeartbeats 2000000 in
theorem readZ1_c (a : Option Addr) (n c : Nat) (zs : List Int) (w : World) (h : IsB w a n zs) (hc : n ≤ c) (hl : Lies w a c) :
    Calls Try.prog 42 #[.slice a n c, .func (.func 43) #[] #[]] w (ReadsZ w zs) := by
  have hmf : ∀ (fn : Fn) (first cap : Array Value) (w : World), (Instr.makeFunc fn first cap).run Try.prog w = .ok (.func fn first cap) w := fun _ _ _ _ => rfl
  have b0 := below_1 w (.cells #[.slice none 0 0, .slice none 0 0] 49)
  have hB0 := heap_alloc_new w (.cells #[.slice none 0 0, .slice none 0 0] 49)
  have s0 : (w.alloc (.cells #[.slice none 0 0, .slice none 0 0] 49)).heap.size = w.heap.size + 1 := by simp
  have b1 := below_1 (w.alloc (.cells #[.slice none 0 0, .slice none 0 0] 49)) (.cells #[.int .i64 0] 30)
  have hE1 := heap_alloc_new (w.alloc (.cells #[.slice none 0 0, .slice none 0 0] 49)) (.cells #[.int .i64 0] 30)
  rw [s0] at hE1
  have s1 : ((w.alloc (.cells #[.slice none 0 0, .slice none 0 0] 49)).alloc (.cells #[.int .i64 0] 30)).heap.size = w.heap.size + 2 := by simp
  have hB1 := (b1.block _ (lt_blkR hB0)).trans hB0
  have B1 := hid (b0.trans (b1.mono b0.size))
  have TC := hid (takeAllZ_c a n c zs _ ((h.later b0).later b1) hc (by
    rcases hl with hl | ⟨b, off, e, hb⟩
    · exact .inl hl
    · exact .inr ⟨b, off, e, by simp; omega⟩))
  have HB1 := hid hB1
  have HE1 := hid hE1
  have S1 := hid s1
  clear h hl b0 b1 hB0 hB1 hE1 s0 s1
  by_cases qg : ∃ ns ss, GoodZ zs ns ss
  · obtain ⟨ns, ss, hg⟩ := qg
    have GG := hid hg
    have TC2 := hid (TC.out.mono (fun e9 w9 (h9 : AllZ _ zs e9 w9) => show Below (w.heap.size + 2) _ w9 ∧ ∃ a ca b cb L, e9 = .returned (snV a L.length ca b ss.length cb) ∧ L.map Nd.er = ns.map Nd.er ∧ SnOwn w9 (w.heap.size + 2) a ca L b cb ss from by
      obtain ⟨hk, ⟨ns', ss', e1, a', ca', b', cb', L', e3, e4, e5⟩ | ⟨e1, e2⟩⟩ := h9
      · have e6 := e1.1
        rw [hg.1] at e6
        simp only [Option.some.injEq, Prod.mk.injEq] at e6
        obtain ⟨⟨rfl, rfl⟩, _⟩ := e6
        rw [S1.out] at e5 hk
        exact ⟨hk, a', ca', b', cb', L', e3, e4, e5⟩
      · exact absurd hg (e1 _ _)))
    clear TC hg
    go_enter_defers Try.func42, Try.ntmps42
    go_wp2_with (go_at_call 84; refine TC2.out.mono ?_; rintro _ w2 ⟨hb2, va, vc, vb, vd, L, rfl, hL2, hO2⟩
                 have hB2 := (hb2.block w.heap.size (by omega)).trans HB1.out
                 have hE2 := (hb2.block (w.heap.size + 1) (by omega)).trans HE1.out
                 obtain ⟨q0, q1⟩ := sn_cells hB2
                 have fz : ∀ i, w2.frozen? ⟨w.heap.size, i, none⟩ = false := fun i => by simp [World.frozen?, hB2]
                 have fe : w2.frozen? ⟨w.heap.size + 1, 0, none⟩ = false := by simp [World.frozen?, hE2]
                 have ce : w2.cell? ⟨w.heap.size + 1, 0, none⟩ = some (.int .i64 0) := by rw [cell_of_row _ _ _ _ _ _ hE2]; rfl
                 have O2 := hid hO2
                 have HL2 := hid hL2
                 have BB2 := hid (B1.out.trans (hb2.mono (by omega)))
                 unfold snV
                 clear hO2 hb2 hL2)
    refine leaves_cons (f := 83) (args := #[.pointer (some ⟨w.heap.size + 1, 0, none⟩)]) (by simp) (by simp [go_sem]) ?_
    refine (catchZ_idle ⟨w.heap.size + 1, 0, none⟩ _).mono ?_
    rintro e u' w'' ⟨rfl, rfl, rfl⟩
    have FIN : Below w.heap.size w (((w2.setCell ⟨w.heap.size, 0, none⟩ (.slice va L.length vc)).setCell ⟨w.heap.size, 1, none⟩ (.slice vb ss.length vd)).setCell ⟨w.heap.size + 1, 0, none⟩ (.int .i64 0)) ∧ SnOwn (((w2.setCell ⟨w.heap.size, 0, none⟩ (.slice va L.length vc)).setCell ⟨w.heap.size, 1, none⟩ (.slice vb ss.length vd)).setCell ⟨w.heap.size + 1, 0, none⟩ (.int .i64 0)) w.heap.size va vc L vb vd ss := ⟨(((BB2.out.setCell (p := ⟨w.heap.size, 0, none⟩) (Nat.le_refl _) _).setCell (p := ⟨w.heap.size, 1, none⟩) (Nat.le_refl _) _).setCell (p := ⟨w.heap.size + 1, 0, none⟩) (Nat.le_succ _) _), (((O2.out.set (p := ⟨w.heap.size, 0, none⟩) (by show w.heap.size < w.heap.size + 2; omega) _).set (p := ⟨w.heap.size, 1, none⟩) (by show w.heap.size < w.heap.size + 2; omega) _).set (p := ⟨w.heap.size + 1, 0, none⟩) (by show w.heap.size + 1 < w.heap.size + 2; omega) _).low (by omega)⟩
    simp [Leaves, settle, results, Try.results42, go_sem, q0, q1, ce]
    exact ⟨FIN.1, .inl ⟨ns, ss, GG.out, va, vc, vb, vd, L, rfl, HL2.out, FIN.2⟩⟩
  · have NG : Hid (∀ ns ss, ¬ GoodZ zs ns ss) := hid (fun ns ss hg => qg ⟨ns, ss, hg⟩)
    have TC2 := hid (TC.out.mono (fun e9 w9 (h9 : AllZ _ zs e9 w9) => show Below (w.heap.size + 2) _ w9 ∧ e9 = PN from by
      obtain ⟨hk, ⟨ns', ss', e1, _⟩ | ⟨e1, e2⟩⟩ := h9
      · exact absurd ⟨_, _, e1⟩ qg
      · rw [S1.out] at hk; exact ⟨hk, e2⟩))
    clear TC qg
    go_enter_defers Try.func42, Try.ntmps42
    go_wp2_with (go_at_call 84; refine TC2.out.mono ?_; rintro _ w2 ⟨hb2, rfl⟩
                 have hB2 := (hb2.block w.heap.size (by omega)).trans HB1.out
                 have hE2 := (hb2.block (w.heap.size + 1) (by omega)).trans HE1.out
                 obtain ⟨q0, q1⟩ := sn_cells hB2
                 have fz : ∀ i, w2.frozen? ⟨w.heap.size, i, none⟩ = false := fun i => by simp [World.frozen?, hB2]
                 have fe : w2.frozen? ⟨w.heap.size + 1, 0, none⟩ = false := by simp [World.frozen?, hE2]
                 have ce : w2.cell? ⟨w.heap.size + 1, 0, none⟩ = some (.int .i64 0) := by rw [cell_of_row _ _ _ _ _ _ hE2]; rfl)
    refine leaves_cons (f := 83) (args := #[.pointer (some ⟨w.heap.size + 1, 0, none⟩)]) (by simp) (by simp [go_sem]) ?_
    refine (catchZ_panicking ⟨w.heap.size + 1, 0, none⟩ 0 [] w2 ce fe (lt_blkR hE2)).mono ?_
    have b3 := below_1 w2 (.cells #[.int .i64 3] 93)
    have hB3 : ((w2.alloc (.cells #[.int .i64 3] 93)).setCell ⟨w.heap.size + 1, 0, none⟩ (.int .i64 3)).heap[w.heap.size]? = some (.cells #[.slice none 0 0, .slice none 0 0] 49 (0, 0)) := by
      rw [heap_setCell_other _ _ _ _ (by simp)]; exact (b3.block _ (lt_blkR hB2)).trans hB2
    have hE3 := heap_setBox (W := w2.alloc (.cells #[.int .i64 3] 93)) (.int .i64 3) ((b3.block _ (lt_blkR hE2)).trans hE2)
    obtain ⟨r0, r1⟩ := sn_cells hB3
    have rE := cell_box hE3
    have BB2 := B1.out.trans (hb2.mono (by omega))
    have B3 := hid ((BB2.trans (b3.mono BB2.size)).setCell (p := ⟨w.heap.size + 1, 0, none⟩) (by simp) (.int .i64 3))
    rintro e u' w'' ⟨rfl, rfl, hw⟩
    rw [hw]
    clear BB2
    generalize (w2.alloc (.cells #[.int .i64 3] 93)).setCell ⟨w.heap.size + 1, 0, none⟩ (.int .i64 3) = w4 at *
    simp [Leaves, settle, results, Try.results42, go_sem, r0, r1, rE]
    exact ⟨B3.out, .inr ⟨NG.out, rfl⟩⟩
set_option maxRecDepth 20000 in
set_option maxHeartbeats 2000000 in
theorem readSnapshot_c (a : Option Addr) (n c : Nat) (zs : List Int) (w : World) (h : IsB w a n zs) (hc : n ≤ c) (hl : Lies w a c) :
    Calls Try.prog 19 #[.slice a n c] w (ReadsZ w zs) := by
  have b0 := below_1 w (.cells #[.slice none 0 0, .slice none 0 0] 49)
  have HB0 := hid (heap_alloc_new w (.cells #[.slice none 0 0, .slice none 0 0] 49))
  have s0 : (w.alloc (.cells #[.slice none 0 0, .slice none 0 0] 49)).heap.size = w.heap.size + 1 := by simp
  have RC := hid (readZ1_c a n c zs _ (h.later b0) hc (by
    rcases hl with hl | ⟨b, off, e, hb⟩
    · exact .inl hl
    · exact .inr ⟨b, off, e, by simp; omega⟩))
  have B0 := hid b0
  have S0 := hid s0
  clear h hl b0 s0
  by_cases qg : ∃ ns ss, GoodZ zs ns ss
  · obtain ⟨ns, ss, hg⟩ := qg
    have GG := hid hg
    have TC2 := hid (RC.out.mono (fun e9 w9 (h9 : ReadsZ _ zs e9 w9) => show Below (w.heap.size + 1) _ w9 ∧ ∃ a ca b cb L, e9 = .returned (.tuple #[snV a L.length ca b ss.length cb, .int .i64 0]) ∧ L.map Nd.er = ns.map Nd.er ∧ SnOwn w9 (w.heap.size + 1) a ca L b cb ss from by
      obtain ⟨hk, ⟨ns', ss', e1, a', ca', b', cb', L', e3, e4, e5⟩ | ⟨e1, e2⟩⟩ := h9
      · have e6 := e1.1
        rw [hg.1] at e6
        simp only [Option.some.injEq, Prod.mk.injEq] at e6
        obtain ⟨⟨rfl, rfl⟩, _⟩ := e6
        rw [S0.out] at e5 hk
        exact ⟨hk, a', ca', b', cb', L', e3, e4, e5⟩
      · exact absurd hg (e1 _ _)))
    clear RC hg
    go_enter Try.func19, Try.ntmps19
    go_wp2_with (go_at_call 42; refine TC2.out.mono ?_; rintro _ w1 ⟨hb1, va, vc, vb, vd, L, rfl, hL1, hO1⟩
                 have hB1 := (hb1.block w.heap.size (by omega)).trans HB0.out
                 obtain ⟨q0, q1⟩ := sn_cells hB1
                 have fz : ∀ i, w1.frozen? ⟨w.heap.size, i, none⟩ = false := fun i => by simp [World.frozen?, hB1]
                 have O1 := hid hO1
                 have HL1 := hid hL1
                 have BB1 := hid (B0.out.trans (hb1.mono (by omega)))
                 unfold snV
                 clear hO1 hb1 hL1)
    refine bodyPost_ret (v := .tuple #[snV va L.length vc vb ss.length vd, .int .i64 0]) (by simp [results, Try.results19, go_sem, snV, q0, q1]) rfl ⟨((BB1.out.setCell (p := ⟨w.heap.size, 0, none⟩) (Nat.le_refl _) _).setCell (p := ⟨w.heap.size, 1, none⟩) (Nat.le_refl _) _), .inl ⟨ns, ss, GG.out, va, vc, vb, vd, L, rfl, HL1.out, ?_⟩⟩
    exact ((O1.out.set (Nat.lt_succ_self _) _).set (Nat.lt_succ_self _) _).low (Nat.le_succ _)
  · have NG : Hid (∀ ns ss, ¬ GoodZ zs ns ss) := hid (fun ns ss hg => qg ⟨ns, ss, hg⟩)
    have TC2 := hid (RC.out.mono (fun e9 w9 (h9 : ReadsZ _ zs e9 w9) => show Below (w.heap.size + 1) _ w9 ∧ e9 = .returned (.tuple #[snNo, .int .i64 3]) from by
      obtain ⟨hk, ⟨ns', ss', e1, _⟩ | ⟨e1, e2⟩⟩ := h9
      · exact absurd ⟨_, _, e1⟩ qg
      · rw [S0.out] at hk; exact ⟨hk, e2⟩))
    clear RC qg
    go_enter Try.func19, Try.ntmps19
    go_wp2_with (go_at_call 42; refine TC2.out.mono ?_; rintro _ w1 ⟨hb1, rfl⟩
                 have hB1 := (hb1.block w.heap.size (by omega)).trans HB0.out
                 obtain ⟨q0, q1⟩ := sn_cells hB1
                 have fz : ∀ i, w1.frozen? ⟨w.heap.size, i, none⟩ = false := fun i => by simp [World.frozen?, hB1]
                 have BB1 := hid (B0.out.trans (hb1.mono (by omega)))
                 unfold snNo
                 clear hb1)
    refine bodyPost_ret (v := .tuple #[snNo, .int .i64 3]) (by simp [results, Try.results19, go_sem, snNo, q0, q1]) rfl ⟨((BB1.out.setCell (p := ⟨w.heap.size, 0, none⟩) (Nat.le_refl _) _).setCell (p := ⟨w.heap.size, 1, none⟩) (Nat.le_refl _) _), .inr ⟨NG.out, rfl⟩⟩
end Go.Proofs.Ytbgninmkglgfeaa
namespace Go.Proofs.Ytbgninmkglgfeaa
open Go.RowKit Go.ChangeShapes Go.WideShapes Go.ChangeAt Go.Maps Go.Shelf
set_option linter.unusedVariables false
set_option linter.unusedSimpArgs false
set_option maxRecDepth 100000
theorem frz {W : World} {g : Nat} {cs : Array Value} {t : TypeId} (h : W.heap[g]? = some (.cells cs t (0, 0))) (i : Nat) : W.frozen? ⟨g, i, none⟩ = false := by
  simp [World.frozen?, h]
theorem trod_stamp {H : Type} {enc : TypeId × Value → H} {W : World} {cs : List Value} {fuel : Nat} {x : DataW H × List MemPlace} {sp : Nat → Bool} {hd : Bool} {b0 : Nat} (hf : DataW.trod enc Try.prog W b0 sp hd fuel 85 cs = some x) :
    ∃ q : St, cs = q.cells ∧ q.Wf := by
  obtain ⟨xs, m, _, _, hlc, hlen, hel⟩ := DataW.trod_struct Try.underlying85 hf
  have hct : Try.prog.cellsOf 85 = 3 := by kernel_rfl
  have e1 : Try.prog.cellsOf 26 = 1 := by kernel_rfl
  have e2 : Try.prog.cellsOf 70 = 1 := by kernel_rfl
  have e3 : Try.prog.cellsOf 5 = 1 := by kernel_rfl
  rw [hct] at hlc
  match cs, hlc with
  | [c0, c1, c2], _ =>
    match xs, hlen with
    | [x0, x1, x2], _ =>
      have h0 := hel 0 _ rfl
      have h1 := hel 1 _ rfl
      have h2 := hel 2 _ rfl
      simp [e1, e2, e3] at h0 h1 h2
      obtain ⟨n0, q0, _, w0⟩ := DataW.trod_int Try.underlying26 h0
      obtain ⟨n1, q1, _, w1⟩ := DataW.trod_int Try.underlying70 h1
      obtain ⟨n2, q2, _, w2⟩ := DataW.trod_int Try.underlying5 h2
      simp at q0 q1 q2
      subst q0 q1 q2
      exact ⟨⟨n0, n1, n2⟩, rfl, bd_u32 w0, bd_u64 w1, bd_u8 w2⟩
theorem isSs_trod {H : Type} {enc : TypeId × Value → H} {W : World} {t : TypeId} {v : Value} {fuel : Nat} {y : DataW H × List MemPlace} {sp : Nat → Bool} {hd : Bool} {b0 : Nat} (ht : Try.prog.underlying t = some (.slice 85))
    (hf : DataW.trod enc Try.prog W b0 sp hd fuel t [v] = some y) (hsp : ∀ k, sp k = true) : ∃ a cap, ∃ l : List St, v = .slice a l.length cap ∧ IsSs W a l ∧ l.length ≤ cap := by
  have hct : Try.prog.cellsOf 85 = 3 := by kernel_rfl
  rcases DataW.trod_slice ht hf with ⟨hcs, _⟩ | ⟨x, len, c, elems, rest, n, _, hcs, _, hb, hl, hm, hlen, hel, _⟩
  · simp at hcs
    exact ⟨none, 0, [], hcs, ⟨Nat.zero_le _, (fun x hx => by cases hx), (fun h => absurd h (by simp))⟩, by simp⟩
  · simp at hcs
    rw [hct] at hel
    have each : ∀ i, i < len → ∃ q : St, (∀ j, j < 3 → W.cell? ((x.add (i * 3)).add j) = (q.cells)[j]?) ∧ q.Wf := by
      intro i hi
      have h1 := hel i (by omega)
      have h2 : elems[i]? = some elems[i] := List.getElem?_eq_getElem (by omega)
      rw [h2, Option.bind_eq_some_iff] at h1
      obtain ⟨cs, hc, hy⟩ := h1
      obtain ⟨q, hq, hw⟩ := trod_stamp hy
      obtain ⟨_, hl6, hg⟩ := World.cells?_some hc
      refine ⟨q, fun j hj => ?_, hw⟩
      rw [hg j hj, hq]
    obtain ⟨f, hf'⟩ : ∃ f : Nat → St, ∀ i, i < len → (∀ j, j < 3 → W.cell? ((x.add (i * 3)).add j) = ((f i).cells)[j]?) ∧ (f i).Wf := by
      classical
      refine ⟨fun i => if h : i < len then (each i h).choose else St.no, fun i hi => ?_⟩
      simp only [hi, dif_pos]
      exact (each i hi).choose_spec
    refine ⟨some x, c, (List.range len).map f, by simpa using hcs, ⟨by simp; omega, fun q hq => ?_, fun hp => ?_⟩, by simp; omega⟩
    · obtain ⟨i, hi, rfl⟩ := List.mem_map.1 hq
      exact (hf' i (List.mem_range.1 hi)).2
    · rw [List.length_map, List.length_range] at hp
      obtain ⟨b, off, spot⟩ := x
      have hc0 := (hf' 0 hp).1 0 (by omega)
      have hspot : spot = none := by
        have e0 : ((f 0).cells)[0]? = some (.int .u32 (f 0).fid) := rfl
        rw [e0] at hc0
        simpa [Addr.add] using World.cell?_spot hc0
      subst hspot
      refine ⟨b, off, rfl, fun i hi => ?_⟩
      rw [List.length_map, List.length_range] at hi
      have hadd : ∀ j, ((⟨b, off, none⟩ : Addr).add (i * 3)).add j = ⟨b, off + i * 3 + j, none⟩ := fun j => by unfold Addr.add; split <;> split <;> simp_all <;> omega
      have key := (hf' i hi).1
      have g : ((List.range len).map f).getD i St.no = f i := by simp [List.getD, hi]
      rw [g]
      have k0 := key 0 (by omega)
      have k1 := key 1 (by omega)
      have k2 := key 2 (by omega)
      rw [hadd] at k0 k1 k2
      exact ⟨k0, k1, k2⟩
theorem isNs_trod {H : Type} {enc : TypeId × Value → H} {W : World} {t : TypeId} {v : Value} {fuel : Nat} {y : DataW H × List MemPlace} {sp : Nat → Bool} {hd : Bool} {b0 : Nat} (ht : Try.prog.underlying t = some (.slice 39))
    (hf : DataW.trod enc Try.prog W b0 sp hd fuel t [v] = some y) (hsp : ∀ k, sp k = true) : ∃ a cap, ∃ l : List Nd, v = .slice a l.length cap ∧ IsNs W a l ∧ l.length ≤ cap := by
  have hct : Try.prog.cellsOf 39 = 6 := by kernel_rfl
  rcases DataW.trod_slice ht hf with ⟨hcs, _⟩ | ⟨x, len, c, elems, rest, n, _, hcs, _, hb, hl, hm, hlen, hel, _⟩
  · simp at hcs
    exact ⟨none, 0, [], hcs, ⟨Nat.zero_le _, (fun x hx => by cases hx), (fun h => absurd h (by simp))⟩, by simp⟩
  · simp at hcs
    rw [hct] at hel
    have each : ∀ i, i < len → ∃ q : Nd, (∀ j, j < 6 → W.cell? ((x.add (i * 6)).add j) = (q.cells)[j]?) ∧ q.Ok W := by
      intro i hi
      have h1 := hel i (by omega)
      have h2 : elems[i]? = some elems[i] := List.getElem?_eq_getElem (by omega)
      rw [h2, Option.bind_eq_some_iff] at h1
      obtain ⟨cs, hc, hy⟩ := h1
      obtain ⟨q, hq, hw⟩ := trod_node hy hsp
      obtain ⟨_, hl6, hg⟩ := World.cells?_some hc
      refine ⟨q, fun j hj => ?_, hw⟩
      rw [hg j hj, hq]
    obtain ⟨f, hf'⟩ : ∃ f : Nat → Nd, ∀ i, i < len → (∀ j, j < 6 → W.cell? ((x.add (i * 6)).add j) = ((f i).cells)[j]?) ∧ (f i).Ok W := by
      classical
      refine ⟨fun i => if h : i < len then (each i h).choose else Nd.no, fun i hi => ?_⟩
      simp only [hi, dif_pos]
      exact (each i hi).choose_spec
    refine ⟨some x, c, (List.range len).map f, by simpa using hcs, ⟨by simp; omega, fun q hq => ?_, fun hp => ?_⟩, by simp; omega⟩
    · obtain ⟨i, hi, rfl⟩ := List.mem_map.1 hq
      exact (hf' i (List.mem_range.1 hi)).2
    · rw [List.length_map, List.length_range] at hp
      obtain ⟨b, off, spot⟩ := x
      have hc0 := (hf' 0 hp).1 0 (by omega)
      have hspot : spot = none := by
        have e0 : ((f 0).cells)[0]? = some (.int .u32 (f 0).fid) := rfl
        rw [e0] at hc0
        simpa [Addr.add] using World.cell?_spot hc0
      subst hspot
      refine ⟨b, off, rfl, fun i hi => ?_⟩
      rw [List.length_map, List.length_range] at hi
      have hadd : ∀ j, ((⟨b, off, none⟩ : Addr).add (i * 6)).add j = ⟨b, off + i * 6 + j, none⟩ := fun j => by unfold Addr.add; split <;> split <;> simp_all <;> omega
      have key := (hf' i hi).1
      have g : ((List.range len).map f).getD i Nd.no = f i := by simp [List.getD, hi]
      rw [g]
      intro j u hu
      have hj : j < 6 := by
        have := (List.getElem?_eq_some_iff.1 hu).1
        simpa [Nd.cells] using this
      have kj := key j hj
      rw [hadd] at kj
      rw [kj]; exact hu
theorem open_snap {H : Type} {enc : TypeId × Value → H} {W : World} {r : Reach} {b0 : Nat} {v : Value} {d : DataW H} {p : List MemPlace}
    (hv : Value.okWide Try.prog W r b0 49 v) (h : DataW.Trod enc Try.prog W 0 (fun _ => true) true 49 v d p) :
    ∃ a ca b cb, ∃ ns : List Nd, ∃ ss : List St, v = snV a ns.length ca b ss.length cb ∧ IsNs W a ns ∧ IsSs W b ss ∧ ns.length ≤ ca ∧ ss.length ≤ cb := by
  simp only [Value.okWide, Try.underlying49] at hv
  obtain ⟨cs, rfl, hsz, _⟩ := hv
  obtain ⟨fuel, hf⟩ := h
  obtain ⟨xs, m, _, _, hlc, hlen, hel⟩ := DataW.trod_struct Try.underlying49 hf
  have hct : Try.prog.cellsOf 49 = 2 := by kernel_rfl
  have e1 : Try.prog.cellsOf 46 = 1 := by kernel_rfl
  have e2 : Try.prog.cellsOf 47 = 1 := by kernel_rfl
  rw [hct] at hlc
  simp only [Value.cells] at hlc hel
  obtain ⟨c0, c1, hcs⟩ : ∃ c0 c1, cs.toList = [c0, c1] := by
    match h : cs.toList, hlc with
    | [c0, c1], _ => exact ⟨c0, c1, rfl⟩
  match xs, hlen with
  | [x0, x1], _ =>
    have h0 := hel 0 _ rfl
    have h1 := hel 1 _ rfl
    rw [hcs] at h0 h1
    simp [e1, e2] at h0 h1
    obtain ⟨a, ca, ns, q0, hn, ln⟩ := isNs_trod Try.underlying46 h0 (fun _ => rfl)
    obtain ⟨b, cb, ss, q1, hs, ls⟩ := isSs_trod Try.underlying47 h1 (fun _ => rfl)
    refine ⟨a, ca, b, cb, ns, ss, ?_, hn, hs, ln, ls⟩
    rw [q0, q1] at hcs
    have : cs = #[.slice a ns.length ca, .slice b ss.length cb] := by
      apply Array.ext'
      simpa using hcs
    rw [this]; rfl
theorem take_getD {α : Type} (l : List α) (d : α) (n i : Nat) (hi : i < n) : (l.take n).getD i d = l.getD i d := by
  simp [List.getD, List.getElem?_take, hi]
theorem IsNs.take {w : World} {a : Option Addr} {l : List Nd} (h : IsNs w a l) (n : Nat) : IsNs w a (l.take n) := by
  obtain ⟨h1, h2, h3⟩ := h
  have hl := List.length_take (i := n) (l := l)
  refine ⟨by omega, fun x hx => h2 x (List.mem_of_mem_take hx), fun hp => ?_⟩
  obtain ⟨b, off, e, hc⟩ := h3 (by omega)
  refine ⟨b, off, e, fun i hi => ?_⟩
  rw [take_getD l _ n i (by omega)]
  exact hc i (by omega)
theorem IsSs.take {w : World} {a : Option Addr} {l : List St} (h : IsSs w a l) (n : Nat) : IsSs w a (l.take n) := by
  obtain ⟨h1, h2, h3⟩ := h
  have hl := List.length_take (i := n) (l := l)
  refine ⟨by omega, fun x hx => h2 x (List.mem_of_mem_take hx), fun hp => ?_⟩
  obtain ⟨b, off, e, hc⟩ := h3 (by omega)
  refine ⟨b, off, e, fun i hi => ?_⟩
  rw [take_getD l _ n i (by omega)]
  exact hc i (by omega)
def n50 (n : Nat) : Nat := if 50 < n then 50 else n
theorem n50_take {α : Type} (l : List α) : n50 l.length = (l.take 50).length := by
  unfold n50
  rw [List.length_take]
  split <;> omega
set_option maxHeartbeats 2000000 in
theorem small_c (a b : Option Addr) (ca cb n m : Nat) (w : World) (ha : 50 < n → ∃ p o, a = some ⟨p, o, none⟩) (hb : 50 < m → ∃ p o, b = some ⟨p, o, none⟩) (hca : n ≤ ca) (hcb : m ≤ cb) :
    Calls Try.prog 16 #[snV a n ca b m cb] w fun e w' => e = .returned (snV a (n50 n) ca b (n50 m) cb) ∧ Below w.heap.size w w' := by
  have b0 := below_1 w (.cells #[.slice a n ca, .slice b m cb] 49)
  have h0 := heap_alloc_new w (.cells #[.slice a n ca, .slice b m cb] 49)
  have b1 := below_1 (w.alloc (.cells #[.slice a n ca, .slice b m cb] 49)) (.cells #[.slice none 0 0, .slice none 0 0] 49)
  have h1 := heap_alloc_new (w.alloc (.cells #[.slice a n ca, .slice b m cb] 49)) (.cells #[.slice none 0 0, .slice none 0 0] 49)
  rw [show (w.alloc (.cells #[.slice a n ca, .slice b m cb] 49)).heap.size = w.heap.size + 1 by simp] at h1
  have h0' := (b1.block _ (lt_blkR h0)).trans h0
  have BV := hid (b0.trans (b1.mono b0.size))
  obtain ⟨y0, y1⟩ := sn_cells h0'
  obtain ⟨z0, z1⟩ := sn_cells h1
  have f0 : ∀ i, ((w.alloc (.cells #[.slice a n ca, .slice b m cb] 49)).alloc (.cells #[.slice none 0 0, .slice none 0 0] 49)).frozen? ⟨w.heap.size, i, none⟩ = false := frz h0'
  have f1 : ∀ i, ((w.alloc (.cells #[.slice a n ca, .slice b m cb] 49)).alloc (.cells #[.slice none 0 0, .slice none 0 0] 49)).frozen? ⟨w.heap.size + 1, i, none⟩ = false := frz h1
  clear b0 b1 h0 h1 h0'
  unfold snV n50
  by_cases q1 : 50 < n
  · obtain ⟨p1, o1, rfl⟩ := ha q1
    rw [if_pos q1]
    have q1I : (50 : Int) < n := by omega
    have c1I : (50 : Int) ≤ ca := by omega
    have c1N : 50 ≤ ca := by omega
    by_cases q2 : 50 < m
    · obtain ⟨p2, o2, rfl⟩ := hb q2
      rw [if_pos q2]
      have q2I : (50 : Int) < m := by omega
      have c2I : (50 : Int) ≤ cb := by omega
      have c2N : 50 ≤ cb := by omega
      clear ha hb
      go_enter Try.func16, Try.ntmps16
      go_upto_region 1 with fail
      generalize ((w.alloc (.cells #[.slice (some ⟨p1, o1, none⟩) n ca, .slice (some ⟨p2, o2, none⟩) m cb] 49)).alloc (.cells #[.slice none 0 0, .slice none 0 0] 49)) = V at *
      go_wp2
      refine bodyPost_ret (v := snV (some ⟨p1, o1, none⟩) 50 ca (some ⟨p2, o2, none⟩) 50 cb) (by simp [results, Try.results16, go_sem, snV, y0, y1, z0, z1]) rfl ⟨rfl, ?_⟩
      exact (((BV.out.setCell (p := ⟨w.heap.size, 0, none⟩) (Nat.le_refl _) _).setCell (p := ⟨w.heap.size, 1, none⟩) (Nat.le_refl _) _).setCell (p := ⟨w.heap.size + 1, 0, none⟩) (Nat.le_succ _) _).setCell (p := ⟨w.heap.size + 1, 1, none⟩) (Nat.le_succ _) _
    · rw [if_neg q2]
      have q2I : ¬ (50 : Int) < m := by omega
      clear ha hb
      go_enter Try.func16, Try.ntmps16
      go_upto_region 1 with fail
      generalize ((w.alloc (.cells #[.slice (some ⟨p1, o1, none⟩) n ca, .slice b m cb] 49)).alloc (.cells #[.slice none 0 0, .slice none 0 0] 49)) = V at *
      go_wp2
      refine bodyPost_ret (v := snV (some ⟨p1, o1, none⟩) 50 ca b m cb) (by simp [results, Try.results16, go_sem, snV, y0, y1, z0, z1]) rfl ⟨rfl, ?_⟩
      exact ((BV.out.setCell (p := ⟨w.heap.size, 0, none⟩) (Nat.le_refl _) _).setCell (p := ⟨w.heap.size + 1, 0, none⟩) (Nat.le_succ _) _).setCell (p := ⟨w.heap.size + 1, 1, none⟩) (Nat.le_succ _) _
  · rw [if_neg q1]
    have q1I : ¬ (50 : Int) < n := by omega
    by_cases q2 : 50 < m
    · obtain ⟨p2, o2, rfl⟩ := hb q2
      rw [if_pos q2]
      have q2I : (50 : Int) < m := by omega
      have c2I : (50 : Int) ≤ cb := by omega
      have c2N : 50 ≤ cb := by omega
      clear ha hb
      go_enter Try.func16, Try.ntmps16
      go_upto_region 1 with fail
      generalize ((w.alloc (.cells #[.slice a n ca, .slice (some ⟨p2, o2, none⟩) m cb] 49)).alloc (.cells #[.slice none 0 0, .slice none 0 0] 49)) = V at *
      go_wp2
      refine bodyPost_ret (v := snV a n ca (some ⟨p2, o2, none⟩) 50 cb) (by simp [results, Try.results16, go_sem, snV, y0, y1, z0, z1]) rfl ⟨rfl, ?_⟩
      exact ((BV.out.setCell (p := ⟨w.heap.size, 1, none⟩) (Nat.le_refl _) _).setCell (p := ⟨w.heap.size + 1, 0, none⟩) (Nat.le_succ _) _).setCell (p := ⟨w.heap.size + 1, 1, none⟩) (Nat.le_succ _) _
    · rw [if_neg q2]
      have q2I : ¬ (50 : Int) < m := by omega
      clear ha hb
      go_enter Try.func16, Try.ntmps16
      go_upto_region 1 with fail
      generalize ((w.alloc (.cells #[.slice a n ca, .slice b m cb] 49)).alloc (.cells #[.slice none 0 0, .slice none 0 0] 49)) = V at *
      go_wp2
      refine bodyPost_ret (v := snV a n ca b m cb) (by simp [results, Try.results16, go_sem, snV, y0, y1, z0, z1]) rfl ⟨rfl, ?_⟩
      exact (BV.out.setCell (p := ⟨w.heap.size + 1, 0, none⟩) (Nat.le_succ _) _).setCell (p := ⟨w.heap.size + 1, 1, none⟩) (Nat.le_succ _) _
end Go.Proofs.Ytbgninmkglgfeaa
