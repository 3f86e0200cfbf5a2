/-
  Stamps and nodes of a snapshot out of their bytes: takeStamp, takeMeasured, takeList of the package record. (Written by gen_snapr.py.)
-/
import Derived.Test.YtbgninmkglgfeaaSW2
import Derived.Test.YtbgninmkglgfeaaRR7
namespace Go.Proofs.Ytbgninmkglgfeaa
open Go.RowKit Go.ChangeShapes Go.WideShapes Go.ChangeAt Go.Maps Go.Shelf
set_option linter.unusedVariables false
set_option linter.unusedSimpArgs false
def scells (l : List St) : List Value := l.flatMap St.cells
theorem scells_snoc (l : List St) (x : St) : scells (l ++ [x]) = scells l ++ x.cells := by unfold scells; simp
theorem scells_get (l : List St) (i j : Nat) (hi : i < l.length) (hj : j < 3) : (scells l)[i * 3 + j]? = (l.getD i St.no).cells[j]? := by
  induction l generalizing i with
  | nil => cases hi
  | cons x t ih =>
    unfold scells
    rw [List.flatMap_cons]
    rcases i with _ | i
    · rw [List.getElem?_append_left (by simp [St.cells]; omega)]
      simp
    · rw [List.getElem?_append_right (by simp [St.cells]; omega)]
      have e : (i + 1) * 3 + j - x.cells.length = i * 3 + j := by simp [St.cells]; omega
      rw [e]
      have := ih i (by simpa using hi)
      unfold scells at this
      rw [this]
      simp [List.getD]
theorem info_st : ∃ i : TypeInfo, Try.prog.info? 85 = some i ∧ i.zero = some St.no.val ∧ i.size = 3 ∧ i.bytes = 24 := by
  have h : (Try.prog.info? 85).map (fun i => (i.zero, i.size, i.bytes)) = some (some St.no.val, 3, 24) := by kernel_rfl
  cases hi : Try.prog.info? 85 with
  | none => rw [hi] at h; cases h
  | some i => rw [hi] at h; simp at h; exact ⟨i, rfl, h.1, h.2.1, h.2.2⟩
theorem isSs_own {w : World} {base : Nat} {v : Value} {l : List St} (h : w.ownsRow base 85 3 v l.length (scells l)) (hw : ∀ x ∈ l, x.Wf) (hm : l.length ≤ 100000) : ∃ a cap, v = .slice a l.length cap ∧ IsSs w a l := by
  rcases h.2 with ⟨hv, hn⟩ | ⟨g, cap, cur, hv, hrest⟩
  · have e : l = [] := List.eq_nil_of_length_eq_zero hn
    subst e
    exact ⟨none, 0, hv, ⟨Nat.zero_le _, (fun x hx => by cases hx), fun hp => absurd hp (by simp)⟩⟩
  · refine ⟨_, _, hv, ⟨by unfold maxLen; omega, hw, fun hp => ⟨g, 0, rfl, fun i hi => ?_⟩⟩⟩
    have key : ∀ j, j < 3 → ∀ u, (l.getD i St.no).cells[j]? = some u → w.cell? ⟨g, 0 + i * 3 + j, none⟩ = some u := fun j hj u hu => by
      have e := h.cells (g := g) (by rw [hv]; rfl) (i * 3 + j) u (by rw [scells_get l i j hi hj]; exact hu)
      rw [← e]
      congr 1
      unfold Addr.add
      split
      · rename_i q; simp [q]
      · simp
    exact ⟨key 0 (by omega) _ rfl, key 1 (by omega) _ rfl, key 2 (by omega) _ rfl⟩
set_option maxRecDepth 20000 in
set_option maxHeartbeats 2000000 in
theorem takeStamp_c {r : Nat} {a : Option Addr} {c : Nat} {zs : List Int} {w : World} (h : Rdr w r a c zs) :
    Calls Try.prog 88 #[.pointer (some ⟨r, 0, none⟩)] w (Takes w r ((stampP zs).map fun p => (p.1.val, p.2))) := by
  have hr0 := lt_blkR h.1
  have hin := rdr_in h
  have b0 := below_1 w (.cells St.no.cells.toArray 85)
  have hB0 := heap_alloc_new w (.cells St.no.cells.toArray 85)
  have NC := hid (takeFid_c (rdr_later h b0))
  have K0 : Hid (Kr r w (w.alloc (.cells St.no.cells.toArray 85))) := hid (Kr.of b0)
  have HB0 := hid hB0
  clear h b0 hB0
  have M0 : Hid (Kr r (w.alloc (.cells St.no.cells.toArray 85)) (w.alloc (.cells St.no.cells.toArray 85))) := hid (Kr.refl _ _)
  unfold stampP
  rcases h0 : numP 4 zs with _ | ⟨f, t⟩
  · rw [h0] at NC
    simp only [Option.map_none]
    clear hin
    go_enter Try.func88, Try.ntmps88
    go_wp2_with (go_at_call 52; refine NC.out.mono ?_; intro e9 w9 h9; obtain ⟨hk9, rfl⟩ := takes_none h9)
    exact ⟨rfl, K0.out.trans hk9, rfl⟩
  · rw [h0] at NC
    simp only
    obtain ⟨_, i1⟩ := numP_in hin h0
    rcases h1 : numP 8 t with _ | ⟨v, u⟩
    · simp only [Option.map_none]
      clear hin i1
      go_enter Try.func88, Try.ntmps88
      go_wp2_with (first
        | (go_at_call 51; refine TC.out.mono ?_; intro e9 w9 h9; obtain ⟨hk9, rfl⟩ := takes_none h9)
        | (go_at_call 52; refine NC.out.mono ?_; intro e8 w1 h8; obtain ⟨hk8, rfl, a1, c1, hR1⟩ := takes_some h8; have K1 := hid (K0.out.trans hk8); have TC := hid (tnum_c 8 hR1 (by omega)); rw [h1] at TC; clear h8 hk8 hR1))
      exact ⟨rfl, K1.out.trans hk9, rfl⟩
    · simp only
      obtain ⟨_, i2⟩ := numP_in i1 h1
      rcases h2 : numP 1 u with _ | ⟨k, x⟩
      · simp only [Option.map_none]
        clear hin i1 i2
        have t0 := hid True.intro
        go_enter Try.func88, Try.ntmps88
        go_wp2_with (first
          | (have _q := t1.out; clear _q; go_at_call 51; refine TD.out.mono ?_; intro e9 w9 h9; obtain ⟨hk9, rfl⟩ := takes_none h9)
          | (have _q := t0.out; clear _q; go_at_call 51; refine TC.out.mono ?_; intro e9 w2 h9; obtain ⟨hk9, rfl, a2, c2, hR2⟩ := takes_some h9; have K2 := hid (K1.out.trans hk9); have TD := hid (tnum_c 1 hR2 (by omega)); rw [h2] at TD; have t1 := hid True.intro; clear h9 hk9 hR2 t0)
          | (go_at_call 52; refine NC.out.mono ?_; intro e8 w1 h8; obtain ⟨hk8, rfl, a1, c1, hR1⟩ := takes_some h8; have K1 := hid (K0.out.trans hk8); have TC := hid (tnum_c 8 hR1 (by omega)); rw [h1] at TC; clear h8 hk8 hR1))
        exact ⟨rfl, K2.out.trans hk9, rfl⟩
      · obtain ⟨bk, _⟩ := numP_in i2 h2
        have ek : IntKind.u8.wrap k = k := by rw [IntKind.wrap_u8']; simp at bk; omega
        simp only [Option.map_some]
        clear hin i1 i2 bk
        have t0 := hid True.intro
        go_enter Try.func88, Try.ntmps88
        go_wp2_with (first
          | (have _q := t1.out; clear _q; go_at_call 51; refine TD.out.mono ?_; intro e9 w3 h9; obtain ⟨hk9, rfl, a3, c3, hR3⟩ := takes_some h9; have K3 := hid (K2.out.trans hk9); have hB2 := ((M2.out.trans hk9).block w.heap.size (by simp) (by omega)).trans HB0.out; (have q0 : w3.cell? ⟨w.heap.size, 0, none⟩ = some (.int .u32 0) := cell_of_row2 hB2 0 rfl); (have q1 : w3.cell? ⟨w.heap.size, 1, none⟩ = some (.int .u64 0) := cell_of_row2 hB2 1 rfl); (have q2 : w3.cell? ⟨w.heap.size, 2, none⟩ = some (.int .u8 0) := cell_of_row2 hB2 2 rfl); have fz : ∀ i, w3.frozen? ⟨w.heap.size, i, none⟩ = false := (fun i => by simp [World.frozen?, hB2]); clear h9 hk9 hB2 t1)
          | (have _q := t0.out; clear _q; go_at_call 51; refine TC.out.mono ?_; intro e9 w2 h9; obtain ⟨hk9, rfl, a2, c2, hR2⟩ := takes_some h9; have K2 := hid (K1.out.trans hk9); have M2 := hid (M1.out.trans hk9); have TD := hid (tnum_c 1 hR2 (by omega)); rw [h2] at TD; have t1 := hid True.intro; clear h9 hk9 hR2 t0)
          | (go_at_call 52; refine NC.out.mono ?_; intro e8 w1 h8; obtain ⟨hk8, rfl, a1, c1, hR1⟩ := takes_some h8; have K1 := hid (K0.out.trans hk8); have M1 := hid (M0.out.trans hk8); have TC := hid (tnum_c 8 hR1 (by omega)); rw [h1] at TC; clear h8 hk8 hR1))
        refine bodyPost_ret (v := St.val ⟨f, v, k⟩) (by simp [results, Try.results88, go_sem, St.val, q0, q1, q2]) rfl ⟨(((K3.out.new (Nat.le_refl _) 0 _).new (Nat.le_refl _) 1 _).new (Nat.le_refl _) 2 _), rfl, _, _, (rdr_new (rdr_new (rdr_new hR3 hr0 0 _) hr0 1 _) hr0 2 _)⟩
def TakesS (w : World) (r : Nat) (res : Option (List St × List Int)) (e : Ending) (w' : World) : Prop :=
  Kr r w w' ∧ match res with
    | some (l, rest) => (∃ v, e = .returned v ∧ w'.ownsRow w.heap.size 85 3 v l.length (scells l)) ∧ ∃ a c, Rdr w' r a c rest
    | none => e = PN
theorem stampsN_step {n : Nat} {z : List Int} : stampsN (n + 1) z = match stampP z with
    | none => none
    | some (x, t) => match stampsN n t with
      | none => none
      | some (l, u) => some (x :: l, u) := rfl
theorem st_news {w : World} {g : Nat} {x : St} {t : TypeId} {fr : Nat × Nat} (hb : w.heap[g]? = some (.cells x.cells.toArray t fr)) : ∀ j u, x.cells[j]? = some u → w.cell? ((⟨g, 0, none⟩ : Addr).add j) = some u := fun j u hu => by
  have e : (⟨g, 0, none⟩ : Addr).add j = ⟨g, 0 + j, none⟩ := by unfold Addr.add; split <;> simp_all
  rw [e, cell_of_row w g _ _ t fr hb]
  simpa using hu
theorem st_one (x : St) : ∀ u ∈ x.cells, u.oneCell' = true := fun u hu => by
  simp [St.cells] at hu
  rcases hu with rfl | rfl | rfl <;> rfl
/-- What is still to be read, behind what was read. -/
def LeftS (R : Option (List St × List Int)) (l : List St) (n : Nat) (z : List Int) : Prop := R = match stampsN n z with
  | none => none
  | some (t, u) => some (l ++ t, u)
theorem LeftS.none {R : Option (List St × List Int)} {l : List St} {n : Nat} {z : List Int} (h : LeftS R l (n + 1) z) (hp : stampP z = none) : R = none := by
  unfold LeftS at h
  rw [stampsN_step, hp] at h
  exact h
theorem LeftS.some {R : Option (List St × List Int)} {l : List St} {n : Nat} {z t : List Int} {x : St} (h : LeftS R l (n + 1) z) (hp : stampP z = some (x, t)) : LeftS R (l ++ [x]) n t := by
  unfold LeftS at h ⊢
  rw [stampsN_step, hp] at h
  simp only at h
  rw [h]
  rcases stampsN n t with _ | ⟨l', u⟩
  · rfl
  · simp
set_option maxRecDepth 20000 in
set_option maxHeartbeats 2000000 in
theorem takeListS_c {r : Nat} {a : Option Addr} {c : Nat} {zs : List Int} {w : World} (h : Rdr w r a c zs) :
    Calls Try.prog 87 #[.pointer (some ⟨r, 0, none⟩), .int .i64 40, .func (.func 88) #[] #[]] w (TakesS w r (stampsP zs)) := by
  obtain ⟨i0, hi, hz0, hz1, hz2⟩ := info_st
  have hr0 := lt_blkR h.1
  have NC := hid (tnum_c 1 h (by omega))
  have HBD := hid (fun m t (e : numP 1 zs = some (m, t)) => numP_bd h e)
  clear h
  unfold stampsP
  rcases h0 : numP 1 zs with _ | ⟨m, t⟩
  · rw [h0] at NC
    simp only
    go_enter Try.func87, Try.ntmps87
    go_wp2_with (go_at_call 51; refine NC.out.mono ?_; intro e9 w9 h9; obtain ⟨hk9, rfl⟩ := takes_none h9)
    exact ⟨rfl, hk9, rfl⟩
  · obtain ⟨m0, m1⟩ := HBD.out m t h0
    have m1' : m < 256 := by simpa using m1
    have kc : IntKind.i64.wrap m = m := by rw [IntKind.wrap_i64]; omega
    obtain ⟨k, rfl⟩ : ∃ k : Nat, m = k := ⟨m.toNat, by omega⟩
    rw [h0] at NC
    simp only [Int.toNat_natCast]
    clear m1 HBD h0
    by_cases q : (k : Int) ≤ 40
    · rw [if_pos q]
      have qn : ¬ (40 : Int) < k := by omega
      obtain ⟨R, hR⟩ : ∃ R, R = stampsN k t := ⟨_, rfl⟩
      rw [← hR]
      have HL0 : Hid (LeftS R [] k t) := hid (by unfold LeftS; rw [hR]; rcases stampsN k t with _ | ⟨l', u⟩ <;> rfl)
      clear hR
      go_enter Try.func87, Try.ntmps87
      go_wp2_with (first
        | (go_at_call 54; rw [show decide ((40 : Int) < (k : Int)) = false from decide_eq_false (by omega)]; refine (refuse_f _).mono ?_; rintro _ wf ⟨rfl, hwf⟩; have hwf2 := hwf.symm; clear hwf; subst hwf2)
        | (go_at_call 51; refine NC.out.mono ?_; intro e8 w1 h8; obtain ⟨hk8, rfl, a1, c1, hR1⟩ := takes_some h8; have K1 := hid hk8; have HR1 := hid hR1; clear h8 hk8 hR1))
      go_loopg [8, 17] k (fun g v8 v17 wr => ∃ (j : Nat) (l : List St) (z : List Int) (a : Option Addr) (c : Nat), j + g = k ∧ l.length = j ∧ v17 = .int .i64 j ∧ Hid (wr.ownsRow w.heap.size 85 3 v8 l.length (scells l)) ∧ Hid (Rdr wr r a c z) ∧ Hid (Kr r w wr) ∧ Hid (LeftS R l g z))
      case atStart => exact ⟨0, [], t, a1, c1, by omega, rfl, rfl, hid (World.ownsRow_nil _ _ 85 3), HR1, K1, HL0⟩
      case round =>
        clear HR1 K1 HL0
        obtain ⟨_, l, z, a2, c2, hjg, rfl, rfl, HO, HR, HK, HLF⟩ := hrel
        obtain ⟨va, vc, rfl⟩ := own_shapeR HO.out
        by_cases hlt : l.length < k
        · have hltI : (l.length : Int) < k := by omega
          obtain ⟨g1, rfl⟩ : ∃ g1, gk = g1 + 1 := ⟨gk - 1, by omega⟩
          have TC := hid (takeStamp_c HR.out)
          rcases hp : stampP z with _ | ⟨x, u⟩
          · have HN := hid (HLF.out.none hp)
            rw [hp] at TC
            simp only [Option.map_none] at TC
            go_wp2_with (go_at_call 88; refine TC.out.mono ?_; intro e9 w9 h9; obtain ⟨hk9, rfl⟩ := takes_none h9)
            exact ⟨rfl, HK.out.trans hk9, by rw [HN.out]⟩
          · have HN := hid (HLF.out.some hp)
            rw [hp] at TC
            simp only [Option.map_some] at TC
            unfold St.val at TC
            go_wp2_with (first
              | (at_builtin; refine wpList_append_own _ rfl _ _ 47 rfl w.heap.size 85 i0 St.no.val 3 24 Try.underlying47 hi hz0 hz1 hz2 (by rfl) (by decide) _ _ _ rfl O4.out ⟨w3.heap.size, 0, none⟩ 1 1 x.cells rfl rfl (st_news N4.out) (st_one x) (by unfold maxLen; omega) (by omega) (Nat.le_trans K4.out.size (Nat.le_refl _)) ?_; intro v9 w9 hown9 hgrow9 hnil9)
              | (go_at_call 88; refine TC.out.mono ?_; intro e9 w3 h9; obtain ⟨hk9, rfl, a3, c3, hR3⟩ := takes_some h9
                 have b4 := below_1 w3 (.cells x.cells.toArray 85)
                 have K4 := hid ((HK.out.trans hk9).trans (Kr.of b4))
                 have O4 := hid (own_latR (own_kr HO.out hk9 hr0) b4)
                 have R4 := hid (rdr_later hR3 b4)
                 have N4 := hid (heap_alloc_new w3 (.cells x.cells.toArray 85))
                 clear h9 hk9 hR3 b4))
            have O9 : Hid (w9.ownsRow w.heap.size 85 3 v9 (l ++ [x]).length (scells (l ++ [x]))) := hid (by rw [List.length_append, scells_snoc]; exact hown9)
            have K9 := hid (kr_grown (base := 0) K4.out O4.out hgrow9)
            have R9 := hid (rdr_grown R4.out O4.out hgrow9 hr0)
            obtain ⟨a9, c9, rfl⟩ := own_shapeR hown9
            clear hown9 hgrow9 hnil9
            go_roundg g1
            case measure => omega
            case rel => exact ⟨l.length + 1, l ++ [x], u, a3, c3, by omega, by rw [List.length_append]; rfl, by go_num, O9, R9, K9, HN⟩
        · have em : l.length = k := by omega
          have hg0 : gk = 0 := by omega
          subst em
          subst hg0
          have hge : ¬ (l.length : Int) < l.length := by omega
          have HE : Hid (R = some (l, z)) := hid (by have := HLF.out; unfold LeftS at this; simpa [stampsN] using this)
          go_wp2
          go_ret
          rw [HE.out]
          exact ⟨HK.out, ⟨_, rfl, HO.out⟩, _, _, HR.out⟩
    · rw [if_neg q]
      have qn : (40 : Int) < k := by omega
      go_enter Try.func87, Try.ntmps87
      go_wp2_with (first
        | (go_at_call 54; (try rw [show decide ((40 : Int) < (k : Int)) = true from decide_eq_true (by omega)]); refine (refuse_t _).mono ?_; rintro _ wf ⟨rfl, hwf⟩; have hwf2 := hwf.symm; clear hwf; subst hwf2)
        | (go_at_call 51; refine NC.out.mono ?_; intro e8 w1 h8; obtain ⟨hk8, rfl, a1, c1, hR1⟩ := takes_some h8; have K1 := hid hk8; clear h8 hk8 hR1))
      exact ⟨rfl, K1.out, rfl⟩
end Go.Proofs.Ytbgninmkglgfeaa
