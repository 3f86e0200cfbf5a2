/-
  Entries out of their bytes: takeKid, takeList of the package record. (Written by gen_rectakek.py.)
-/
import Derived.Test.YtbgninmkglgfeaaRTr
import Derived.Test.YtbgninmkglgfeaaRN1
namespace Go.Proofs.Ytbgninmkglgfeaa
open Go.RowKit Go.ChangeShapes Go.WideShapes Go.ChangeAt Go.Maps Go.Shelf
set_option linter.unusedVariables false
set_option linter.unusedSimpArgs false
def kidP (zs : List Int) : Option (Kd × List Int) := match shortP zs with
  | none => none
  | some (ys, t) => match numP 4 t with
    | none => none
    | some (f, u) => some (⟨Fr.tx ys, f⟩, u)
def kidsN : Nat → List Int → Option (List Kd × List Int)
  | 0, z => some ([], z)
  | n + 1, z => match kidP z with
    | none => none
    | some (x, t) => match kidsN n t with
      | none => none
      | some (l, u) => some (x :: l, u)
def kidsP (zs : List Int) : Option (List Kd × List Int) := match numP 1 zs with
  | none => none
  | some (m, t) => if m ≤ 12 then kidsN m.toNat t else none
theorem kidP_in {zs t : List Int} {x : Kd} (h : InB zs) (hp : kidP zs = some (x, t)) : x.Wf ∧ x.nm.size ≤ 255 ∧ InB t := by
  unfold kidP at hp
  rcases h0 : shortP zs with _ | ⟨ys, z1⟩
  · rw [h0] at hp; cases hp
  rw [h0] at hp; simp only at hp
  obtain ⟨b0, i1⟩ := shortP_in h h0
  rcases h1 : numP 4 z1 with _ | ⟨f, z2⟩
  · rw [h1] at hp; cases hp
  rw [h1] at hp
  simp only [Option.some.injEq, Prod.mk.injEq] at hp
  obtain ⟨rfl, rfl⟩ := hp
  obtain ⟨b1, i2⟩ := numP_in i1 h1
  refine ⟨⟨?_, b1.1, by simpa using b1.2⟩, ?_, i2⟩
  · simp only [Fr.tx_size]; unfold maxLen; omega
  · simp only [Fr.tx_size]; omega
theorem kidsN_in : ∀ (n : Nat) {zs t : List Int} {l : List Kd}, InB zs → kidsN n zs = some (l, t) → (∀ x ∈ l, x.Wf ∧ x.nm.size ≤ 255) ∧ InB t ∧ l.length = n
  | 0, zs, t, l, h, hp => by
    simp only [kidsN, Option.some.injEq, Prod.mk.injEq] at hp
    obtain ⟨rfl, rfl⟩ := hp
    exact ⟨(fun x hx => by cases hx), h, rfl⟩
  | n + 1, zs, t, l, h, hp => by
    unfold kidsN at hp
    rcases h0 : kidP zs with _ | ⟨x, z1⟩
    · rw [h0] at hp; cases hp
    rw [h0] at hp; simp only at hp
    obtain ⟨b0, b1, i1⟩ := kidP_in h h0
    rcases h1 : kidsN n z1 with _ | ⟨l', u⟩
    · rw [h1] at hp; cases hp
    rw [h1] at hp
    simp only [Option.some.injEq, Prod.mk.injEq] at hp
    obtain ⟨rfl, rfl⟩ := hp
    obtain ⟨b2, i2, e2⟩ := kidsN_in n i1 h1
    exact ⟨(fun y hy => (List.mem_cons.1 hy).elim (fun e => by rw [e]; exact ⟨b0, b1⟩) (b2 y)), i2, by rw [List.length_cons, e2]⟩
def kcells (l : List Kd) : List Value := l.flatMap Kd.cells
theorem kcells_snoc (l : List Kd) (x : Kd) : kcells (l ++ [x]) = kcells l ++ x.cells := by unfold kcells; simp
theorem kcells_len (l : List Kd) : (kcells l).length = l.length * 2 := by
  unfold kcells
  induction l with
  | nil => rfl
  | cons x t ih => rw [List.flatMap_cons, List.length_append, ih, List.length_cons]; simp [Kd.cells]; omega
theorem kcells_get (l : List Kd) (i j : Nat) (hi : i < l.length) (hj : j < 2) : (kcells l)[i * 2 + j]? = (l.getD i Kd.no).cells[j]? := by
  induction l generalizing i with
  | nil => cases hi
  | cons x t ih =>
    unfold kcells
    rw [List.flatMap_cons]
    rcases i with _ | i
    · rw [List.getElem?_append_left (by simp [Kd.cells]; omega)]
      simp
    · rw [List.getElem?_append_right (by simp [Kd.cells]; omega)]
      have e : (i + 1) * 2 + j - x.cells.length = i * 2 + j := by simp [Kd.cells]; omega
      rw [e]
      have := ih i (by simpa using hi)
      unfold kcells at this
      rw [this]
      simp [List.getD]
theorem info_kid : ∃ i : TypeInfo, Try.prog.info? 74 = some i ∧ i.zero = some Kd.no.val ∧ i.size = 2 ∧ i.bytes = 24 := by
  have h : (Try.prog.info? 74).map (fun i => (i.zero, i.size, i.bytes)) = some (some Kd.no.val, 2, 24) := by kernel_rfl
  cases hi : Try.prog.info? 74 with
  | none => rw [hi] at h; cases h
  | some i => rw [hi] at h; simp at h; exact ⟨i, rfl, h.1, h.2.1, h.2.2⟩
theorem isKs_own {w : World} {base : Nat} {v : Value} {l : List Kd} (h : w.ownsRow base 74 2 v l.length (kcells l)) (hw : ∀ x ∈ l, x.Wf) (hm : l.length ≤ 100000) : ∃ a cap, v = .slice a l.length cap ∧ IsKs w a l ∧ l.length ≤ cap ∧ (a = none → cap = 0) := by
  rcases h.2 with ⟨hv, hn⟩ | ⟨g, cap, cur, hv, hrest⟩
  · have e : l = [] := List.eq_nil_of_length_eq_zero hn
    subst e
    exact ⟨none, 0, hv, ⟨Nat.zero_le _, (fun x hx => by cases hx), fun hp => absurd hp (by simp)⟩, Nat.zero_le _, fun _ => rfl⟩
  · refine ⟨_, _, hv, ⟨by unfold maxLen; omega, hw, fun hp => ⟨g, 0, rfl, fun i hi => ?_⟩⟩, hrest.2.2.1, fun e => by cases e⟩
    have key : ∀ j, j < 2 → ∀ u, (l.getD i Kd.no).cells[j]? = some u → w.cell? ⟨g, 0 + i * 2 + j, none⟩ = some u := fun j hj u hu => by
      have e := h.cells (g := g) (by rw [hv]; rfl) (i * 2 + j) u (by rw [kcells_get l i j hi hj]; exact hu)
      rw [← e]
      congr 1
      unfold Addr.add
      split
      · rename_i q; simp [q]
      · simp
    exact ⟨key 0 (by omega) _ rfl, key 1 (by omega) _ rfl⟩
set_option maxRecDepth 20000 in
set_option maxHeartbeats 2000000 in
theorem takeKid_c {r : Nat} {a : Option Addr} {c : Nat} {zs : List Int} {w : World} (h : Rdr w r a c zs) :
    Calls Try.prog 65 #[.pointer (some ⟨r, 0, none⟩)] w (Takes w r ((kidP zs).map fun p => (p.1.val, p.2))) := by
  have hr0 := lt_blkR h.1
  have b0 := below_1 w (.cells Kd.no.cells.toArray 74)
  have hB0 := heap_alloc_new w (.cells Kd.no.cells.toArray 74)
  have NC := hid (rdtext_c (rdr_later h b0))
  have K0 : Hid (Kr r w (w.alloc (.cells Kd.no.cells.toArray 74))) := hid (Kr.of b0)
  have HB0 := hid hB0
  clear h b0 hB0
  have M0 : Hid (Kr r (w.alloc (.cells Kd.no.cells.toArray 74)) (w.alloc (.cells Kd.no.cells.toArray 74))) := hid (Kr.refl _ _)
  unfold kidP
  rcases h0 : shortP zs with _ | ⟨ys, t⟩
  · rw [h0] at NC
    simp only [Option.map_none]
    go_enter Try.func65, Try.ntmps65
    go_wp2_with (go_at_call 53; refine NC.out.mono ?_; intro e9 w9 h9; obtain ⟨hk9, rfl⟩ := takes_none h9)
    exact ⟨rfl, K0.out.trans hk9, rfl⟩
  · rw [h0] at NC
    simp only
    rcases h1 : numP 4 t with _ | ⟨f, u⟩
    · simp only [Option.map_none]
      go_enter Try.func65, Try.ntmps65
      go_wp2_with (first
        | (go_at_call 52; refine TC.out.mono ?_; intro e9 w9 h9; obtain ⟨hk9, rfl⟩ := takes_none h9)
        | (go_at_call 53; refine NC.out.mono ?_; intro e8 w1 h8; obtain ⟨hk8, rfl, a1, c1, hR1⟩ := takes_some h8; have K1 := hid (K0.out.trans hk8); have TC := hid (takeFid_c hR1); rw [h1] at TC; clear h8 hk8 hR1))
      exact ⟨rfl, K1.out.trans hk9, rfl⟩
    · simp only [Option.map_some]
      go_enter Try.func65, Try.ntmps65
      go_wp2_with (first
        | (go_at_call 52; refine TC.out.mono ?_; intro e9 w2 h9; obtain ⟨hk9, rfl, a2, c2, hR2⟩ := takes_some h9; have K2 := hid (K1.out.trans hk9); have hB2 := ((M1.out.trans hk9).block w.heap.size (by simp) (by omega)).trans HB0.out; (have q0 : w2.cell? ⟨w.heap.size, 0, none⟩ = some (.string ⟨#[]⟩) := cell_of_row2 hB2 0 rfl); (have q1 : w2.cell? ⟨w.heap.size, 1, none⟩ = some (.int .u32 0) := cell_of_row2 hB2 1 rfl); have fz : ∀ i, w2.frozen? ⟨w.heap.size, i, none⟩ = false := (fun i => by simp [World.frozen?, hB2]); clear h9 hk9 hB2)
        | (go_at_call 53; refine NC.out.mono ?_; intro e8 w1 h8; obtain ⟨hk8, rfl, a1, c1, hR1⟩ := takes_some h8; have K1 := hid (K0.out.trans hk8); have M1 := hid (M0.out.trans hk8); have TC := hid (takeFid_c hR1); rw [h1] at TC; simp only [Option.map_some] at TC; clear h8 hk8 hR1))
      refine bodyPost_ret (v := Kd.val ⟨Fr.tx ys, f⟩) (by simp [results, Try.results65, go_sem, Kd.val, q0, q1]) rfl ⟨((K2.out.new (Nat.le_refl _) 0 _).new (Nat.le_refl _) 1 _), rfl, _, _, (rdr_new (rdr_new hR2 hr0 0 _) hr0 1 _)⟩
def TakesK (w : World) (r : Nat) (res : Option (List Kd × List Int)) (e : Ending) (w' : World) : Prop :=
  Kr r w w' ∧ match res with
    | some (l, rest) => (∃ v, e = .returned v ∧ w'.ownsRow w.heap.size 74 2 v l.length (kcells l)) ∧ ∃ a c, Rdr w' r a c rest
    | none => e = PN
theorem kidsN_step {n : Nat} {z : List Int} : kidsN (n + 1) z = match kidP z with
    | none => none
    | some (x, t) => match kidsN n t with
      | none => none
      | some (l, u) => some (x :: l, u) := rfl
theorem kid_news {w : World} {g : Nat} {x : Kd} {t : TypeId} {fr : Nat × Nat} (hb : w.heap[g]? = some (.cells x.cells.toArray t fr)) : ∀ j u, x.cells[j]? = some u → w.cell? ((⟨g, 0, none⟩ : Addr).add j) = some u := fun j u hu => by
  have e : (⟨g, 0, none⟩ : Addr).add j = ⟨g, 0 + j, none⟩ := by unfold Addr.add; split <;> simp_all
  rw [e, cell_of_row w g _ _ t fr hb]
  simpa using hu
theorem kid_one (x : Kd) : ∀ u ∈ x.cells, u.oneCell' = true := fun u hu => by
  simp [Kd.cells] at hu
  rcases hu with rfl | rfl <;> rfl
/-- What is still to be read, behind what was read. -/
def LeftK (R : Option (List Kd × List Int)) (l : List Kd) (n : Nat) (z : List Int) : Prop := R = match kidsN n z with
  | none => none
  | some (t, u) => some (l ++ t, u)
theorem LeftK.none {R : Option (List Kd × List Int)} {l : List Kd} {n : Nat} {z : List Int} (h : LeftK R l (n + 1) z) (hp : kidP z = none) : R = none := by
  unfold LeftK at h
  rw [kidsN_step, hp] at h
  exact h
theorem LeftK.some {R : Option (List Kd × List Int)} {l : List Kd} {n : Nat} {z t : List Int} {x : Kd} (h : LeftK R l (n + 1) z) (hp : kidP z = some (x, t)) : LeftK R (l ++ [x]) n t := by
  unfold LeftK at h ⊢
  rw [kidsN_step, hp] at h
  simp only at h
  rw [h]
  rcases kidsN n t with _ | ⟨l', u⟩
  · rfl
  · simp
set_option maxRecDepth 20000 in
set_option maxHeartbeats 2000000 in
theorem takeListK_c {r : Nat} {a : Option Addr} {c : Nat} {zs : List Int} {w : World} (h : Rdr w r a c zs) :
    Calls Try.prog 64 #[.pointer (some ⟨r, 0, none⟩), .int .i64 12, .func (.func 65) #[] #[]] w (TakesK w r (kidsP zs)) := by
  obtain ⟨i0, hi, hz0, hz1, hz2⟩ := info_kid
  have hr0 := lt_blkR h.1
  have NC := hid (tnum_c 1 h (by omega))
  have HBD := hid (fun m t (e : numP 1 zs = some (m, t)) => numP_bd h e)
  clear h
  unfold kidsP
  rcases h0 : numP 1 zs with _ | ⟨m, t⟩
  · rw [h0] at NC
    simp only
    go_enter Try.func64, Try.ntmps64
    go_wp2_with (go_at_call 51; refine NC.out.mono ?_; intro e9 w9 h9; obtain ⟨hk9, rfl⟩ := takes_none h9)
    exact ⟨rfl, hk9, rfl⟩
  · obtain ⟨m0, m1⟩ := HBD.out m t h0
    have m1' : m < 256 := by simpa using m1
    have kc : IntKind.i64.wrap m = m := by rw [IntKind.wrap_i64]; omega
    obtain ⟨k, rfl⟩ : ∃ k : Nat, m = k := ⟨m.toNat, by omega⟩
    rw [h0] at NC
    simp only [Int.toNat_natCast]
    clear m1 HBD h0
    by_cases q : (k : Int) ≤ 12
    · rw [if_pos q]
      have qn : ¬ (12 : Int) < k := by omega
      obtain ⟨R, hR⟩ : ∃ R, R = kidsN k t := ⟨_, rfl⟩
      rw [← hR]
      have HL0 : Hid (LeftK R [] k t) := hid (by unfold LeftK; rw [hR]; rcases kidsN k t with _ | ⟨l', u⟩ <;> rfl)
      clear hR
      go_enter Try.func64, Try.ntmps64
      go_wp2_with (first
        | (go_at_call 54; rw [show decide ((12 : Int) < (k : Int)) = false from decide_eq_false (by omega)]; refine (refuse_f _).mono ?_; rintro _ wf ⟨rfl, hwf⟩; have hwf2 := hwf.symm; clear hwf; subst hwf2)
        | (go_at_call 51; refine NC.out.mono ?_; intro e8 w1 h8; obtain ⟨hk8, rfl, a1, c1, hR1⟩ := takes_some h8; have K1 := hid hk8; have HR1 := hid hR1; clear h8 hk8 hR1))
      go_loopg [8, 17] k (fun g v8 v17 wr => ∃ (j : Nat) (l : List Kd) (z : List Int) (a : Option Addr) (c : Nat), j + g = k ∧ l.length = j ∧ v17 = .int .i64 j ∧ Hid (wr.ownsRow w.heap.size 74 2 v8 l.length (kcells l)) ∧ Hid (Rdr wr r a c z) ∧ Hid (Kr r w wr) ∧ Hid (LeftK R l g z))
      case atStart => exact ⟨0, [], t, a1, c1, by omega, rfl, rfl, hid (World.ownsRow_nil _ _ 74 2), HR1, K1, HL0⟩
      case round =>
        clear HR1 K1 HL0
        obtain ⟨_, l, z, a2, c2, hjg, rfl, rfl, HO, HR, HK, HLF⟩ := hrel
        obtain ⟨va, vc, rfl⟩ := own_shapeR HO.out
        by_cases hlt : l.length < k
        · have hltI : (l.length : Int) < k := by omega
          obtain ⟨g1, rfl⟩ : ∃ g1, gk = g1 + 1 := ⟨gk - 1, by omega⟩
          have TC := hid (takeKid_c HR.out)
          rcases hp : kidP z with _ | ⟨x, u⟩
          · have HN := hid (HLF.out.none hp)
            rw [hp] at TC
            simp only [Option.map_none] at TC
            go_wp2_with (go_at_call 65; refine TC.out.mono ?_; intro e9 w9 h9; obtain ⟨hk9, rfl⟩ := takes_none h9)
            exact ⟨rfl, HK.out.trans hk9, by rw [HN.out]⟩
          · have HN := hid (HLF.out.some hp)
            rw [hp] at TC
            simp only [Option.map_some] at TC
            unfold Kd.val at TC
            go_wp2_with (first
              | (at_builtin; refine wpList_append_own _ rfl _ _ 37 rfl w.heap.size 74 i0 Kd.no.val 2 24 Try.underlying37 hi hz0 hz1 hz2 (by rfl) (by decide) _ _ _ rfl O4.out ⟨w3.heap.size, 0, none⟩ 1 1 x.cells rfl rfl (kid_news N4.out) (kid_one x) (by unfold maxLen; omega) (by omega) (Nat.le_trans K4.out.size (Nat.le_refl _)) ?_; intro v9 w9 hown9 hgrow9 hnil9)
              | (go_at_call 65; refine TC.out.mono ?_; intro e9 w3 h9; obtain ⟨hk9, rfl, a3, c3, hR3⟩ := takes_some h9
                 have b4 := below_1 w3 (.cells x.cells.toArray 74)
                 have K4 := hid ((HK.out.trans hk9).trans (Kr.of b4))
                 have O4 := hid (own_latR (own_kr HO.out hk9 hr0) b4)
                 have R4 := hid (rdr_later hR3 b4)
                 have N4 := hid (heap_alloc_new w3 (.cells x.cells.toArray 74))
                 clear h9 hk9 hR3 b4))
            have O9 : Hid (w9.ownsRow w.heap.size 74 2 v9 (l ++ [x]).length (kcells (l ++ [x]))) := hid (by rw [List.length_append, kcells_snoc]; exact hown9)
            have K9 := hid (kr_grown (base := 0) K4.out O4.out hgrow9)
            have R9 := hid (rdr_grown R4.out O4.out hgrow9 hr0)
            obtain ⟨a9, c9, rfl⟩ := own_shapeR hown9
            clear hown9 hgrow9 hnil9
            go_roundg g1
            case measure => omega
            case rel => exact ⟨l.length + 1, l ++ [x], u, a3, c3, by omega, by rw [List.length_append]; rfl, by go_num, O9, R9, K9, HN⟩
        · have em : l.length = k := by omega
          have hg0 : gk = 0 := by omega
          subst em
          subst hg0
          have hge : ¬ (l.length : Int) < l.length := by omega
          have HE : Hid (R = some (l, z)) := hid (by have := HLF.out; unfold LeftK at this; simpa [kidsN] using this)
          go_wp2
          go_ret
          rw [HE.out]
          exact ⟨HK.out, ⟨_, rfl, HO.out⟩, _, _, HR.out⟩
    · rw [if_neg q]
      have qn : (12 : Int) < k := by omega
      go_enter Try.func64, Try.ntmps64
      go_wp2_with (first
        | (go_at_call 54; (try rw [show decide ((12 : Int) < (k : Int)) = true from decide_eq_true (by omega)]); refine (refuse_t _).mono ?_; rintro _ wf ⟨rfl, hwf⟩; have hwf2 := hwf.symm; clear hwf; subst hwf2)
        | (go_at_call 51; refine NC.out.mono ?_; intro e8 w1 h8; obtain ⟨hk8, rfl, a1, c1, hR1⟩ := takes_some h8; have K1 := hid hk8; clear h8 hk8 hR1))
      exact ⟨rfl, K1.out, rfl⟩
end Go.Proofs.Ytbgninmkglgfeaa
