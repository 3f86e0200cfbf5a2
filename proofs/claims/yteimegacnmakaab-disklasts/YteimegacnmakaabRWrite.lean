/-
  What Write of the document's disk does.
-/
import Derived.Test.YteimegacnmakaabRBase
import Derived.Deep.MidRow
namespace Go.Proofs.Yteimegacnmakaab
open Go.RowKit Go.ChangeShapes Go.WideShapes Go.ChangeAt
set_option linter.unusedVariables false
set_option linter.unusedSimpArgs false
theorem IsR.few {w : World} {r N : Nat} {L : List Sec} {B : List (Int × Sec)} (h : IsR w r N L B) : B.length ≤ N := by
  obtain ⟨_, _, _, hp, hB, _, _⟩ := h
  have := few_keys N (B.map (·.1)) (by rw [List.pairwise_map]; exact hp.imp fun {a b} h => by omega) (fun x hx => by
    obtain ⟨p, hp1, rfl⟩ := List.mem_map.1 hx
    exact (hB p hp1).2)
  simpa using this
theorem IsR.row {w : World} {r N : Nat} {L : List Sec} {B : List (Int × Sec)} (h : IsR w r N L B) : ∃ al capl ab capb, w.heap[r]? = some (.cells #[.slice al N capl, .slice ab B.length capb] 94 (0, 0)) ∧
    w.ownsRow 0 61 32 (.slice al N capl) N (L.flatMap fun s => s.map by8) ∧ w.ownsRow 0 96 33 (.slice ab B.length capb) B.length (B.flatMap lcells) := by
  obtain ⟨⟨lv, bv, h1, h2, h3⟩, _⟩ := h
  obtain ⟨al, capl, rfl⟩ := own_shape h2
  obtain ⟨ab, capb, rfl⟩ := own_shape h3
  exact ⟨al, capl, ab, capb, h1, h2, h3⟩
theorem news_of (W : World) (cs : List Value) (t : TypeId) : ∀ j u, cs[j]? = some u → (W.alloc (.cells cs.toArray t)).cell? ((⟨W.heap.size, 0, none⟩ : Addr).add j) = some u := by
  intro j u hu
  have hadd : (⟨W.heap.size, 0, none⟩ : Addr).add j = ⟨W.heap.size, j, none⟩ := by unfold Addr.add; split <;> simp_all
  rw [hadd, cell_of_row _ _ _ _ _ _ (heap_alloc_new W _)]
  simpa using hu
theorem two_cells {w : World} {r : Nat} {x y : Value} {t : TypeId} (h : w.heap[r]? = some (.cells #[x, y] t (0, 0))) : w.cell? ⟨r, 0, none⟩ = some x ∧ w.cell? ⟨r, 1, none⟩ = some y ∧ w.frozen? ⟨r, 0, none⟩ = false ∧ w.frozen? ⟨r, 1, none⟩ = false := by
  simp [World.cell?, World.frozen?, h]
theorem set_second {w : World} {r : Nat} {x y z : Value} {t : TypeId} (h : w.heap[r]? = some (.cells #[x, y] t (0, 0))) : (w.setCell ⟨r, 1, none⟩ z).heap[r]? = some (.cells #[x, z] t (0, 0)) := by
  simp only [World.setCell, Array.getElem?_modify, h]
  simp
theorem set_first {w : World} {r : Nat} {x y z : Value} {t : TypeId} (h : w.heap[r]? = some (.cells #[x, y] t (0, 0))) : (w.setCell ⟨r, 0, none⟩ z).heap[r]? = some (.cells #[z, y] t (0, 0)) := by
  simp only [World.setCell, Array.getElem?_modify, h]
  simp
theorem Out.setCell {S : Nat → Prop} (w : World) (p : Addr) (v : Value) (h : S p.block) : Out S w (w.setCell p v) :=
  ⟨rfl, rfl, rfl, by simp [World.setCell], fun k _ hk => Below.heap_setCell _ _ _ _ (fun e => hk (by rw [e]; exact h))⟩
theorem own_set {w : World} {base : Nat} {e : TypeId} {size : Nat} {v : Value} {n : Nat} {xs : List Value} {r : Nat} {x y : Value} {t : TypeId} (h : w.ownsRow base e size v n xs) (hr : w.heap[r]? = some (.cells #[x, y] t (0, 0))) (hne : e ≠ t) (o : Nat) (z : Value) : (w.setCell ⟨r, o, none⟩ z).ownsRow base e size v n xs :=
  own_out h (Out.setCell (S := fun k => k = r) w ⟨r, o, none⟩ z rfl) (fun k cur hk e' => by subst e'; rw [hr] at hk; cases hk; exact hne rfl)
theorem own0 {w : World} {base : Nat} {e : TypeId} {size : Nat} {v : Value} {n : Nat} {xs : List Value} (h : w.ownsRow base e size v n xs) : w.ownsRow 0 e size v n xs := by
  refine ⟨h.1, ?_⟩
  rcases h.2 with h2 | ⟨g, cap, cur, a, b, c⟩
  · exact .inl h2
  · exact .inr ⟨g, cap, cur, a, Nat.zero_le _, c⟩
theorem own_lat {w w' : World} {base : Nat} {e : TypeId} {size : Nat} {v : Value} {n : Nat} {xs : List Value} (h : w.ownsRow base e size v n xs) (hb : Below w.heap.size w w') : w'.ownsRow base e size v n xs :=
  own_out h (Out.of (S := fun _ => False) hb) (fun _ _ _ => id)
theorem range_lat {w w' : World} {g o : Nat} {cs : List Value} (h : w.rangeAt g o cs) (hb : Below w.heap.size w w') (hg : g < w.heap.size) : w'.rangeAt g o cs := fun j v hv => by
  rw [← h j v hv]; exact World.cell?_of_block (hb.block g hg)
set_option maxRecDepth 100000 in
set_option maxHeartbeats 1000000 in
theorem rwrite_bad {w : World} {r N : Nat} {L : List Sec} {B : List (Int × Sec)} (h : IsR w r N L B) (i : Int) (s : Sec) (hi : i < 0 ∨ (N : Int) ≤ i) :
    Calls Try.prog 24 #[pD r, .int .i64 i, secV s] w fun e w' => e = .returned (.int .i64 2) ∧ Below w.heap.size w w' := by
  unfold secV
  have hb1 : Below w.heap.size w (w.alloc (.cells (s.map by8).toArray 61)) := (Below.refl _ _).alloc (Nat.le_refl _) _
  obtain ⟨al, capl, ab, capb, hr, _, _⟩ := (h.later hb1).row
  obtain ⟨c0, _, _, _⟩ := two_cells hr
  clear hr
  by_cases h0 : i < 0
  · go_enter Try.func24, Try.ntmps24
    go_wp2
    go_ret
    exact ⟨rfl, hb1⟩
  · have h1 : (N : Int) ≤ i := by omega
    go_enter Try.func24, Try.ntmps24
    go_wp2
    go_ret
    exact ⟨rfl, hb1⟩
set_option maxRecDepth 100000 in
set_option maxHeartbeats 4000000 in
theorem rwrite_c {w : World} {r N : Nat} {L : List Sec} {B : List (Int × Sec)} (h : IsR w r N L B) (i : Int) (s : Sec) (hs : IsSec s) (h0 : 0 ≤ i) (h1 : i < N) :
    Calls Try.prog 24 #[pD r, .int .i64 i, secV s] w fun e w' => e = .returned (.int .i64 0) ∧ IsR w' r N L (ins i s B) ∧ Out (fun k => k = r) w w' := by
  unfold secV
  have hb1 : Below w.heap.size w (w.alloc (.cells (s.map by8).toArray 61)) := (Below.refl _ _).alloc (Nat.le_refl _) _
  have HX : Hid ((w.alloc (.cells (s.map by8).toArray 61)).heap[w.heap.size]? = some (.cells (s.map by8).toArray 61)) := heap_alloc_new w _
  have HXL : Hid (w.heap.size < (w.alloc (.cells (s.map by8).toArray 61)).heap.size) := by show _ < _; simp
  have hIR := h.later hb1
  obtain ⟨al, capl, ab, capb, hr, hol, hob⟩ := hIR.row
  obtain ⟨c0, c1, f0, f1⟩ := two_cells hr
  have hfew := h.few
  have hN8 : N ≤ 8 := h.2.2.2.2.2.2
  have HBS := hid h.2.2.2.2.1
  have HP := hid h.2.2.2.1
  have HR := hid hr
  have HOL := hid hol
  have HOB := hid hob
  have H := hid h
  have HB1 := hid hb1
  have hrl : r < (w.alloc (.cells (s.map by8).toArray 61)).heap.size := lt_blk hr
  obtain ⟨iL, hi, hz0, hz1, hz2⟩ := infoL
  have hzc : (Value.agg (lcells (0, zsec)).toArray).cells.size = 33 := by rfl
  clear h hIR hr hol hob hb1
  go_enter Try.func24, Try.ntmps24
  go_wp2
  generalize (w.alloc (.cells (s.map by8).toArray 61)) = W at *
  go_loopw [7, 8, 9] (fun v pl k wr => ∃ m : Nat, m ≤ B.length ∧ k = .int .i64 m ∧ pl = .bool (insTo i s (B.take m)).2 ∧ wr.ownsRow W.heap.size 96 33 v (insTo i s (B.take m)).1.length ((insTo i s (B.take m)).1.flatMap lcells) ∧ Below W.heap.size W wr) (fun _ _ k _ => (B.length - intOf k).toNat)
  case atStart => exact ⟨0, by omega, rfl, rfl, World.ownsRow_nil _ _ _ _, Below.refl _ _⟩
  case round =>
    obtain ⟨m, hm, rfl, rfl, hown, hB⟩ := hrel
    have hc1 : wr.cell? ⟨r, 1, none⟩ = some (.slice ab B.length capb) := by rw [← c1]; exact World.cell?_of_block (hB.block r hrl)
    have hx : wr.heap[w.heap.size]? = some (.cells (s.map by8).toArray 61) := by rw [hB.block _ HXL.out]; exact HX.out
    have hsz := hB.size
    have HIL := hid (insTo_len i s m (B.take m) (by rw [List.length_take]; omega))
    by_cases hml : m < B.length
    · obtain ⟨p, hp⟩ : ∃ p, B[m]? = some p := ⟨B[m], List.getElem?_eq_getElem hml⟩
      have hpB : p ∈ B := List.mem_of_getElem? hp
      obtain ⟨g, cap', eg, hcap, hgl, _, hrg⟩ := row_at HOB.out (fun x hx => lcells_len x (HBS.out x hx).1.1) (by omega)
      cases eg
      have hrp : wr.rangeAt g (m * 33) (lcells p) := range_lat (hrg m p hp) hB hgl
      have HRW := hid (hrg m p hp)
      have hpc : wr.cell? ⟨g, m * 33, none⟩ = some (.int .i64 p.1) := hrp 0 _ rfl
      have hIS : insTo i s (B.take (m + 1)) = insStep i s (insTo i s (B.take m)) p := by
        rw [← insTo_snoc]; congr 1
        rw [List.take_succ_eq_append_getElem hml]
        rw [List.getElem?_eq_getElem hml] at hp
        cases hp; rfl
      have HIS := hid hIS
      have hp32 : p.2.length = 32 := (HBS.out p hpB).1.1
      obtain ⟨acc, pl, eacc⟩ : ∃ acc pl, insTo i s (B.take m) = (acc, pl) := ⟨_, _, rfl⟩
      rw [eacc] at hown HIS HIL ⊢
      simp only at hown HIL ⊢
      have hal : acc.length ≤ 9 := by
        have := HIL.out
        split at this <;> omega
      obtain ⟨pi, ps⟩ := p
      simp only at hpc hp32
      have HHB := hid hB
      have HRP := hid hrp
      clear hIS eacc hrg hpB hp HIL hB hrp
      obtain ⟨av, capv, eav⟩ := own_shape hown
      rw [eav] at hown ⊢
      clear eav
      cases pl with
      | true =>
        by_cases h2 : pi = i
        · have h2b : (pi == i) = true := by simp [h2]
          have H2 := hid h2
          clear h2
          go_wp2
          have eI : insStep i s (acc, true) (pi, ps) = (acc, true) := by simp [insStep, H2.out]
          go_roundw
          case rel =>
            refine ⟨m + 1, by omega, by go_num, by rw [HIS.out, eI], ?_, HHB.out⟩
            rw [HIS.out, eI]
            exact hown
          case measure => simp [intOf]; omega
        · have h2b : (pi == i) = false := by simp [h2]
          go_wp2_with (first
            | (refine wpList_load_mid rfl _ _ rfl g (m * 33) rfl (lcells (pi, ps)) _ HRP.out Try.underlying96 rfl (by rw [sizeL]; simp [lcells, hp32]) ?_)
            | (refine wpList_slice1 _ rfl _ _ _ 33 _ rfl Try.underlying92 Try.sizeOf96 zeroL (by omega) (by omega) _ rfl (by simp [lcells, hs.1, hp32]) ?_)
            | (at_builtin; refine wpList_append_own _ rfl _ _ 92 rfl W.heap.size 96 iL _ 33 40 Try.underlying92 hi hz0 hz1 hz2 hzc (by omega) _ _ _ rfl (hown.alloc _) ⟨wr.heap.size, 0, none⟩ 1 1 (lcells (pi, ps)) rfl (by rw [lcells_len _ hp32]) (news_of wr _ _) (lcells_one _) (by unfold maxLen; omega) (by omega) (by simp; omega) ?_; intro v6 w6 hown6 hgrow6 hnil6; (have HB6 : Hid (Below W.heap.size W w6) := (HHB.out.alloc hsz _).grown hgrow6 (by simp; omega) (fun k hk => (hown.lt k hk).1))))
          have eI : insStep i s (acc, true) (pi, ps) = (acc ++ [(pi, ps)], true) := by simp [insStep, h2]
          go_roundw
          case rel =>
            refine ⟨m + 1, by omega, by go_num, by rw [HIS.out, eI], ?_, HB6.out⟩
            rw [HIS.out, eI]
            simpa using hown6
          case measure => simp [intOf]; omega
      | false =>
        by_cases h3 : i ≤ pi
        · by_cases h2 : pi = i
          · have h2b : (pi == i) = true := by simp [h2]
            have H2 := hid h2
            clear h2
            go_wp2_with (first
              | (refine wpList_loadS _ rfl _ _ rfl sizeR Try.underlying61 _ rfl s hs.1 _ _ hx ?_)
              | (refine wpList_buildL _ rfl _ _ rfl i rfl s rfl hs.1 ?_)
              | (refine wpList_slice1 _ rfl _ _ _ 33 _ rfl Try.underlying92 Try.sizeOf96 zeroL (by omega) (by omega) _ rfl (by simp [lcells, hs.1, hp32]) ?_)
              | (at_builtin; refine wpList_append_own _ rfl _ _ 92 rfl W.heap.size 96 iL _ 33 40 Try.underlying92 hi hz0 hz1 hz2 hzc (by omega) _ _ _ rfl (hown.alloc _) ⟨wr.heap.size, 0, none⟩ 1 1 (lcells (i, s)) rfl (by rw [lcells_len _ hs.1]) (news_of wr _ _) (lcells_one _) (by unfold maxLen; omega) (by omega) (by simp; omega) ?_; intro v5 w5 hown5 hgrow5 hnil5; (have HB5 : Hid (Below W.heap.size W w5) := (HHB.out.alloc hsz _).grown hgrow5 (by simp; omega) (fun k hk => (hown.lt k hk).1)); (have hsz5 : W.heap.size ≤ w5.heap.size := HB5.out.size); (have hc5 : w5.cell? ⟨r, 1, none⟩ = some (.slice (some ⟨g, 0, none⟩) B.length capb) := by rw [← c1]; exact World.cell?_of_block (HB5.out.block r hrl)); (have hrp5 := range_lat HRW.out HB5.out hgl); (have hpc5 : w5.cell? ⟨g, m * 33, none⟩ = some (.int .i64 pi) := hrp5 0 _ rfl); (have HRP5 := hid hrp5); clear hrp5; (obtain ⟨av5, capv5, ev5⟩ := own_shape hown5); rw [ev5]; rw [ev5] at hown5; clear ev5))
            have eI : insStep i s (acc, false) (pi, ps) = (acc ++ [(i, s)], true) := by simp [insStep, H2.out]
            go_roundw
            case rel =>
              refine ⟨m + 1, by omega, by go_num, by rw [HIS.out, eI], ?_, HB5.out⟩
              rw [HIS.out, eI]
              simpa using hown5
            case measure => simp [intOf]; omega
          · have h2b : (pi == i) = false := by simp [h2]
            go_wp2_with (first
              | (refine wpList_loadS _ rfl _ _ rfl sizeR Try.underlying61 _ rfl s hs.1 _ _ hx ?_)
              | (refine wpList_buildL _ rfl _ _ rfl i rfl s rfl hs.1 ?_)
              | (refine wpList_slice1 _ rfl _ _ _ 33 _ rfl Try.underlying92 Try.sizeOf96 zeroL (by omega) (by omega) _ rfl (by simp [lcells, hs.1, hp32]) ?_)
              | (at_builtin; refine wpList_append_own _ rfl _ _ 92 rfl W.heap.size 96 iL _ 33 40 Try.underlying92 hi hz0 hz1 hz2 hzc (by omega) _ _ _ rfl (hown.alloc _) ⟨wr.heap.size, 0, none⟩ 1 1 (lcells (i, s)) rfl (by rw [lcells_len _ hs.1]) (news_of wr _ _) (lcells_one _) (by unfold maxLen; omega) (by omega) (by simp; omega) ?_; intro v5 w5 hown5 hgrow5 hnil5; (have HB5 : Hid (Below W.heap.size W w5) := (HHB.out.alloc hsz _).grown hgrow5 (by simp; omega) (fun k hk => (hown.lt k hk).1)); (have hsz5 : W.heap.size ≤ w5.heap.size := HB5.out.size); (have hc5 : w5.cell? ⟨r, 1, none⟩ = some (.slice (some ⟨g, 0, none⟩) B.length capb) := by rw [← c1]; exact World.cell?_of_block (HB5.out.block r hrl)); (have hrp5 := range_lat HRW.out HB5.out hgl); (have hpc5 : w5.cell? ⟨g, m * 33, none⟩ = some (.int .i64 pi) := hrp5 0 _ rfl); (have HRP5 := hid hrp5); clear hrp5; (obtain ⟨av5, capv5, ev5⟩ := own_shape hown5); rw [ev5]; rw [ev5] at hown5; clear ev5)
              | (refine wpList_load_mid rfl _ _ rfl g (m * 33) rfl (lcells (pi, ps)) _ HRP5.out Try.underlying96 rfl (by rw [sizeL]; simp [lcells, hp32]) ?_)
              | (refine wpList_slice1 _ rfl _ _ _ 33 _ rfl Try.underlying92 Try.sizeOf96 zeroL (by omega) (by omega) _ rfl (by simp [lcells, hs.1, hp32]) ?_)
              | (at_builtin; refine wpList_append_own _ rfl _ _ 92 rfl W.heap.size 96 iL _ 33 40 Try.underlying92 hi hz0 hz1 hz2 hzc (by omega) _ _ _ rfl (hown5.alloc _) ⟨w5.heap.size, 0, none⟩ 1 1 (lcells (pi, ps)) rfl (by rw [lcells_len _ hp32]) (news_of w5 _ _) (lcells_one _) (by unfold maxLen; omega) (by omega) (by simp; omega) ?_; intro v6 w6 hown6 hgrow6 hnil6; (have HB6 : Hid (Below W.heap.size W w6) := (HB5.out.alloc hsz5 _).grown hgrow6 (by simp; omega) (fun k hk => (hown5.lt k hk).1))))
            have eI : insStep i s (acc, false) (pi, ps) = (acc ++ [(i, s)] ++ [(pi, ps)], true) := by simp [insStep, h2, h3]
            go_roundw
            case rel =>
              refine ⟨m + 1, by omega, by go_num, by rw [HIS.out, eI], ?_, HB6.out⟩
              rw [HIS.out, eI]
              simpa using hown6
            case measure => simp [intOf]; omega
        · have h2 : ¬ pi = i := by omega
          have h2b : (pi == i) = false := by simp [h2]
          go_wp2_with (first
            | (refine wpList_load_mid rfl _ _ rfl g (m * 33) rfl (lcells (pi, ps)) _ HRP.out Try.underlying96 rfl (by rw [sizeL]; simp [lcells, hp32]) ?_)
            | (refine wpList_slice1 _ rfl _ _ _ 33 _ rfl Try.underlying92 Try.sizeOf96 zeroL (by omega) (by omega) _ rfl (by simp [lcells, hs.1, hp32]) ?_)
            | (at_builtin; refine wpList_append_own _ rfl _ _ 92 rfl W.heap.size 96 iL _ 33 40 Try.underlying92 hi hz0 hz1 hz2 hzc (by omega) _ _ _ rfl (hown.alloc _) ⟨wr.heap.size, 0, none⟩ 1 1 (lcells (pi, ps)) rfl (by rw [lcells_len _ hp32]) (news_of wr _ _) (lcells_one _) (by unfold maxLen; omega) (by omega) (by simp; omega) ?_; intro v6 w6 hown6 hgrow6 hnil6; (have HB6 : Hid (Below W.heap.size W w6) := (HHB.out.alloc hsz _).grown hgrow6 (by simp; omega) (fun k hk => (hown.lt k hk).1))))
          have eI : insStep i s (acc, false) (pi, ps) = (acc ++ [(pi, ps)], false) := by simp [insStep, h2, h3]
          go_roundw
          case rel =>
            refine ⟨m + 1, by omega, by go_num, by rw [HIS.out, eI], ?_, HB6.out⟩
            rw [HIS.out, eI]
            simpa using hown6
          case measure => simp [intOf]; omega
    · obtain rfl : m = B.length := by omega
      have eT : B.take B.length = B := List.take_of_length_le (Nat.le_refl _)
      rw [eT] at hown HIL ⊢
      have HINS : Hid (ins i s B = if (insTo i s B).2 then (insTo i s B).1 else (insTo i s B).1 ++ [(i, s)]) := rfl
      obtain ⟨acc, pl, eacc⟩ : ∃ acc pl, insTo i s B = (acc, pl) := ⟨_, _, rfl⟩
      rw [eacc] at hown HINS HIL ⊢
      simp only at hown HINS HIL ⊢
      have hal : acc.length ≤ 9 := by
        have := HIL.out
        split at this <;> omega
      have hfr : wr.frozen? ⟨r, 1, none⟩ = false := by rw [← f1]; exact World.frozen?_of_block (hB.block r hrl)
      have FIN : Hid (∀ (w5 : World) (v : Value) (X : List (Int × Sec)), ins i s B = X → Below W.heap.size W w5 → w5.ownsRow W.heap.size 96 33 v X.length (X.flatMap lcells) →
          IsR (w5.setCell ⟨r, 1, none⟩ v) r N L (ins i s B) ∧ Out (fun k => k = r) w (w5.setCell ⟨r, 1, none⟩ v)) := by
        intro w5 v X eX hb5 ho5
        have hr5 : w5.heap[r]? = some (.cells #[.slice al N capl, .slice ab B.length capb] 94 (0, 0)) := by rw [hb5.block r hrl]; exact HR.out
        obtain ⟨_, q2, q3, q4, q5, q6, q7⟩ := H.out
        refine ⟨⟨⟨_, _, set_second hr5, own_set (own_lat HOL.out hb5) hr5 (by decide) _ _, ?_⟩, q2, q3, ins_rising i s B q4, fun q hq => ?_, q6, q7⟩, ?_⟩
        · rw [eX]; exact own_set (own0 ho5) hr5 (by decide) _ _
        · rcases (ins_mem i s B q4 q).1 hq with rfl | ⟨h3, _⟩
          · exact ⟨hs, h0, h1⟩
          · exact q5 q h3
        · exact (Out.of HB1.out).trans ((Out.of hb5).trans (Out.setCell w5 _ _ rfl))
      have HHB := hid hB
      obtain ⟨av, capv, eav⟩ := own_shape hown
      rw [eav] at hown ⊢
      clear hB eacc eT eav
      cases pl with
      | true =>
        go_wp2
        go_ret
        obtain ⟨t1, t2⟩ := FIN.out wr _ acc HINS.out HHB.out hown
        exact ⟨rfl, t1, t2⟩
      | false =>
        go_wp2_with (first
          | (refine wpList_loadS _ rfl _ _ rfl sizeR Try.underlying61 _ rfl s hs.1 _ _ hx ?_)
          | (refine wpList_buildL _ rfl _ _ rfl i rfl s rfl hs.1 ?_)
          | (refine wpList_slice1 _ rfl _ _ _ 33 _ rfl Try.underlying92 Try.sizeOf96 zeroL (by omega) (by omega) _ rfl (by simp [lcells, hs.1]) ?_)
          | (at_builtin; refine wpList_append_own _ rfl _ _ 92 rfl W.heap.size 96 iL _ 33 40 Try.underlying92 hi hz0 hz1 hz2 hzc (by omega) _ _ _ rfl (hown.alloc _) ⟨wr.heap.size, 0, none⟩ 1 1 (lcells (i, s)) rfl (by rw [lcells_len _ hs.1]) (news_of wr _ _) (lcells_one _) (by unfold maxLen; omega) (by omega) (by simp; omega) ?_; intro v5 w5 hown5 hgrow5 hnil5; (have HB5 : Hid (Below W.heap.size W w5) := (HHB.out.alloc hsz _).grown hgrow5 (by simp; omega) (fun k hk => (hown.lt k hk).1)); (have hr5 : w5.heap[r]? = some (.cells #[.slice al N capl, .slice ab B.length capb] 94 (0, 0)) := by rw [HB5.out.block r hrl]; exact HR.out); (obtain ⟨d0, d1, e0, e1⟩ := two_cells hr5); (obtain ⟨av5, capv5, ev5⟩ := own_shape hown5); rw [ev5]; rw [ev5] at hown5; clear ev5))
        go_ret
        obtain ⟨t1, t2⟩ := FIN.out w5 _ (acc ++ [(i, s)]) HINS.out HB5.out (by simpa using hown5)
        exact ⟨rfl, t1, t2⟩
end Go.Proofs.Yteimegacnmakaab
