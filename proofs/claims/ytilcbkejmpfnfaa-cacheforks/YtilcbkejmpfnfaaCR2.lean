/-
  The document's Dear, without, Has, Dirty of caches.
-/
import Derived.Test.YtilcbkejmpfnfaaCRf
namespace Go.Proofs.Ytilcbkejmpfnfaa
open Go.RowKit Go.ChangeShapes Go.WideShapes Go.ChangeAt Go.Maps Go.Shelf
set_option linter.unusedVariables false
set_option linter.unusedSimpArgs false
set_option maxRecDepth 100000
theorem dear_is : ∀ {H : List (Int × Int)} {x : Int} {i : Nat} (h : i < H.length), H[i].1 = x → (∀ j, j < i → (H.getD j (0, 0)).1 ≠ x) → dearL H x = H[i].2
  | [], x, i, h, _, _ => by simp at h
  | p :: H, x, 0, h, e, _ => by
    have e' : p.1 = x := e
    unfold dearL
    rw [List.find?_cons]
    simp [e']
  | p :: H, x, i + 1, h, e, hn => by
    have h0 := hn 0 (by omega)
    have h1 : (p.1 == x) = false := by simpa using h0
    unfold dearL
    rw [List.find?_cons, h1]
    exact dear_is (H := H) (by simpa using h) e (fun j hj => by have := hn (j + 1) (by omega); simpa using this)
theorem Rc.dear_is {r : Rc} {x : Int} {i : Nat} (h : i < r.H.length) (e : r.hf i = x) (hn : ∀ j, j < i → r.hf j ≠ x) : r.dear x = r.hn i := by
  rw [(Rc.hf_eq h).2]
  rw [(Rc.hf_eq h).1] at e
  exact Go.Proofs.Ytilcbkejmpfnfaa.dear_is h e hn
theorem Rc.dear_no {r : Rc} {x : Int} (hn : ∀ j, j < r.H.length → r.hf j ≠ x) : r.dear x = 0 := dearL_none (fun n hm => by
  obtain ⟨j, hj, e⟩ := List.getElem_of_mem hm
  exact hn j hj (by rw [(Rc.hf_eq hj).1, e]))
set_option maxHeartbeats 2000000 in
theorem rcdear_c {w : World} {g : Nat} {vl vh : Value} {r : Rc} (h : IsRc w g vl vh r) (hm : r.H.length ≤ 1000) (f : Int) :
    Calls Try.prog 29 #[pA g, .int .u32 f] w fun e w' => e = .returned (.int .i64 (r.dear f)) ∧ w' = w := by
  obtain ⟨c0, c1, c2, cf, cl⟩ := h.cells
  have HR := hid h.rowH
  obtain ⟨a, cap, rfl, hcap⟩ := own_shapeC h.2.2
  have YES : Hid (∀ i, i < r.H.length → r.hf i = f → (∀ j, j < i → r.hf j ≠ f) → r.dear f = r.hn i) := hid (fun i hi e hn => Rc.dear_is hi e hn)
  have NO : Hid ((∀ j, j < r.H.length → r.hf j ≠ f) → r.dear f = 0) := hid Rc.dear_no
  generalize r.dear f = res at *
  clear h cf
  generalize hn : r.H.length = n at *
  clear hn
  go_enter Try.func29, Try.ntmps29
  go_wp2
  go_loopg [5] n (fun gk v wr => ∃ m : Nat, m + gk = n ∧ v = .int .i64 m ∧ Hid (∀ j, j < m → r.hf j ≠ f) ∧ wr = w)
  case atStart => exact ⟨0, by omega, rfl, hid (fun i hi => by omega), rfl⟩
  case round =>
    obtain ⟨m, hm2, rfl, HE, rfl⟩ := hrel
    by_cases hlt : m < n
    · have hltI : (m : Int) < n := by omega
      obtain ⟨gl, o, cap', e, hc⟩ := HR.out (by omega)
      cases e
      obtain ⟨k0, k1⟩ := hc m hlt
      by_cases q : r.hf m = f
      · have R := hid (YES.out m hlt q HE.out)
        have q2 : (r.hf m == f) = true := by simp [q]
        clear hc HR q
        generalize r.hf m = fm at *
        generalize r.hn m = nm at *
        go_wp2
        go_ret
        exact ⟨ret_int R.out.symm, rfl⟩
      · have q2 : (r.hf m == f) = false := by simp [q]
        have HE2 : Hid (∀ j, j < m + 1 → r.hf j ≠ f) := hid (fun j hj => by
          by_cases e : j = m
          · rw [e]; exact q
          · exact HE.out j (by omega))
        clear hc k1
        generalize r.hf m = fm at *
        go_wp2
        go_roundg (gk - 1)
        case measure => omega
        case rel => exact ⟨m + 1, by omega, by go_num, HE2, rfl⟩
    · have em : m = n := by omega
      subst em
      have hge : ¬ (m : Int) < m := by omega
      have R := hid (NO.out HE.out)
      go_wp2
      go_ret
      exact ⟨ret_int R.out.symm, rfl⟩
theorem take_snocC {α : Type} (L : List α) {m : Nat} (h : m < L.length) : L.take (m + 1) = L.take m ++ [L[m]] := by rw [List.take_add_one, List.getElem?_eq_getElem h]; rfl
theorem erase_step {α : Type} (L : List α) {m i : Nat} (h : m < L.length) (hi : i < L.length) : (L.take (m + 1)).eraseIdx i = if m = i then (L.take m).eraseIdx i else (L.take m).eraseIdx i ++ [L[m]] := by
  have hl : (L.take m).length = m := by simp; omega
  rw [take_snocC L h]
  by_cases q : m = i
  · have e1 : (L.take m).eraseIdx i = L.take m := List.eraseIdx_of_length_le (by omega)
    have e2 : i - (L.take m).length = 0 := by omega
    rw [if_pos q, e1, List.eraseIdx_append_of_length_le (by omega), e2]
    simp
  · rw [if_neg q]
    by_cases q2 : i < m
    · rw [List.eraseIdx_append_of_lt_length (by omega)]
    · rw [List.eraseIdx_of_length_le (by simp; omega), List.eraseIdx_of_length_le (by omega)]
set_option maxHeartbeats 2000000 in
theorem rcwithout_c {w : World} {g : Nat} {vl vh : Value} {r : Rc} (h : IsRc w g vl vh r) (hm : r.L.length ≤ 1000) {i : Nat} (hi : i < r.L.length) :
    Calls Try.prog 62 #[pA g, .int .i64 i] w fun e w' => ∃ v, e = .returned v ∧ OwI w' w.heap.size v (r.L.eraseIdx i) ∧ Below w.heap.size w w' := by
  have H := hid h
  have FIN : Hid ((r.L.take r.L.length).eraseIdx i = r.L.eraseIdx i) := hid (by rw [List.take_length])
  have STP : Hid (∀ m, m < r.L.length → (r.L.take (m + 1)).eraseIdx i = if m = i then (r.L.take m).eraseIdx i else (r.L.take m).eraseIdx i ++ [(r.fid m, r.dty m)]) := hid (fun m hm => by rw [erase_step r.L hm hi, Rc.fid_eq hm, Rc.dty_eq hm])
  have LE : Hid (∀ m, ((r.L.take m).eraseIdx i).length ≤ 1000) := hid (fun m => by
    have h1 := List.length_eraseIdx_le (r.L.take m) i
    have h2 := List.length_take_le' m r.L
    omega)
  obtain ⟨a, cap, rfl, hcap⟩ := own_shapeC h.2.1
  obtain ⟨i0, hi0, hz0, hz1, hz2⟩ := info_item
  clear h
  generalize r.L.eraseIdx i = fin at *
  obtain ⟨n, hn⟩ : ∃ n, n = r.L.length := ⟨_, rfl⟩
  rw [← hn] at hm hi FIN STP hcap
  have HN := hid hn
  clear hn
  have L1 : ∀ W, Below w.heap.size w W → W.cell? ⟨g, 1, none⟩ = some (.slice a n cap) := fun W hb => by have := (H.out.later hb).cells.2.1; rw [HN.out]; exact this
  go_enter Try.func62, Try.ntmps62
  go_wp2
  go_loopg [5, 6] n (fun gk v j wr => ∃ m : Nat, m + gk = n ∧ j = .int .i64 m ∧ Hid (OwI wr w.heap.size v ((r.L.take m).eraseIdx i)) ∧ Hid (Below w.heap.size w wr))
  case atStart => exact ⟨0, by omega, rfl, hid (World.ownsRow_nil _ _ _ _), hid (Below.refl _ _)⟩
  case round =>
    obtain ⟨m, hm2, rfl, HO, HB⟩ := hrel
    obtain ⟨va, vc, rfl, _⟩ := own_shapeC HO.out
    have k9 := L1 wr HB.out
    by_cases hlt : m < n
    · have hltI : (m : Int) < n := by omega
      by_cases q : m = i
      · have q2 : ((m : Int) != (i : Int)) = false := by simp [q]
        have q3 : (m : Int) = (i : Int) := by omega
        have HO2 : Hid (OwI wr w.heap.size (.slice va ((r.L.take m).eraseIdx i).length vc) ((r.L.take (m + 1)).eraseIdx i)) := hid (by rw [STP.out m hlt, if_pos q]; exact HO.out)
        clear q HO
        go_wp2
        go_roundg (gk - 1)
        case measure => omega
        case rel => exact ⟨m + 1, by omega, by go_num, HO2, HB⟩
      · have q2 : ((m : Int) != (i : Int)) = true := by simp; omega
        have q3 : (m : Int) ≠ (i : Int) := by omega
        have HS : Hid ((r.L.take (m + 1)).eraseIdx i = (r.L.take m).eraseIdx i ++ [(r.fid m, r.dty m)]) := hid (by rw [STP.out m hlt, if_neg q])
        obtain ⟨gl, o, cap', e, hc⟩ := (H.out.later HB.out).rowL (by rw [← HN.out]; omega)
        rw [← HN.out] at e
        cases e
        obtain ⟨k0, k1⟩ := hc m (by rw [← HN.out]; exact hlt)
        have hlen := LE.out m
        clear hc q
        generalize r.fid m = fm at *
        generalize r.dty m = dm at *
        have b1 : Below wr.heap.size wr (wr.alloc (.cells #[.int .u32 fm, .bool dm] 78)) := (Below.refl _ _).alloc (Nat.le_refl _) _
        have O1 := hid (own_latC HO.out b1)
        have B1 := hid (HB.out.trans (b1.mono HB.out.size))
        have N1 := hid (heap_alloc_new wr (.cells #[.int .u32 fm, .bool dm] 78))
        clear b1
        go_wp2_with (at_builtin; refine wpList_append_own _ rfl _ _ 72 rfl w.heap.size 78 i0 (.agg #[.int .u32 0, .bool false]) 2 8 Try.underlying72 hi0 hz0 hz1 hz2 (by rfl) (by decide) _ _ _ rfl O1.out ⟨wr.heap.size, 0, none⟩ 1 1 (itC (fm, dm)) rfl rfl (two_news N1.out) (itC_one (fm, dm)) (by unfold maxLen; omega) (by omega) B1.out.size ?_; intro v9 w9 hown9 hgrow9 hnil9)
        have HB9 := hid (below_grownC B1.out O1.out (Nat.le_refl _) B1.out.size hgrow9)
        have HO9 : Hid (OwI w9 w.heap.size v9 ((r.L.take (m + 1)).eraseIdx i)) := hid (by
          unfold OwI
          rw [HS.out, List.flatMap_append, List.length_append]
          simpa using hown9)
        obtain ⟨a9, c9, rfl, _⟩ := own_shapeC hown9
        clear hown9 hgrow9 hnil9
        go_roundg (gk - 1)
        case measure => omega
        case rel => exact ⟨m + 1, by omega, by go_num, HO9, HB9⟩
    · have em : m = n := by omega
      subst em
      have hge : ¬ (m : Int) < m := by omega
      go_wp2
      go_ret
      exact ⟨_, rfl, by have := HO.out; rw [FIN.out] at this; rw [← FIN.out]; rw [FIN.out]; exact this, HB.out⟩
set_option maxHeartbeats 1000000 in
theorem rchas_c {w : World} {g : Nat} {vl vh : Value} {r : Rc} (h : IsRc w g vl vh r) (hm : r.L.length ≤ 1000) (f : Int) :
    Calls Try.prog 27 #[pA g, .int .u32 f] w fun e w' => e = .returned (.bool (decide (0 ≤ r.at f))) ∧ w' = w := by
  have AC := hid (rcat_c h hm f)
  clear h
  go_enter Try.func27, Try.ntmps27
  go_wp2_with (go_at_call 52; refine AC.out.mono ?_; rintro _ w1 ⟨rfl, h1⟩; rw [h1]; clear h1)
  go_ret
  exact ⟨rfl, rfl⟩
end Go.Proofs.Ytilcbkejmpfnfaa
