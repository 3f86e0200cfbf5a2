/-
  readLoad, slices.Clone of bytes, partsOf of the package journal: one contract a function.
-/
import Derived.Test.YtllohapbbmnipadJRead
import Derived.OwnWalk
import Derived.Lib.SliceRun
namespace Go.Proofs.Ytllohapbbmnipad
open Go.RowKit Go.ChangeShapes Go.WideShapes Go.ChangeAt Go.Maps
set_option linter.unusedVariables false
set_option linter.unusedSimpArgs false
def flatL (ss : List (List Int)) : List Int := (ss.map (List.drop 1)).flatten
theorem flatL_take {ss : List (List Int)} {k : Nat} (h : k < ss.length) : flatL (ss.take (k + 1)) = flatL (ss.take k) ++ (ss.getD k []).drop 1 := by
  unfold flatL; rw [List.take_succ_eq_append_getElem h, List.map_append, List.flatten_append]; simp [List.getD, h]
theorem flatL_len {ss : List (List Int)} (h : ∀ s ∈ ss, Jo.Sct s) : (flatL ss).length = 31 * ss.length := by
  induction ss with
  | nil => rfl
  | cons s ss ih =>
    have h1 := (h s (by simp)).1
    have h2 := ih fun u hu => h u (by simp [hu])
    unfold flatL at h2 ⊢
    simp only [List.map_cons, List.flatten_cons, List.length_append, List.length_drop, h1, h2, List.length_cons]
    omega
theorem flatL_bytes {ss : List (List Int)} (h : ∀ s ∈ ss, Jo.Sct s) : Jo.Bytes (flatL ss) := Jo.bytes_flat fun l hl => by
  obtain ⟨u, hu, rfl⟩ := List.mem_map.1 hl; exact Jo.bytes_drop (h u hu).2 _
set_option maxRecDepth 20000 in
set_option maxHeartbeats 2000000 in
theorem readLoad_c (a : Option Addr) (n cap len : Nat) (ss : List (List Int)) (w : World) (h : IsSS w a n ss) (hl : len ≤ 31 * n) (hn : n ≤ 5000) :
    Calls Try.prog 67 #[.slice a n cap, .int .i64 len] w fun e w' => ∃ la, e = .returned (.slice la len len) ∧ IsB w' la len (Jo.readL ss len) ∧ (la = none → len = 0) ∧ Below w.heap.size w w' := by
  have H := hid h
  have L1 := hid h.1
  have S3 := hid h.2.2.1
  obtain ⟨i0, hi, hz0, hz1, hz2⟩ := info_parts8
  clear h
  have zz := zlit
  go_enter Try.func67, Try.ntmps67
  go_wp2_with (at_make; refine wpList_make_own _ rfl _ _ 23 rfl w.heap.size 5 i0 _ 1 Try.underlying23 hi hz0 hz1 _ _ _ (31 * n) rfl rfl (by push_cast; omega) (by rw [hz2]; omega) (by unfold maxLen; omega) (Nat.le_refl _) ?_; intro w1 hown0 hgr0)
  have hB0 : Below w.heap.size w w1 := (Below.refl _ _).grown hgr0 (Nat.le_refl _) (fun k hk => by cases hk)
  go_loopw [5, 14] (fun v i wr => ∃ k : Nat, k ≤ n ∧ i = .int .i64 k ∧ wr.ownsRow w.heap.size 5 1 v (flatL (ss.take k)).length ((flatL (ss.take k)).map by8) ∧ Below w.heap.size w wr) (fun _ i _ => n - (intOf i).toNat)
  case atStart => exact ⟨0, Nat.zero_le _, rfl, by simpa [flatL] using hown0, hB0⟩
  case round =>
    obtain ⟨k, hk, rfl, hown, hB⟩ := hrel
    have hBz := hB.size
    have hfl := flatL_len (ss := ss.take k) (fun s hs => S3.out s (List.mem_of_mem_take hs))
    have hkl : (ss.take k).length = k := by rw [List.length_take, L1.out]; omega
    rw [hkl] at hfl
    by_cases hlt : k < n
    · obtain ⟨b, off, rfl, _⟩ := H.out.2.2.2 (by omega)
      obtain ⟨r1, s1⟩ := (H.out.later hB).at k hlt
      have HT := hid (flatL_take (ss := ss) (k := k) (by rw [L1.out]; exact hlt))
      have HO1 := hid hown
      have HB1 := hid hB
      have HF := hid hfl
      clear hown hB
      generalize ss.getD k [] = S at *
      have hi1 : (Try.prog.info? 90).map (·.size) = some (S.map by8).length := by rw [sizeS]; simp [s1.1]
      have hx1 : Bx (wr.alloc (.cells (S.map by8).toArray 90)) wr.heap.size 90 S := heap_alloc_new wr _
      have hIS : IsB (wr.alloc (.cells (S.map by8).toArray 90)) (some ⟨wr.heap.size, 1, none⟩) 31 (S.drop 1) := by
        have := bx_isB hx1 s1.2 1 31 (by rw [s1.1]; omega) (by decide)
        rwa [List.take_of_length_le (by simp [s1.1])] at this
      have hown1 : (wr.alloc (.cells (S.map by8).toArray 90)).ownsRow w.heap.size 5 1 u5 (flatL (ss.take k)).length ((flatL (ss.take k)).map by8) := HO1.out.alloc _
      have hB1 : Below w.heap.size w (wr.alloc (.cells (S.map by8).toArray 90)) := HB1.out.alloc hBz _
      have hz1' : w.heap.size ≤ (wr.alloc (.cells (S.map by8).toArray 90)).heap.size := hB1.size
      have hs32 := s1.1
      clear hx1
      go_wp2_with (first
        | (at_builtin; refine wpList_appendB _ rfl _ _ rfl w.heap.size _ _ _ rfl hown1 (some ⟨wr.heap.size, 1, none⟩) 31 31 (S.drop 1) rfl hIS (fun e => by cases e) (by omega) hz1' ?_; intro v6 w6 hown6 hgrow6)
        | (go_at_call 73; refine (inside_c wr.heap.size _).mono ?_; rintro e w' ⟨rfl, rfl⟩)
        | (refine wpList_load_mid rfl _ _ rfl b (off + k * 32) rfl (S.map by8) _ r1 Try.underlying90 rfl hi1 ?_)
        | (refine wpList_storeS _ rfl _ _ _ rfl sizeS _ rfl (by simp) S rfl hs32 _ (by simp; decide) ?_))
      have B6 : Below w.heap.size w w6 := below_grown hB1 hown1 (Nat.le_refl _) hz1' hgrow6
      obtain ⟨a6, c6, rfl⟩ := own_shape6 hown6
      go_roundw
      case rel => exact ⟨k + 1, by omega, by go_num, by rw [HT.out]; simpa [s1.1] using hown6, B6⟩
      case measure => simp [intOf]; omega
    · have ek : k = n := by omega
      have ht : ss.take k = ss := List.take_of_length_le (by rw [L1.out]; omega)
      rw [ht] at hown hfl
      obtain ⟨la, lc, rfl, hI, hlc, hnil, hin⟩ := own_isB hown (flatL_bytes S3.out)
      have hI2 := hid (hI.front len (by omega))
      have HB := hid hB
      have HN := hid hnil
      clear hown ht hnil hin hI hB
      have q0 : (len : Int) ≤ lc := by omega
      have q1 : (0 : Int) ≤ len := by omega
      have HL := hid hlc
      go_wp2
      go_ret
      exact ⟨la, rfl, hI2.out, fun e => by have h1 := HN.out e; have h2 := HL.out; omega, HB.out⟩
set_option maxRecDepth 20000 in
set_option maxHeartbeats 1000000 in
theorem clone8_c (a : Option Addr) (len cap : Nat) (zs : List Int) (w : World) (h : IsB w a len zs) (hnc : a = none → cap = 0) (hs : len ≤ 900000) :
    Calls Try.prog 81 #[.slice a len cap] w fun e w' => ∃ v, e = .returned v ∧ w'.ownsRow w.heap.size 5 1 v zs.length (zs.map by8) ∧ Below w.heap.size w w' := by
  cases a with
  | none =>
    have hl : len = 0 := by
      rcases Nat.eq_zero_or_pos len with h0 | h0
      · exact h0
      · obtain ⟨b, off, e, _⟩ := h.2.2.1 h0; cases e
    subst hl
    have hz : zs = [] := List.eq_nil_of_length_eq_zero h.1
    subst hz
    have hcc := hnc rfl
    subst hcc
    have hq : ∀ w, (binOp .eql 23 (.slice none 0 0) (.slice none 0 0)).run Try.prog w = .ok (.bool true) w := fun w => Lib.run_eql_slice_nil w _ _ _ _ _ _ _ Try.underlying23
    go_enter Try.func81, Try.ntmps81
    go_wp2
    go_ret
    exact ⟨_, rfl, World.ownsRow_nil w w.heap.size 5 1, Below.refl _ _⟩
  | some ad =>
    have hI1 := h.later ((Below.refl _ w).alloc (Nat.le_refl _) (.cells #[] 5))
    have hown1 : (w.alloc (.cells #[] 5)).ownsRow w.heap.size 5 1 (.slice (some ⟨w.heap.size, 0, none⟩) 0 0) 0 [] :=
      ⟨rfl, .inr ⟨w.heap.size, 0, #[], rfl, Nat.le_refl _, heap_alloc_new w _, Nat.le_refl _, by decide, rfl, rfl⟩⟩
    have hl := h.1
    have hq : ∀ w, (binOp .eql 23 (.slice (some ad) len cap) (.slice none 0 0)).run Try.prog w = .ok (.bool false) w := fun w => Lib.run_eql_slice_nil w _ _ _ _ _ _ _ Try.underlying23
    go_enter Try.func81, Try.ntmps81
    go_wp2_with (at_builtin; refine wpList_appendB _ rfl _ _ rfl w.heap.size _ _ _ rfl hown1 (some ad) len cap zs rfl hI1 (fun e => by cases e) (by omega) (by simp) ?_; intro v6 w6 hown6 hgrow6)
    have B6 : Below w.heap.size w w6 := below_grown ((Below.refl _ w).alloc (Nat.le_refl _) (.cells #[] 5)) hown1 (Nat.le_refl _) (by simp) hgrow6
    obtain ⟨a6, c6, rfl⟩ := own_shape6 hown6
    go_ret
    exact ⟨_, rfl, by simpa [hl] using hown6, B6⟩
/-- A row of parts that was made here. -/
def PG (B : Nat) (w : World) (v : Value) (gs : Jo.Gr) : Prop :=
  ∃ vals : List Value, w.ownsRow B 23 1 v gs.length vals ∧ ∀ i, i < gs.length → ∃ u, vals[i]? = some u ∧ w.ownsRow B 5 1 u (gs.getD i []).length ((gs.getD i []).map by8) ∧ Jo.Bytes (gs.getD i [])
theorem own_types {w : World} {B B' e e' sz sz' n n' : Nat} {u v : Value} {xs ys : List Value} (h : w.ownsRow B e sz u n xs) (h' : w.ownsRow B' e' sz' v n' ys) (he : e ≠ e') (q : Nat) (hu : u.ownBlock = some q) : v.ownBlock ≠ some q := by
  intro hv
  rcases h.2 with ⟨rfl, _⟩ | ⟨g, cap, cur, rfl, _, e1, _⟩
  · cases hu
  · rcases h'.2 with ⟨rfl, _⟩ | ⟨g', cap', cur', rfl, _, e2, _⟩
    · cases hv
    · cases hu; cases hv; rw [e1] at e2; cases e2; exact he rfl
theorem PG.nil (B : Nat) (w : World) : PG B w (.slice none 0 0) [] := ⟨[], World.ownsRow_nil w B 23 1, fun i hi => by simp at hi⟩
theorem PG.later {B : Nat} {w w' : World} {v : Value} {gs : Jo.Gr} (h : PG B w v gs) (hb : Below w.heap.size w w') : PG B w' v gs := by
  obtain ⟨vals, h1, h2⟩ := h
  refine ⟨vals, own_keep h1 (Out.of (S := fun _ => False) hb) (fun _ _ h => h), fun i hi => ?_⟩
  obtain ⟨u, e1, e2, e3⟩ := h2 i hi
  exact ⟨u, e1, own_keep e2 (Out.of (S := fun _ => False) hb) (fun _ _ h => h), e3⟩
theorem PG.snoc {B : Nat} {w w' : World} {v v' u : Value} {gs : Jo.Gr} {vals : List Value} {p : List Int} (hv : w.ownsRow B 23 1 v gs.length vals)
    (h2 : ∀ i, i < gs.length → ∃ u, vals[i]? = some u ∧ w.ownsRow B 5 1 u (gs.getD i []).length ((gs.getD i []).map by8) ∧ Jo.Bytes (gs.getD i []))
    (hu : w.ownsRow B 5 1 u p.length (p.map by8)) (hp : Jo.Bytes p) (hg : w.grownBy w' v.ownBlock) (hown : w'.ownsRow B 23 1 v' (gs.length + 1) (vals ++ [u])) : PG B w' v' (gs ++ [p]) := by
  have hl : vals.length = gs.length := by simpa using hv.1
  have far : ∀ {u : Value} {z : List Int}, w.ownsRow B 5 1 u z.length (z.map by8) → w'.ownsRow B 5 1 u z.length (z.map by8) := fun {u z} hz =>
    own_far hz fun k hk => hg.block k (hz.lt k hk).2 (fun e => own_types hz hv (by decide) k hk e.symm)
  refine ⟨vals ++ [u], by simpa using hown, fun i hi => ?_⟩
  by_cases hlt : i < gs.length
  · obtain ⟨x, e1, e2, e3⟩ := h2 i hlt
    have e : (gs ++ [p]).getD i [] = gs.getD i [] := by simp [List.getD, List.getElem?_append_left hlt]
    rw [e]
    exact ⟨x, by rw [List.getElem?_append_left (by omega)]; exact e1, far e2, e3⟩
  · have ei : i = gs.length := by simp at hi; omega
    subst ei
    have e : (gs ++ [p]).getD gs.length [] = p := by simp [List.getD]
    rw [e]
    exact ⟨u, by rw [← hl]; simp, far hu, hp⟩
theorem PG.isG0 {B : Nat} {w : World} {v : Value} {gs : Jo.Gr} (h : PG B w v gs) (hm : gs.length ≤ 100000) : ∃ a cap, v = .slice a gs.length cap ∧ IsG0 w a gs.length gs := by
  obtain ⟨vals, h1, h2⟩ := h
  rcases h1.2 with ⟨rfl, hn⟩ | ⟨g, cap, cur, rfl, hg, hbk, hnc, hcm, hcs, ht⟩
  · exact ⟨none, 0, by rw [hn], ⟨rfl, by unfold maxLen; omega, fun hp => by omega⟩⟩
  · refine ⟨some ⟨g, 0, none⟩, cap, rfl, ⟨rfl, by unfold maxLen; omega, fun hp => ⟨g, 0, rfl, fun i hi => ?_⟩⟩⟩
    obtain ⟨u, e1, e2, e3⟩ := h2 i hi
    obtain ⟨pa, pc, rfl, k1, k2, k3, k4⟩ := own_isB e2 e3
    refine ⟨pa, pc, ?_, k1, k2, k3⟩
    rw [cell_of_row w g _ cur 23 (0, 0) hbk]
    have e4 : (cur.toList.take (gs.length * 1))[i]? = vals[i]? := by rw [ht]
    rw [List.getElem?_take, if_pos (by omega)] at e4
    rw [Nat.zero_add, ← Array.getElem?_toList, e4, e1]
end Go.Proofs.Ytllohapbbmnipad
