/-
  What New, Size, Read and Loose of the document's disk return.
-/
import Derived.Test.YteimegacnmakaabRWrite
import Derived.Laws.ResultCell
namespace Go.Proofs.Yteimegacnmakaab
open Go.RowKit Go.ChangeShapes Go.WideShapes Go.ChangeAt Go.Maps
set_option linter.unusedVariables false
set_option linter.unusedSimpArgs false
theorem rep_flat (N : Nat) : (List.replicate N zsec).flatMap (fun s => s.map by8) = List.replicate (N * 32) (by8 0) := by
  induction N with
  | zero => rfl
  | succ n ih =>
    rw [List.replicate_succ, List.flatMap_cons, ih]
    show List.replicate 32 (by8 0) ++ List.replicate (n * 32) (by8 0) = _
    rw [List.replicate_append_replicate]
    congr 1
    omega
theorem made_rep (v : Value) (k n : Nat) (hk : 0 < k) : (madeCells (List.replicate k v).toArray n).toList = List.replicate n v := by
  apply List.ext_getElem?
  intro j
  unfold madeCells
  rw [List.getElem?_replicate]
  by_cases hj : j < n
  · have h32 : j % k < k := Nat.mod_lt _ hk
    rw [if_pos hj]
    simp [hj, h32]
  · rw [if_neg hj]
    simp
    omega
theorem made_sec (N : Nat) : (madeCells (secV zsec).cells (N * 32)).toList = (List.replicate N zsec).flatMap (fun s => s.map by8) := by
  rw [rep_flat, show (secV zsec).cells = (List.replicate 32 (by8 0)).toArray from rfl]
  exact made_rep _ 32 _ (by omega)
set_option maxRecDepth 100000 in
set_option maxHeartbeats 1000000 in
theorem rnew_c (N : Nat) (w : World) (h1 : 1 ≤ N) (h2 : N ≤ 8) : Calls Try.prog 32 #[.int .i64 N] w fun e w' => ∃ r, e = .returned (pD r) ∧ w.heap.size ≤ r ∧ IsR w' r N (List.replicate N zsec) [] ∧ Below w.heap.size w w' := by
  obtain ⟨iS, hi, hz0, hz1, hz2⟩ := infoS
  have g1 : ¬ (N : Int) < 1 := by omega
  have g2 : ¬ (2048 : Int) < (N : Int) := by omega
  go_enter Try.func32, Try.ntmps32
  go_wp2_with (at_make; refine wpList_make_full _ rfl _ _ 91 rfl w.heap.size 61 iS _ 32 Try.underlying91 hi hz0 hz1 _ _ _ _ N rfl rfl rfl rfl (by rw [hz2]; omega) (by unfold maxLen; omega) (Nat.le_refl _) ?_; intro w1 hown hgrow)
  go_ret
  rw [made_sec] at hown
  have hb1 : Below w.heap.size w w1 := (Below.refl _ _).grown hgrow (Nat.le_refl _) (fun k e => by cases e)
  refine ⟨w1.heap.size, rfl, hb1.size, ⟨⟨_, _, heap_alloc_new w1 _, own0 (hown.alloc _), World.ownsRow_nil _ _ _ _⟩, by simp, fun s hs => by rw [List.eq_of_mem_replicate hs]; exact zsec_is, List.Pairwise.nil, fun p hp => (by cases hp), h1, h2⟩, hb1.alloc hb1.size _⟩
set_option maxHeartbeats 400000 in
theorem rsize_c {w : World} {r N : Nat} {L : List Sec} {B : List (Int × Sec)} (h : IsR w r N L B) : Calls Try.prog 34 #[pD r] w fun e w' => e = .returned (.int .i64 N) ∧ w' = w := by
  obtain ⟨al, capl, ab, capb, hr, _, _⟩ := h.row
  obtain ⟨c0, _, _, _⟩ := two_cells hr
  clear hr h
  go_enter Try.func34, Try.ntmps34
  go_wp2
  go_ret
  exact ⟨rfl, rfl⟩
def bufAt (B : List (Int × Sec)) (i : Int) : Option Sec := (B.find? fun p => decide (p.1 = i)).map (·.2)
theorem bufAt_none {B : List (Int × Sec)} {i : Int} (h : ∀ q ∈ B, q.1 ≠ i) : bufAt B i = none := by
  unfold bufAt
  rw [List.find?_eq_none.2 (fun q hq => by simpa using h q hq)]; rfl
theorem bufAt_hit {B : List (Int × Sec)} {i : Int} {m : Nat} {p : Int × Sec} (h : ∀ q ∈ B.take m, q.1 ≠ i) (hp : B[m]? = some p) (e : p.1 = i) : bufAt B i = some p.2 := by
  unfold bufAt
  have hm : m < B.length := (List.getElem?_eq_some_iff.1 hp).1
  have e2 : B = B.take m ++ p :: B.drop (m + 1) := by
    rw [List.getElem?_eq_getElem hm] at hp
    cases hp
    rw [← List.drop_eq_getElem_cons hm, List.take_append_drop]
  rw [e2, List.find?_append, List.find?_eq_none.2 (fun q hq => by simpa using h q hq)]
  simp [e]
set_option maxRecDepth 100000 in
set_option maxHeartbeats 1000000 in
theorem rread_bad {w : World} {r N : Nat} {L : List Sec} {B : List (Int × Sec)} (h : IsR w r N L B) (i : Int) (hi : i < 0 ∨ (N : Int) ≤ i) :
    Calls Try.prog 35 #[pD r, .int .i64 i] w fun e w' => e = .returned (.tuple #[secV zsec, .int .i64 2]) ∧ Below w.heap.size w w' := by
  have zz := zlit
  have hb1 : Below w.heap.size w (w.alloc (.cells (zsec.map by8).toArray 61)) := (Below.refl _ _).alloc (Nat.le_refl _) _
  obtain ⟨al, capl, ab, capb, hr, _, _⟩ := (h.later hb1).row
  obtain ⟨c0, _, _, _⟩ := two_cells hr
  clear hr h
  by_cases h0 : i < 0
  · go_enter Try.func35, Try.ntmps35
    go_wp2_with (refine wpList_storeS _ rfl _ _ _ rfl sizeR _ rfl (by simp) zsec rfl zsec_is.1 _ (by simp; decide) ?_)
    exact bodyPost_ret (v := .tuple #[secV zsec, .int .i64 2]) (res_sec rfl _ _ sizeR Try.underlying61 w.heap.size rfl zsec zsec_is.1 _ _ (heap_alloc_new w _) _ rfl) rfl ⟨rfl, hb1⟩
  · have h1 : (N : Int) ≤ i := by omega
    go_enter Try.func35, Try.ntmps35
    go_wp2_with (refine wpList_storeS _ rfl _ _ _ rfl sizeR _ rfl (by simp) zsec rfl zsec_is.1 _ (by simp; decide) ?_)
    exact bodyPost_ret (v := .tuple #[secV zsec, .int .i64 2]) (res_sec rfl _ _ sizeR Try.underlying61 w.heap.size rfl zsec zsec_is.1 _ _ (heap_alloc_new w _) _ rfl) rfl ⟨rfl, hb1⟩
set_option maxRecDepth 100000 in
set_option maxHeartbeats 2000000 in
theorem rread_c {w : World} {r N : Nat} {L : List Sec} {B : List (Int × Sec)} (h : IsR w r N L B) (j : Nat) (hj : j < N) :
    Calls Try.prog 35 #[pD r, .int .i64 j] w fun e w' => e = .returned (.tuple #[secV ((bufAt B j).getD (L.getD j zsec)), .int .i64 0]) ∧ Below w.heap.size w w' := by
  have zz := zlit
  have hb1 : Below w.heap.size w (w.alloc (.cells (zsec.map by8).toArray 61)) := (Below.refl _ _).alloc (Nat.le_refl _) _
  obtain ⟨al, capl, ab, capb, hr, hol, hob⟩ := (h.later hb1).row
  obtain ⟨c0, c1, _, _⟩ := two_cells hr
  have HBS := hid h.2.2.2.2.1
  have HLS := hid h.2.2.1
  have HLN := hid h.2.1
  have hfew := h.few
  have hN8 : N ≤ 8 := h.2.2.2.2.2.2
  have HX : Hid ((w.alloc (.cells (zsec.map by8).toArray 61)).heap[w.heap.size]? = some (.cells (zsec.map by8).toArray 61)) := heap_alloc_new w _
  have HXL : Hid (w.heap.size < (w.alloc (.cells (zsec.map by8).toArray 61)).heap.size) := by show _ < _; simp
  have HOL := hid hol
  have HOB := hid hob
  have HB1 := hid hb1
  have hjI : ¬ (j : Int) < 0 := by omega
  have hjN : ¬ (N : Int) ≤ (j : Int) := by omega
  have hz32 : (zsec.map by8).toArray.size = 32 := by rfl
  clear h hr hol hob hb1
  go_enter Try.func35, Try.ntmps35
  go_wp2
  generalize (w.alloc (.cells (zsec.map by8).toArray 61)) = W at *
  go_loop [6] (fun k => ∃ m : Nat, m ≤ B.length ∧ k = .int .i64 m ∧ Hid (∀ q ∈ B.take m, q.1 ≠ (j : Int))) (fun k => (B.length - intOf k).toNat)
  case atStart => exact ⟨0, by omega, rfl, fun q hq => by simp at hq⟩
  case round =>
    obtain ⟨m, hm, rfl, HQ⟩ := hrel
    by_cases hml : m < B.length
    · obtain ⟨p, hp⟩ : ∃ p, B[m]? = some p := ⟨B[m], List.getElem?_eq_getElem hml⟩
      have hpB : p ∈ B := List.mem_of_getElem? hp
      obtain ⟨g, cap', eg, hcap, hgl, _, hrg⟩ := row_at HOB.out (fun x hx => lcells_len x (HBS.out x hx).1.1) (by omega)
      cases eg
      have hrp : W.rangeAt g (m * 33) (lcells p) := hrg m p hp
      have hpc : W.cell? ⟨g, m * 33, none⟩ = some (.int .i64 p.1) := hrp 0 _ rfl
      have hp32 : p.2.length = 32 := (HBS.out p hpB).1.1
      have HRS : Hid (W.rangeAt g (m * 33 + 1) (p.2.map by8)) := fun a v hv => by
        have := hrp (a + 1) v (by unfold lcells; simpa using hv)
        rwa [show m * 33 + (a + 1) = m * 33 + 1 + a by omega] at this
      have HPP := hid hp
      obtain ⟨pi, ps⟩ := p
      simp only at hpc hp32 HRS
      clear hrp hrg hpB hp
      by_cases h2 : pi = (j : Int)
      · have h2b : (pi == (j : Int)) = true := by simp [h2]
        have HA := hid (bufAt_hit HQ.out HPP.out h2)
        have hl32 : (ps.map by8).length = 32 := by simp [hp32]
        clear h2
        go_wp2_with (first
          | (refine wpList_load_mid rfl _ _ rfl g (m * 33 + 1) rfl (ps.map by8) _ HRS.out Try.underlying61 rfl (by rw [sizeR, hl32]) ?_)
          | (refine wpList_storeA _ rfl _ _ _ rfl sizeR _ rfl ps rfl hp32 _ _ HX.out hz32 ?_; intro w4 k1 k2 k3))
        exact bodyPost_ret (v := .tuple #[secV ps, .int .i64 0]) (res_sec rfl _ _ sizeR Try.underlying61 w.heap.size rfl ps hp32 _ _ k1 _ rfl) rfl ⟨by rw [HA.out]; rfl, HB1.out.trans (k2.below (by have := HB1.out.size; omega) (fun k e => by omega))⟩
      · have h2b : (pi == (j : Int)) = false := by simp [h2]
        go_wp2
        go_round
        case rel =>
          refine ⟨m + 1, by omega, by go_num, fun q hq => ?_⟩
          rw [List.take_succ_eq_append_getElem hml] at hq
          rcases List.mem_append.1 hq with h3 | h3
          · exact HQ.out q h3
          · have h4 := HPP.out
            rw [List.getElem?_eq_getElem hml] at h4
            have h5 : B[m] = (pi, ps) := Option.some.inj h4
            rw [List.mem_singleton.1 h3, h5]
            exact h2
        case measure => simp [intOf]; omega
    · obtain rfl : m = B.length := by omega
      have HA : Hid (bufAt B (j : Int) = none) := bufAt_none (fun q hq => HQ.out q (by rw [List.take_of_length_le (Nat.le_refl _)]; exact hq))
      have hLl := HLN.out
      obtain ⟨sj, hsj⟩ : ∃ sj, L[j]? = some sj := ⟨L[j]'(by omega), List.getElem?_eq_getElem (by omega)⟩
      have hs32 : sj.length = 32 := (HLS.out sj (List.mem_of_getElem? hsj)).1
      have HGD : Hid (L[j]?.getD zsec = sj) := by show _ = _; rw [hsj]; rfl
      have HOL2 := HOL.out
      rw [← hLl] at HOL2
      obtain ⟨g, cap', eg, hcap, hgl, _, hrg⟩ := row_at HOL2 (fun x hx => by rw [List.length_map]; exact (HLS.out x hx).1) (by omega)
      rw [hLl] at eg
      cases eg
      have HRL := hid (hrg j sj hsj)
      have hl32 : (sj.map by8).length = 32 := by simp [hs32]
      clear hrg HOL2 hLl hsj
      go_wp2_with (first
        | (refine wpList_load_mid rfl _ _ rfl g (j * 32) rfl (sj.map by8) _ HRL.out Try.underlying61 rfl (by rw [sizeR, hl32]) ?_)
        | (refine wpList_storeA _ rfl _ _ _ rfl sizeR _ rfl sj rfl hs32 _ _ HX.out hz32 ?_; intro w4 k1 k2 k3))
      exact bodyPost_ret (v := .tuple #[secV sj, .int .i64 0]) (res_sec rfl _ _ sizeR Try.underlying61 w.heap.size rfl sj hs32 _ _ k1 _ rfl) rfl ⟨by rw [HA.out, HGD.out]; rfl, HB1.out.trans (k2.below (by have := HB1.out.size; omega) (fun k e => by omega))⟩
theorem info_I : ∃ i : TypeInfo, Try.prog.info? 3 = some i ∧ i.zero = some (.int .i64 0) ∧ i.size = 1 ∧ i.bytes = 8 := by
  have h : (Try.prog.info? 3).map (fun i => (i.zero, i.size, i.bytes)) = some (some (.int .i64 0), 1, 8) := by kernel_rfl
  cases hi : Try.prog.info? 3 with
  | none => rw [hi] at h; cases h
  | some i => rw [hi] at h; simp at h; exact ⟨i, rfl, h.1, h.2.1, h.2.2⟩
set_option maxRecDepth 100000 in
set_option maxHeartbeats 2000000 in
theorem rloose_c {w : World} {r N : Nat} {L : List Sec} {B : List (Int × Sec)} (h : IsR w r N L B) :
    Calls Try.prog 37 #[pD r] w fun e w' => ∃ v, e = .returned v ∧ w'.ownsRow w.heap.size 3 1 v B.length ((B.map (·.1)).map encZ) ∧ Below w.heap.size w w' := by
  obtain ⟨al, capl, ab, capb, hr, hol, hob⟩ := h.row
  obtain ⟨c0, c1, _, _⟩ := two_cells hr
  have hrl := lt_blk hr
  have HBS := hid h.2.2.2.2.1
  have hfew := h.few
  have hN8 : N ≤ 8 := h.2.2.2.2.2.2
  have HOB := hid hob
  obtain ⟨iI, hi, hz0, hz1, hz2⟩ := info_I
  clear h hr hol hob
  go_enter Try.func37, Try.ntmps37
  go_wp2
  go_loopw [3, 4] (fun v k wr => ∃ m : Nat, m ≤ B.length ∧ k = .int .i64 m ∧ wr.ownsRow w.heap.size 3 1 v m (((B.take m).map (·.1)).map encZ) ∧ Below w.heap.size w wr) (fun _ k _ => (B.length - intOf k).toNat)
  case atStart => exact ⟨0, by omega, rfl, World.ownsRow_nil _ _ _ _, Below.refl _ _⟩
  case round =>
    obtain ⟨m, hm, rfl, hown, hB⟩ := hrel
    have hc1 : wr.cell? ⟨r, 1, none⟩ = some (.slice ab B.length capb) := by rw [← c1]; exact World.cell?_of_block (hB.block r hrl)
    have hsz := hB.size
    by_cases hml : m < B.length
    · obtain ⟨p, hp⟩ : ∃ p, B[m]? = some p := ⟨B[m], List.getElem?_eq_getElem hml⟩
      obtain ⟨g, cap', eg, hcap, hgl, _, hrg⟩ := row_at HOB.out (fun x hx => lcells_len x (HBS.out x hx).1.1) (by omega)
      cases eg
      have hrp : wr.rangeAt g (m * 33) (lcells p) := range_lat (hrg m p hp) hB hgl
      have hpc : wr.cell? ⟨g, m * 33, none⟩ = some (.int .i64 p.1) := hrp 0 _ rfl
      have HT : Hid (((B.take (m + 1)).map (·.1)).map encZ = ((B.take m).map (·.1)).map encZ ++ [.int .i64 p.1]) := by
        show _ = _
        rw [List.take_succ_eq_append_getElem hml]
        rw [List.getElem?_eq_getElem hml] at hp
        cases hp
        rw [List.map_append, List.map_append]
        rfl
      have HHB := hid hB
      obtain ⟨pi, ps⟩ := p
      simp only at hpc HT
      clear hrp hrg hp hB
      go_wp2_with (at_builtin; refine wpList_append_own _ rfl _ _ 45 rfl w.heap.size 3 iI (.int .i64 0) 1 8 Try.underlying45 hi hz0 hz1 hz2 rfl (by decide) _ _ _ rfl (hown.alloc _) ⟨wr.heap.size, 0, none⟩ 1 1 [.int .i64 pi] rfl rfl (cell_one_new _ _ _) (fun y hy => by simp at hy; subst hy; rfl) (by unfold maxLen; omega) (by omega) (by simp; omega) ?_; intro v5 w5 hown5 hgrow5 hnil5)
      go_roundw
      case rel => exact ⟨m + 1, by omega, by go_num, by rw [HT.out]; exact hown5, (HHB.out.alloc hsz _).grown hgrow5 (by simp; omega) (fun k hk => (hown.lt k hk).1)⟩
      case measure => simp [intOf]; omega
    · obtain rfl : m = B.length := by omega
      rw [List.take_of_length_le (Nat.le_refl _)] at hown
      go_wp2
      go_ret
      exact ⟨_, rfl, hown, hB⟩
end Go.Proofs.Yteimegacnmakaab
