/-
  insideOf of the package tell, of a directory with entries.
-/
import Derived.Test.YtkokjkaclcjnjaaDoorBkAs
namespace Go.Proofs.YtkokjkaclcjnjaaDoor
open Go.RowKit Go.ChangeShapes Go.WideShapes Go.ChangeAt
set_option linter.unusedVariables false
set_option linter.unusedSimpArgs false
set_option maxRecDepth 100000
theorem decB_size {u : Nat} (h : u < 4294967296) : (decB u).size ≤ 20 := by
 unfold decB
 show (List.toArray _).size ≤ 20
 rw [List.size_toArray, Lib.decDigits_length]
 by_cases h0 : u = 0
 · subst h0
   have := Lib.decDigits_length 0
   rw [Lib.decDigits_one (by omega)] at this
   simp at this
   omega
 · have := Lib.numDigits_eq u (by omega) (by omega)
   split at this <;> omega
theorem kidT_size {k : Kd} (h : k.nm.size ≤ 1000) (hf : k.Wf) : (kidT k).data.toList.length ≤ 1021 := by
 have h1 := decB_size (u := k.fid.toNat) (by have := hf.2.2; omega)
 have e : (kidT k).data.toList = k.nm.data.toList ++ [61] ++ (decB k.fid.toNat).data.toList := by unfold kidT; simp [ByteArray.data_append]
 rw [e, List.length_append, List.length_append]
 have e1 : k.nm.data.toList.length = k.nm.size := rfl
 have e2 : (decB k.fid.toNat).data.toList.length = (decB k.fid.toNat).size := rfl
 simp only [List.length_singleton]
 omega
theorem joinTail_len (sep : List UInt8) (r : List (List UInt8)) (h : ∀ x ∈ r, x.length ≤ 1021) : (Lib.joinTail sep r).length ≤ r.length * (sep.length + 1021) := by
 unfold Lib.joinTail
 induction r with
 | nil => simp
 | cons a t ih =>
   rw [List.map_cons, List.flatten_cons, List.length_append, List.length_append, List.length_cons, Nat.succ_mul]
   have h1 := h a (List.mem_cons_self ..)
   have h2 := ih (fun x hx => h x (List.mem_cons_of_mem _ hx))
   omega
theorem join_few {ks : List Kd} (hn : ∀ y ∈ ks, y.nm.size ≤ 1000) (hw : ∀ y ∈ ks, y.Wf) (hz : ks.length ≤ 1000) : (Lib.join (ks.map fun k => (kidT k).data.toList) [44]).length ≤ 140737488355328 := by
 cases ks with
 | nil => simp [Lib.join]
 | cons a t =>
   rw [List.map_cons, Lib.join_cons, List.length_append]
   have h1 := kidT_size (hn a (List.mem_cons_self ..)) (hw a (List.mem_cons_self ..))
   have h2 := joinTail_len [44] (t.map fun k => (kidT k).data.toList) (fun x hx => by
     obtain ⟨k, hk, rfl⟩ := List.mem_map.1 hx
     exact kidT_size (hn k (List.mem_cons_of_mem _ hk)) (hw k (List.mem_cons_of_mem _ hk)))
   rw [List.length_map] at h2
   rw [List.length_cons] at hz
   have h3 : t.length * ([44].length + 1021) ≤ 1000 * 1022 := Nat.mul_le_mul (by omega) (by decide)
   omega
set_option maxHeartbeats 8000000 in
theorem inK_c (x : Nd) (w : World) (hx : x.Ok w) (hz : x.ks.length ≤ 1000) (hk : x.k = 2) (hks : x.ks ≠ []) (hn : ∀ y ∈ x.ks, y.nm.size ≤ 1000) (ht : TabW w) : Calls Tryd.prog 55 #[x.val] w fun e w' => e = .returned (.string ⟨(Lib.join (x.ks.map fun k => (kidT k).data.toList) [44]).toArray⟩) ∧ Below w.heap.size w w' := by
 have hb := below_1 w (.cells x.cells.toArray 35)
 have hB := heap_alloc_new w (.cells x.cells.toArray 35)
 have k1 : (w.alloc (.cells x.cells.toArray 35)).cell? ⟨w.heap.size, 1, none⟩ = some (.int .u8 2) := by rw [← hk]; exact cell_of_row2 hB 1 rfl
 have k5 : (w.alloc (.cells x.cells.toArray 35)).cell? ⟨w.heap.size, 5, none⟩ = some (.slice x.ka x.ks.length x.kc) := cell_of_row2 hB 5 rfl
 have KS := hid hx.2.2.2.2.2
 have B0 := hid hb
 have TW := hid ht
 have HN := hid hn
 have hpos : 0 < x.ks.length := List.length_pos_iff.2 hks
 have e0 : ((x.ks.length : Int) == 0) = false := by rw [beq_eq_false_iff_ne]; omega
 clear hb hB hx hks ht hn
 simp only [Nd.val, Nd.cells] at *
 obtain ⟨b', off, hka, _⟩ := KS.out.2.2 hpos
 rw [hk, hka]
 rw [hk, hka] at k1 k5 B0
 rw [hka] at KS
 clear hka
 go_enter Tryd.func55, Tryd.ntmps55
 go_wp2
 go_loopg [3, 22] x.ks.length (fun gk v3 v22 wr => ∃ i : Nat, i + gk = x.ks.length ∧ v22 = .int .i64 i ∧ Hid (OwS wr w.heap.size v3 ((x.ks.take i).map kidT)) ∧ Hid (Below w.heap.size w wr))
 case atStart => exact ⟨0, by omega, rfl, hid (OwS.nil _ _), B0⟩
 case round =>
   clear B0 k1 k5
   obtain ⟨i, hi, rfl, OE, BX⟩ := hrel
   have hlen : ((x.ks.take i).map kidT).length = i := by rw [List.length_map, List.length_take]; omega
   obtain ⟨va, vc, e3⟩ := OE.out.shape
   rw [hlen] at e3
   subst e3
   have HLEN := hid hlen
   clear hlen
   by_cases hlt : i < x.ks.length
   · have hltI : (i : Int) < x.ks.length := by omega
     obtain ⟨b2, off2, hka, hc⟩ := (KS.out.later BX.out).2.2 hpos
     cases hka
     obtain ⟨c0, c1⟩ := hc i hlt
     have hwf := KS.out.2.1 _ (getD_mem x.ks Kd.no hlt)
     have hns := HN.out _ (getD_mem x.ks Kd.no hlt)
     have TS : Hid ((x.ks.take (i + 1)).map kidT = (x.ks.take i).map kidT ++ [kidT (x.ks.getD i Kd.no)]) := hid (by rw [List.take_succ_eq_append_getElem hlt, List.map_append, List.getD, List.getElem?_eq_getElem hlt]; rfl)
     clear hc
     generalize x.ks.getD i Kd.no = y at *
     obtain ⟨F, hF, hFn⟩ : ∃ F : Nat, (F : Int) = y.fid ∧ F = y.fid.toNat := ⟨y.fid.toNat, by have := hwf.2.1; omega, rfl⟩
     have hFb : F < 4294967296 := by have := hwf.2.2; omega
     have hds : (decB F).size ≤ 20 := decB_size hFb
     have hds2 : (decB y.fid.toNat).size ≤ 20 := by rw [← hFn]; exact hds
     have hn1 : ¬ 9223372036854775807 < y.nm.size + 1 := by omega
     have hn2 : ¬ 9223372036854775807 < y.nm.size + 1 + (decB y.fid.toNat).size := by omega
     have hn3 : ¬ 9223372036854775807 < y.nm.size + (1 + (decB y.fid.toNat).size) := by omega
     · skip
       go_upto_region 9 with fail
       have hN := heap_alloc_new wr (.cells #[.string y.nm, .int .u32 y.fid] 71)
       have b3 := below_1 wr (.cells #[.string y.nm, .int .u32 y.fid] 71)
       have g0 : wr.heap.size < (wr.alloc (.cells #[.string y.nm, .int .u32 y.fid] 71)).heap.size := by simp
       have U3 := hid (OE.out.later b3)
       have B3 := hid (BX.out.trans (b3.mono BX.out.size))
       have O0 : ∀ w' : World, w'.heap[wr.heap.size]? = some (.cells #[.string y.nm, .int .u32 y.fid] 71 (0, 0)) → w'.cell? ⟨wr.heap.size, 0, none⟩ = some (.string y.nm) := fun w' h => cell_of_row2 h 0 rfl
       have O1 : ∀ w' : World, w'.heap[wr.heap.size]? = some (.cells #[.string y.nm, .int .u32 y.fid] 71 (0, 0)) → w'.cell? ⟨wr.heap.size, 1, none⟩ = some (.int .u32 y.fid) := fun w' h => cell_of_row2 h 1 rfl
       have HK9 : Hid (∀ W, Below (wr.alloc (.cells #[.string y.nm, .int .u32 y.fid] 71)).heap.size (wr.alloc (.cells #[.string y.nm, .int .u32 y.fid] 71)) W → W.heap[wr.heap.size]? = some (.cells #[.string y.nm, .int .u32 y.fid] 71 (0, 0))) := hid (fun W h => (h.block _ g0).trans hN)
       clear hN b3 c0 c1
       generalize wr.alloc (.cells #[.string y.nm, .int .u32 y.fid] 71) = V at *
       go_wp2_with fail
       have hS0 : Below V.heap.size V V.drew := Below.drew (Below.refl _ _)
       have hK0 := HK9.out _ hS0
       refine wp_region_held_drew (S := fun w' => w'.heap[wr.heap.size]? = some (.cells #[.string y.nm, .int .u32 y.fid] 71 (0, 0))) (by kernel_rfl) hK0 (fun hHeld => ?_)
       refine take_l 0 (v := ?_) rfl (by kernel_rfl) (by kernel_rfl) (by kernel_rfl) (fun _ _ _ h => h) (Or.inl ⟨by rfl, ?_⟩) (by assumption) ?_
       rotate_left
       · (intro w' hSw; clear hSw; go_simp; first | done | with_reducible rfl)
       try simp only [Act.put, List.setIfInBounds_toArray, List.set_cons_zero, List.set_cons_succ]
       refine take_l 1 (v := ?_) rfl (by kernel_rfl) (by kernel_rfl) (by kernel_rfl) (fun _ _ _ h => h) (Or.inl ⟨by rfl, ?_⟩) (by assumption) ?_
       rotate_left
       · (intro w' hSw; clear hSw; go_simp; first | done | with_reducible rfl)
       try simp only [Act.put, List.setIfInBounds_toArray, List.set_cons_zero, List.set_cons_succ]
       refine take_l 2 (v := ?_) rfl (by kernel_rfl) (by kernel_rfl) (by kernel_rfl) (fun _ _ _ h => h) (Or.inl ⟨by rfl, ?_⟩) (by assumption) ?_
       rotate_left
       · (intro w' hSw; (have kq := O0 _ hSw); clear hSw; go_simp; first | done | with_reducible rfl)
       try simp only [Act.put, List.setIfInBounds_toArray, List.set_cons_zero, List.set_cons_succ]
       refine take_l 3 (v := ?_) rfl (by kernel_rfl) (by kernel_rfl) (by kernel_rfl) (fun _ _ _ h => h) (Or.inl ⟨by rfl, ?_⟩) (by assumption) ?_
       rotate_left
       · (intro w' hSw; clear hSw; go_simp; first | done | with_reducible rfl)
       try simp only [Act.put, List.setIfInBounds_toArray, List.set_cons_zero, List.set_cons_succ]
       refine take_l 4 (v := ?_) rfl (by kernel_rfl) (by kernel_rfl) (by kernel_rfl) (fun _ _ _ h => h) (Or.inl ⟨by rfl, ?_⟩) (by assumption) ?_
       rotate_left
       · (intro w' hSw; clear hSw; go_simp; first | done | with_reducible rfl)
       try simp only [Act.put, List.setIfInBounds_toArray, List.set_cons_zero, List.set_cons_succ]
       refine take_l 5 (v := ?_) rfl (by kernel_rfl) (by kernel_rfl) (by kernel_rfl) (fun _ _ _ h => h) (Or.inl ⟨by rfl, ?_⟩) (by assumption) ?_
       rotate_left
       · (intro w' hSw; (have kq := O1 _ hSw); clear hSw; go_simp; first | done | with_reducible rfl)
       try simp only [Act.put, List.setIfInBounds_toArray, List.set_cons_zero, List.set_cons_succ]
       have hB1 : Below w.heap.size w V.drew := B3.out.trans (hS0.mono B3.out.size)
       have DC := hid (dig_c F (by omega) V.drew (TW.out.later hB1))
       rw [hF] at DC
       refine cons_l 6 rfl (by kernel_rfl) (fun K hK => ?_)
       go_simp
       refine DC.out.mono ?_; rintro _ w4 ⟨rfl, hb4⟩
       have hS4 : Below V.heap.size V w4 := hS0.trans (hb4.mono hS0.size)
       clear hb4
       go_simp
       refine hK.out _ _ (HK9.out _ hS4) (fun hHeld => ?_)
       clear hK K
       try simp only [Act.put, List.setIfInBounds_toArray, List.set_cons_zero, List.set_cons_succ]
       refine take_l 7 (v := ?_) rfl (by kernel_rfl) (by kernel_rfl) (by kernel_rfl) (fun _ _ _ h => h) (Or.inl ⟨by rfl, ?_⟩) (by assumption) ?_
       rotate_left
       · (intro w' hSw; clear hSw; go_simp; first | done | with_reducible rfl)
       try simp only [Act.put, List.setIfInBounds_toArray, List.set_cons_zero, List.set_cons_succ]
       refine cons_l 8 rfl (by kernel_rfl) (fun K hK => ?_)
       go_simp
       rw [show (y.nm ++ ⟨#[61]⟩ ++ decB y.fid.toNat : ByteArray) = kidT y from rfl]
       have hN5 := heap_alloc_new w4 (.cells #[.string (kidT y)] 9)
       have b5 := below_1 w4 (.cells #[.string (kidT y)] 9)
       have hS5 : Below V.heap.size V (w4.alloc (.cells #[.string (kidT y)] 9)) := hS4.trans (b5.mono hS4.size)
       refine hK.out _ _ (HK9.out _ hS5) (fun hHeld => ?_)
       clear hK K
       try simp only [Act.put, List.setIfInBounds_toArray, List.set_cons_zero, List.set_cons_succ]
       have O5 := hid (U3.out.later hS5)
       have B5 := hid (B3.out.trans (hS5.mono B3.out.size))
       refine cons_l 9 rfl (by kernel_rfl) (fun K hK => ?_)
       refine step_appS _ (by rfl) _ _ (by rfl) w.heap.size _ ((x.ks.take i).map kidT) (by rfl) O5.out w4.heap.size (kidT y) (by rfl) hN5 (by rw [HLEN.out]; omega) B5.out.size ?_
       intro v6 w6 ho6 hg6
       have O6 := hid ho6
       have B6 := hid (below_grownI B5.out O5.out (Nat.le_refl _) B5.out.size hg6)
       have hS6 : w6.heap[wr.heap.size]? = some (.cells #[.string y.nm, .int .u32 y.fid] 71 (0, 0)) := (hg6.block _ (Nat.lt_of_lt_of_le g0 hS5.size) (fun e => Lib.ownBlock_ne O5.out (HK9.out _ hS5) (by decide) e.symm)).trans (HK9.out _ hS5)
       clear ho6 hg6 hN5 b5 hS5
       go_simp
       refine hK.out _ _ hS6 (fun hHeld => ?_)
       clear hK K
       try simp only [Act.put, List.setIfInBounds_toArray, List.set_cons_zero, List.set_cons_succ]
       refine take_l 10 (v := ?_) rfl (by kernel_rfl) (by kernel_rfl) (by kernel_rfl) (fun _ _ _ h => h) (Or.inl ⟨by rfl, ?_⟩) (by assumption) ?_
       rotate_left
       · (intro w' hSw; clear hSw; go_simp; first | done | with_reducible rfl)
       try simp only [Act.put, List.setIfInBounds_toArray, List.set_cons_zero, List.set_cons_succ]
       refine wpAnyH_done (by kernel_rfl) ?_ _
       rw [← TS.out] at O6
       clear O0 O1 HK9 hK0 hS0 hS4 hS6 U3 O5 B3 B5 DC
       go_wp2
       go_roundg (gk - 1)
       case measure => omega
       case rel => exact ⟨i + 1, by omega, by go_num, O6, B6⟩
   · have hge : ¬ (i : Int) < x.ks.length := by omega
     obtain rfl : i = x.ks.length := by omega
     have ET : (x.ks.take x.ks.length).map kidT = x.ks.map kidT := by rw [List.take_length]
     have OF := OE.out
     rw [ET] at OF
     have hl2 : (x.ks.map kidT).length = x.ks.length := List.length_map ..
     have OF2 : OwS wr w.heap.size (.slice va (x.ks.map kidT).length vc) (x.ks.map kidT) := by rw [hl2]; exact OF
     obtain ⟨g, rfl, hg, hcp, hcl⟩ := OF2.cells (by rw [hl2]; exact hpos)
     have EJ : (x.ks.map kidT).map (·.data.toList) = x.ks.map fun k => (kidT k).data.toList := by rw [List.map_map]; rfl
     have JC := hid (Tryd.strings_Join g 0 vc (x.ks.map kidT) ⟨#[44]⟩ wr hcl hg (by rw [hl2]; omega) hcp (by rw [EJ]; exact join_few HN.out KS.out.2.1 hz))
     rw [EJ, hl2] at JC
     clear ET OF OF2 hl2 hcp hcl EJ
     go_wp2_with (go_at_call 56; refine JC.out.mono ?_; rintro _ w9 ⟨rfl, hb9⟩; have B9 := hid (BX.out.trans (hb9.mono BX.out.size)); clear hb9)
     go_ret
     exact ⟨rfl, B9.out⟩
end Go.Proofs.YtkokjkaclcjnjaaDoor
