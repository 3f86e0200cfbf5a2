/-
  live of the law on cml.
-/
import Derived.Test.YtihgiemgcmpmmaaCSame
namespace Go.Proofs.Ytihgiemgcmpmmaa
open Go.RowKit Go.ChangeShapes Go.WideShapes Go.ChangeAt Go.Maps Go.Shelf
set_option linter.unusedVariables false
set_option linter.unusedSimpArgs false
set_option maxRecDepth 100000
def lv0 : Rec := ⟨1, 5, 1, ⟨#[97]⟩, 0, ⟨#[]⟩, 0, ⟨#[]⟩, 0⟩
def lv1 : Rec := ⟨8, 5, 0, ⟨#[]⟩, 0, ⟨#[]⟩, 0, ⟨#[120]⟩, 0⟩
def lv2 : Rec := ⟨8, 5, 0, ⟨#[]⟩, 0, ⟨#[]⟩, 0, ⟨#[121]⟩, 0⟩
def lv3 : Rec := ⟨5, 0, 1, ⟨#[97]⟩, 0, ⟨#[]⟩, 0, ⟨#[]⟩, 0⟩
theorem lv_m : optF [lv0, lv1, lv2] = [lv0, lv2] := eqL_iff.1 (by decide +kernel)
theorem lv_n : optF [lv0, lv1, lv2, lv3] = [] := eqL_iff.1 (by decide +kernel)
theorem lv_c : optF [lv0, lv2] = [lv0, lv2] := eqL_iff.1 (by decide +kernel)
theorem own_emptyR (w : World) (base : Nat) (hb : base ≤ w.heap.size) : (w.alloc (.cells #[] 49)).ownsRow base 49 9 (.slice (some ⟨w.heap.size, 0, none⟩) 0 0) 0 [] :=
  ⟨rfl, .inr ⟨w.heap.size, 0, #[], rfl, hb, heap_alloc_new w _, Nat.le_refl _, Nat.zero_le _, rfl, rfl⟩⟩
theorem isL_row {w : World} {g : Nat} {l : List Rec} (h : w.heap[g]? = some (.cells (rcells l).toArray 49 (0, 0))) (hw : ∀ x ∈ l, x.Wf) (hm : l.length ≤ 100000) : IsL w (some ⟨g, 0, none⟩) l := by
  refine ⟨by unfold maxLen; omega, hw, fun _ => ⟨g, 0, rfl, fun i hi j v hv => ?_⟩⟩
  have hj : j < 9 := (List.getElem?_eq_some_iff.1 hv).1
  rw [Nat.zero_add, cell_of_row w g (i * 9 + j) _ _ _ h, List.getElem?_toArray, rcells_get l i hi j hj]
  exact hv
theorem rcells_one (l : List Rec) : ∀ u ∈ rcells l, u.oneCell' = true := fun u hu => by
  obtain ⟨x, _, hx⟩ := List.mem_flatMap.1 hu
  exact rec_one x u hx
theorem row_news {w : World} {g : Nat} {l : List Rec} (h : w.heap[g]? = some (.cells (rcells l).toArray 49 (0, 0))) : ∀ j u, (rcells l)[j]? = some u → w.cell? ((⟨g, 0, none⟩ : Addr).add j) = some u := fun j u hu => by
  have e : (⟨g, 0, none⟩ : Addr).add j = ⟨g, 0 + j, none⟩ := by unfold Addr.add; split <;> simp_all
  rw [e, cell_of_row w g _ _ _ _ h]
  simpa using hu
theorem lv_wf : ∀ x ∈ [lv0, lv1, lv2, lv3], x.Wf := by
  intro x hx
  simp at hx
  rcases hx with rfl | rfl | rfl | rfl <;> (unfold Rec.Wf maxLen; decide)
set_option maxRecDepth 100000 in
set_option maxHeartbeats 4000000 in
theorem clive_c (w : World) : Calls Try.prog 10 #[] w fun e w' => e = .returned (.bool true) ∧ Below w.heap.size w w' := by
  obtain ⟨i0, hi, hz0, hz1, hz2⟩ := info_rec
  have h0 := heap_alloc_new w (.cells (rcells [lv0, lv1, lv2]).toArray 49)
  have b0 : Below w.heap.size w (w.alloc (.cells (rcells [lv0, lv1, lv2]).toArray 49)) := (Below.refl _ _).alloc (Nat.le_refl _) _
  have hw3 : ∀ x ∈ [lv0, lv1, lv2], x.Wf := fun x hx => lv_wf x (by simp at hx; rcases hx with rfl | rfl | rfl <;> simp)
  have I0 := isL_row h0 hw3 (by decide)
  have OC := hid (optimise_c _ 3 _ _ I0 (by decide))
  rw [lv_m] at OC
  have H0 := hid h0
  have B0 := hid b0
  have W3 := hid hw3
  clear h0 b0 I0 hw3
  go_enter Try.func10, Try.ntmps10
  go_wp2_with fail
  refine OC.out.mono ?_
  rintro _ w1 ⟨v1, rfl, hO1, hb1⟩
  have B1 := hid (B0.out.trans (hb1.mono B0.out.size))
  have H1 := hid ((hb1.block _ (lt_blkR H0.out)).trans H0.out)
  have WM : Hid (∀ x ∈ [lv0, lv2], x.Wf) := hid (fun x hx => lv_wf x (by simp at hx; rcases hx with rfl | rfl <;> simp))
  obtain ⟨am, cm, rfl, hIm, _, _⟩ := isL_own hO1 WM.out
  obtain ⟨bm, om, rfl, _⟩ := hIm.2.2 (by decide)
  have IM := hid hIm
  clear OC hO1 hb1 H0 B0 hIm
  have b2 : Below w1.heap.size w1 (w1.alloc (.cells #[] 49)) := (Below.refl _ _).alloc (Nat.le_refl _) _
  have O2 := hid (own_emptyR w1 w1.heap.size (Nat.le_refl _))
  have B2 := hid b2
  have H2 := hid ((b2.block _ (lt_blkR H1.out)).trans H1.out)
  clear b2
  go_wp2_with (first
    | (go_at_call 22; refine TC.out.mono ?_; rintro _ w8 ⟨rfl, hb8⟩)
    | (go_at_call 21; refine CC.out.mono ?_; rintro _ w7 ⟨rfl, hb7⟩; have B7 := hid (B6.out.trans (hb7.mono B6.out.size)); clear hb7 CC
       have H7 := hid ((B7.out.block _ (lt_blkR H1.out)).trans H1.out)
       have z0 : w7.cell? ⟨w.heap.size, 0, none⟩ = some (.int .u8 1) := by (rw [cell_of_row _ _ _ _ _ _ H7.out]; rfl)
       have z1 : w7.cell? ⟨w.heap.size, 1, none⟩ = some (.int .u32 5) := by (rw [cell_of_row _ _ _ _ _ _ H7.out]; rfl)
       have z2 : w7.cell? ⟨w.heap.size, 2, none⟩ = some (.int .u32 1) := by (rw [cell_of_row _ _ _ _ _ _ H7.out]; rfl)
       have z3 : w7.cell? ⟨w.heap.size, 3, none⟩ = some (.string ⟨#[97]⟩) := by (rw [cell_of_row _ _ _ _ _ _ H7.out]; rfl)
       have z4 : w7.cell? ⟨w.heap.size, 4, none⟩ = some (.int .u32 0) := by (rw [cell_of_row _ _ _ _ _ _ H7.out]; rfl)
       have z5 : w7.cell? ⟨w.heap.size, 5, none⟩ = some (.string ⟨#[]⟩) := by (rw [cell_of_row _ _ _ _ _ _ H7.out]; rfl)
       have z6 : w7.cell? ⟨w.heap.size, 6, none⟩ = some (.int .u16 0) := by (rw [cell_of_row _ _ _ _ _ _ H7.out]; rfl)
       have z7 : w7.cell? ⟨w.heap.size, 7, none⟩ = some (.string ⟨#[]⟩) := by (rw [cell_of_row _ _ _ _ _ _ H7.out]; rfl)
       have z8 : w7.cell? ⟨w.heap.size, 8, none⟩ = some (.int .u64 0) := by (rw [cell_of_row _ _ _ _ _ _ H7.out]; rfl)
       have TC := hid (touches_c lv0 1 w7)
       rw [show touchF lv0 1 = true from rfl] at TC)
    | (go_at_call 9; refine OC5.out.mono ?_; rintro _ w6 ⟨v6, rfl, hO6, hb6⟩; have B6 := hid (B5.out.trans (hb6.mono B5.out.size)); obtain ⟨a6, c6, rfl⟩ := own_shapeR hO6; clear hO6 hb6 OC5
       have I6 := hid (IM.out.later B6.out)
       have CC := hid (clean_c _ cm _ w6 I6.out (by decide))
       rw [lv_c, eqL_t rfl] at CC
       have u1 : w6.cell? ⟨bm, om + 9 + 7, none⟩ = some (.string ⟨#[121]⟩) := I6.out.at (i := 1) (by decide) 7 _ rfl)
    | (at_builtin; refine wpList_append_own _ rfl _ _ 23 rfl w1.heap.size 49 i0 Rec.no.val 9 88 Try.underlying23 hi hz0 hz1 hz2 (by rfl) (by decide) _ _ _ rfl O4.out ⟨w3.heap.size, 0, none⟩ 1 1 lv3.cells rfl rfl (rec_news N4.out) (rec_one lv3) (by unfold maxLen; omega) (by omega) B4.out.size ?_; intro v5 w5 hown5 hgrow5 hnil5
       have B5 := hid (below_grownR B4.out O4.out (Nat.le_refl _) B4.out.size hgrow5)
       obtain ⟨a5, c5, rfl, hI5, _, _⟩ := isL_own (l := [lv0, lv1, lv2, lv3]) hown5 lv_wf
       have OC5 := hid (optimise_c a5 c5 _ w5 hI5 (by decide))
       rw [lv_n] at OC5
       clear hown5 hgrow5 hnil5 hI5 O4 N4 B4)
    | (at_builtin; refine wpList_append_own _ rfl _ _ 23 rfl w1.heap.size 49 i0 Rec.no.val 9 88 Try.underlying23 hi hz0 hz1 hz2 (by rfl) (by decide) _ _ _ rfl O2.out ⟨w.heap.size, 0, none⟩ 3 3 (rcells [lv0, lv1, lv2]) rfl rfl (row_news H2.out) (rcells_one _) (by unfold maxLen; omega) (by omega) B2.out.size ?_; intro v3 w3 hown3 hgrow3 hnil3
       have B3 := hid (below_grownR B2.out O2.out (Nat.le_refl _) B2.out.size hgrow3)
       have O3 : Hid (w3.ownsRow w1.heap.size 49 9 v3 3 (rcells [lv0, lv1, lv2])) := hid hown3
       obtain ⟨a3, c3, rfl⟩ := own_shapeR hown3
       have b4 : Below w3.heap.size w3 (w3.alloc (.cells lv3.cells.toArray 49)) := (Below.refl _ _).alloc (Nat.le_refl _) _
       have O4 := hid (own_latR O3.out b4)
       have N4 := hid (heap_alloc_new w3 (.cells lv3.cells.toArray 49))
       have B4 := hid (B3.out.trans (b4.mono B3.out.size))
       clear hown3 hgrow3 hnil3 b4 O2 B2 H2 O3 B3))
  go_ret
  exact ⟨rfl, (B1.out.trans (B7.out.mono B1.out.size)).trans (hb8.mono (by have := (B1.out.trans (B7.out.mono B1.out.size)).size; omega))⟩
end Go.Proofs.Ytihgiemgcmpmmaa
