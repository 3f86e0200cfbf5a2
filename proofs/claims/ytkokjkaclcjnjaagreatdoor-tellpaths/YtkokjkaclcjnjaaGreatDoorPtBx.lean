/-
  What must be whatever is asked (live) of the package tell.
-/
import Derived.Test.YtkokjkaclcjnjaaGreatDoorPtBs
namespace Go.Proofs.YtkokjkaclcjnjaaGreatDoor
open Go.RowKit Go.ChangeShapes Go.WideShapes Go.ChangeAt
set_option linter.unusedVariables false
set_option linter.unusedSimpArgs false
set_option maxRecDepth 100000
theorem nw_kids {f : Int} {p : Addr} {x : Nd} (h : N0 [nwNd] f = some (p, x)) : x = nwNd := by
 unfold N0 ndF at h
 obtain ⟨i, hi, he⟩ := Option.map_eq_some_iff.1 h
 simp only [Prod.mk.injEq] at he
 have h1 : i = 0 := by
   have : plTo [nwNd] 1 f = some i := hi
   unfold plTo at this
   simp only [updF] at this
   split at this
   · cases this; rfl
   · cases this
 rw [← he.2, h1]
 rfl
theorem nw_right : RightP [nwNd] := by
 refine ⟨by decide, rfl, rfl, fun x hx => ?_, rfl, ?_⟩
 · rw [List.mem_singleton] at hx
   subst hx
   exact ⟨rfl, rfl⟩
 · rintro ⟨G, ks, f, p, h1, h2, h3, h4, h5⟩
   obtain ⟨q, x, i, e1, e2, _⟩ := (h3 p f).1 h4
   rw [nw_kids e1] at e2
   exact absurd e2 (Nat.not_lt_zero _)
def nwLine : List UInt8 := [49, 32, 100, 105, 114, 32, 48, 32, 48, 32, 45]
theorem dec0 : decB 0 = ⟨#[48]⟩ := by unfold decB; rw [Lib.decDigits_one (by omega)]; rfl
theorem dec1 : decB 1 = ⟨#[49]⟩ := by unfold decB; rw [Lib.decDigits_one (by omega)]; rfl
theorem nwLine_c (w : World) : Calls Tryz.prog 38 #[nwNd.val] w fun e w' => e = .returned (.string ⟨nwLine.toArray⟩) ∧ Below w.heap.size w w' :=
 line_c 1 2 0 0 none none 0 0 0 0 w ⟨#[49]⟩ ⟨#[100, 105, 114]⟩ ⟨#[48]⟩ ⟨#[48]⟩ ⟨#[45]⟩ (by decide)
   (hid (fun W _ => (digS_c 1 (by omega) W).mono fun e w' ⟨h1, h2⟩ => ⟨by rw [h1, dec1], by rw [h2]; exact Below.refl _ _⟩))
   (hid (fun W _ => (word_c 2 W).mono fun e w' ⟨h1, h2⟩ => ⟨h1, by rw [h2]; exact Below.refl _ _⟩))
   (hid (fun W _ => (digS_c 0 (by omega) W).mono fun e w' ⟨h1, h2⟩ => ⟨by rw [h1, dec0], by rw [h2]; exact Below.refl _ _⟩))
   (hid (fun W _ => (digS_c 0 (by omega) W).mono fun e w' ⟨h1, h2⟩ => ⟨by rw [h1, dec0], by rw [h2]; exact Below.refl _ _⟩))
   (hid (fun W _ => inside0_c 1 0 0 none none 0 0 0 W)) (by omega) (by omega)
set_option maxHeartbeats 1000000 in
theorem nwTree_c (w : World) : Calls Tryz.prog 5 #[] w fun e w' => ∃ a c, e = .returned (.slice a 1 c) ∧ IsNs w' a [nwNd] ∧ Below w.heap.size w w' := by
 have b1 := below_1 w (.cells #[.int .u32 1, .int .u8 2, .int .u16 0, .int .u16 0, .slice none 0 0, .slice none 0 0] 37)
 have h1 := heap_alloc_new w (.cells #[.int .u32 1, .int .u8 2, .int .u16 0, .int .u16 0, .slice none 0 0, .slice none 0 0] 37)
 have B1 := hid b1
 have H1 := hid h1
 clear b1 h1
 go_enter Tryz.func5, Tryz.ntmps5
 go_wp2
 go_ret
 refine ⟨_, _, rfl, ⟨by show 1 ≤ maxLen; unfold maxLen; omega, fun x hx => ?_, fun _ => ⟨_, 0, rfl, fun i hi => ?_⟩⟩, B1.out⟩
 · rw [List.mem_singleton] at hx
   subst hx
   exact ⟨⟨by decide, by decide⟩, ⟨by decide, by decide⟩, ⟨by decide, by decide⟩, ⟨by decide, by decide⟩, ⟨rfl, by show 0 ≤ maxLen; unfold maxLen; omega, fun h => absurd h (by decide), fun i => by simp [nwNd]⟩, ⟨by show 0 ≤ maxLen; unfold maxLen; omega, (fun x hx => by cases hx), fun h => absurd h (by decide)⟩⟩
 · have e : i = 0 := by simp at hi; omega
   subst e
   intro j v hv
   rw [Nat.zero_add, cell_of_row _ _ _ _ _ _ H1.out, ← Array.getElem?_toList]
   exact hv
set_option maxHeartbeats 2000000 in
theorem tlive_c (w : World) : Calls Tryz.prog 9 #[] w fun e w' => e = .returned (.bool true) ∧ Below w.heap.size w w' := by
 have NC := hid (nwTree_c w)
 have UQ := hid (fun W => unquote_c ⟨#[34, 97, 92, 48, 97, 34]⟩ W (by decide))
 have QT := hid (fun W => quote_c ⟨#[34]⟩ W (by decide))
 have e1 : unqL (⟨#[34, 97, 92, 48, 97, 34]⟩ : ByteArray).data.toList = some [97, 10] := by kernel_rfl
 have e2 : quoteL (⟨#[34]⟩ : ByteArray).data.toList = [34, 92, 50, 50, 34] := by kernel_rfl
 rw [e1] at UQ
 rw [e2] at QT
 unfold UqP at UQ
 clear e1 e2
 go_enter Tryz.func9, Tryz.ntmps9
 go_wp2_with (first
   | (go_at_call 20; refine (QT.out _).mono ?_; rintro _ w4 ⟨rfl, hb4⟩; have B4 := hid (B3.out.trans (hb4.mono B3.out.size)); clear hb4)
   | (go_at_call 19; refine (UQ.out _).mono ?_; rintro _ w3 ⟨rfl, hb3⟩; have B3 := hid (B2.out.trans (hb3.mono B2.out.size)); clear hb3)
   | (go_at_call 18; refine TC.out.mono ?_; rintro _ w2 ⟨rfl, hb2⟩; have B2 := hid (B1.out.trans (hb2.mono B1.out.size)); clear hb2 TC)
   | (go_at_call 5; refine NC.out.mono ?_; rintro _ w1 ⟨a1, c1, rfl, hn1, hb1⟩; have B1 := hid hb1; have TC := hid (tree_c c1 hn1 nw_right (fun _ => nwLine) (fun _ _ => by decide) (hid (fun x hx W _ => by rw [List.mem_singleton] at hx; subst hx; exact nwLine_c W))); clear hn1 hb1))
 go_ret
 exact ⟨by first | rfl | simp, B4.out⟩
end Go.Proofs.YtkokjkaclcjnjaaGreatDoor
