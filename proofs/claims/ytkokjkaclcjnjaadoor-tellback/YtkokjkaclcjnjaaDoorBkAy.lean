/-
  Tree of the package tell.
  What must be whatever is asked (live) of the package tell.
  What stands in quotes: plain facts; few of the statements of tell.
  The document's Quote, digit.
-/
import Derived.Test.YtkokjkaclcjnjaaDoorBkAr
namespace Go.Proofs.YtkokjkaclcjnjaaDoor
open Go.RowKit Go.ChangeShapes Go.WideShapes Go.ChangeAt
set_option linter.unusedVariables false
set_option linter.unusedSimpArgs false
set_option maxRecDepth 100000
theorem take_flatN (F : Nd → List UInt8) (L : List Nd) (m : Nat) (h : m < L.length) : (L.take (m + 1)).flatMap F = (L.take m).flatMap F ++ F (L.getD m Nd.no) := by
 rw [List.take_succ_eq_append_getElem h, List.flatMap_append, List.getD, List.getElem?_eq_getElem h]
 simp
theorem flatN_len (F : Nd → List UInt8) (L : List Nd) (hF : ∀ x ∈ L, (F x).length ≤ 100001) : (L.flatMap F).length ≤ L.length * 100001 := by
 induction L with
 | nil => simp
 | cons x t ih =>
   rw [List.flatMap_cons, List.length_append, List.length_cons]
   have h1 := hF x (List.mem_cons_self ..)
   have h2 := ih (fun y hy => hF y (List.mem_cons_of_mem _ hy))
   omega
theorem tree_no {a : Option Addr} {L : List Nd} (cap : Nat) {w : World} (h : IsNs w a L) (hm : L.length ≤ 100000) (hr : ¬ RightP L) :
   Calls Tryd.prog 17 #[.slice a L.length cap] w fun e w' => e = .returned (.tuple #[.string ⟨#[]⟩, .int .i64 3]) ∧ Below w.heap.size w w' := by
 have RC := hid (right_c a cap L w h hm)
 go_enter Tryd.func17, Tryd.ntmps17
 go_wp2_with (go_at_call 37; refine RC.out.mono ?_; rintro _ w1 ⟨b, rfl, hb, hb1⟩; obtain rfl : b = false := by { cases b with | false => rfl | true => exact absurd (hb.1 rfl) hr }; have B1 := hid hb1; clear hb hb1)
 refine bodyPost_ret (v := .tuple #[.string ⟨#[]⟩, .int .i64 3]) (by simp [results, Tryd.results17, go_sem]) rfl ⟨rfl, B1.out⟩
set_option maxHeartbeats 4000000 in
theorem tree_c {a : Option Addr} {L : List Nd} (cap : Nat) {w : World} (h : IsNs w a L) (hr : RightP L) (LN : Nd → List UInt8) (hz : ∀ x ∈ L, (LN x).length ≤ 100000)
   (HL : Hid (∀ x ∈ L, ∀ W, Below w.heap.size w W → Calls Tryd.prog 33 #[x.val] W fun e w' => e = .returned (.string ⟨(LN x).toArray⟩) ∧ Below W.heap.size W w')) :
   Calls Tryd.prog 17 #[.slice a L.length cap] w fun e w' => e = .returned (.tuple #[.string ⟨(L.flatMap (fun x => LN x ++ [10])).toArray⟩, .int .i64 0]) ∧ Below w.heap.size w w' := by
 have RC := hid (right_c a cap L w h (by have := hr.1; omega))
 have h40 := hr.1
 have HI := hid h
 have HZ := hid hz
 obtain ⟨F, hF⟩ : ∃ F : Nd → List UInt8, F = fun x => LN x ++ [10] := ⟨_, rfl⟩
 have HF := hid hF
 have FL : Hid (∀ m, ((L.take m).flatMap F).length ≤ 5000000) := hid (fun m => by
   have := flatN_len F (L.take m) (fun x hx => by rw [HF.out]; simp only [List.length_append, List.length_singleton]; have := HZ.out x (List.mem_of_mem_take hx); omega)
   have h2 : (L.take m).length ≤ 40 := by rw [List.length_take]; omega
   have h3 : (L.take m).length * 100001 ≤ 40 * 100001 := Nat.mul_le_mul_right _ h2
   omega)
 rw [← hF]
 clear h hz hF
 go_enter Tryd.func17, Tryd.ntmps17
 go_upto_region 3 with (go_at_call 37; refine RC.out.mono ?_; rintro _ w1 ⟨b, rfl, hb, hb1⟩; obtain rfl : b = true := hb.2 hr; have B1 := hid hb1; clear hb hb1)
 clear RC hr
 have U0 := hid (IsBd.new w1)
 have b2 := below_1 w1 (.cells #[.pointer none, .slice none 0 0] 51)
 have B2 := hid b2
 have I2 := hid (HI.out.later (B1.out.trans (b2.mono B1.out.size)))
 have LAT : Hid (∀ W, Below w1.heap.size w1 W → IsNs W a L) := hid (fun W hW => HI.out.later (B1.out.trans (hW.mono B1.out.size)))
 clear b2
 go_wp2
 go_loopg [12] L.length (fun gk v wr => ∃ m : Nat, m + gk = L.length ∧ v = .int .i64 m ∧ Hid (IsBd wr w1.heap.size w1.heap.size ((L.take m).flatMap F)) ∧ Hid (Below w1.heap.size w1 wr) ∧ Hid (IsNs wr a L))
 case atStart => exact ⟨0, by omega, rfl, U0, B2, I2⟩
 case round =>
   clear U0 B2 I2
   obtain ⟨m, hm, rfl, UX, BX, IX⟩ := hrel
   by_cases hlt : m < L.length
   · have hltI : (m : Int) < L.length := by omega
     obtain ⟨b', off, rfl, hc0⟩ := IX.out.2.2 (by omega)
     have hc := hc0 m hlt
     have hmem := getD_mem L Nd.no hlt
     have TF := hid (take_flatN F L m hlt)
     have HX := hid (HL.out _ hmem)
     have hzx := HZ.out _ hmem
     have FE : Hid (F (L.getD m Nd.no) = LN (L.getD m Nd.no) ++ [10]) := hid (by rw [HF.out])
     clear hc0 hmem
     generalize L.getD m Nd.no = x at *
     obtain ⟨c0, c1, c2, c3, c4, c5⟩ := hc.all
     clear hc
     simp only [Nd.val] at HX
     go_upto_region 7 with fail
     have hN := heap_alloc_new wr (.cells #[.int .u32 x.fid, .int .u8 x.k, .int .u16 x.md, .int .u16 x.ln, .slice x.da x.zs.length x.dc, .slice x.ka x.ks.length x.kc] 35)
     have b3 := below_1 wr (.cells #[.int .u32 x.fid, .int .u8 x.k, .int .u16 x.md, .int .u16 x.ln, .slice x.da x.zs.length x.dc, .slice x.ka x.ks.length x.kc] 35)
     have u0 : (wr.alloc (.cells #[.int .u32 x.fid, .int .u8 x.k, .int .u16 x.md, .int .u16 x.ln, .slice x.da x.zs.length x.dc, .slice x.ka x.ks.length x.kc] 35)).cell? ⟨wr.heap.size, 0, none⟩ = some (.int .u32 x.fid) := cell_of_row2 hN 0 rfl
     have u1 : (wr.alloc (.cells #[.int .u32 x.fid, .int .u8 x.k, .int .u16 x.md, .int .u16 x.ln, .slice x.da x.zs.length x.dc, .slice x.ka x.ks.length x.kc] 35)).cell? ⟨wr.heap.size, 1, none⟩ = some (.int .u8 x.k) := cell_of_row2 hN 1 rfl
     have u2 : (wr.alloc (.cells #[.int .u32 x.fid, .int .u8 x.k, .int .u16 x.md, .int .u16 x.ln, .slice x.da x.zs.length x.dc, .slice x.ka x.ks.length x.kc] 35)).cell? ⟨wr.heap.size, 2, none⟩ = some (.int .u16 x.md) := cell_of_row2 hN 2 rfl
     have u3 : (wr.alloc (.cells #[.int .u32 x.fid, .int .u8 x.k, .int .u16 x.md, .int .u16 x.ln, .slice x.da x.zs.length x.dc, .slice x.ka x.ks.length x.kc] 35)).cell? ⟨wr.heap.size, 3, none⟩ = some (.int .u16 x.ln) := cell_of_row2 hN 3 rfl
     have u4 : (wr.alloc (.cells #[.int .u32 x.fid, .int .u8 x.k, .int .u16 x.md, .int .u16 x.ln, .slice x.da x.zs.length x.dc, .slice x.ka x.ks.length x.kc] 35)).cell? ⟨wr.heap.size, 4, none⟩ = some (.slice x.da x.zs.length x.dc) := cell_of_row2 hN 4 rfl
     have u5 : (wr.alloc (.cells #[.int .u32 x.fid, .int .u8 x.k, .int .u16 x.md, .int .u16 x.ln, .slice x.da x.zs.length x.dc, .slice x.ka x.ks.length x.kc] 35)).cell? ⟨wr.heap.size, 5, none⟩ = some (.slice x.ka x.ks.length x.kc) := cell_of_row2 hN 5 rfl
     have U3 := hid (UX.out.later b3)
     have B3 := hid (BX.out.trans (b3.mono BX.out.size))
     have I3 := hid (IX.out.later b3)
     have HW := hid (HX.out _ (B1.out.trans (B3.out.mono B1.out.size)))
     have hfl := FL.out m
     clear hN b3 c0 c1 c2 c3 c4 c5
     generalize wr.alloc (.cells #[.int .u32 x.fid, .int .u8 x.k, .int .u16 x.md, .int .u16 x.ln, .slice x.da x.zs.length x.dc, .slice x.ka x.ks.length x.kc] 35) = V at *
     go_wp2_with (first
       | (go_at_call 38; refine (WS.out _ rfl).mono ?_; rintro _ w5 ⟨rfl, hu5, hb5⟩; have U5 := hid hu5.is; have B5 := hid (B4.out.trans hb5); have I5 := hid (I4.out _ hb5); clear hu5 hb5)
       | (go_at_call 33; refine HW.out.mono ?_; rintro _ w4 ⟨rfl, hb4⟩; have B4 := hid (B3.out.trans (hb4.mono B3.out.size)); have I4 : Hid (∀ W, Below w1.heap.size w4 W → IsNs W (some ⟨b', off, none⟩) L) := hid (fun W hW => LAT.out W (B4.out.trans hW)); have WS : Hid (∀ s : ByteArray, s.data.toList = LN x ++ [10] → _) := hid (fun s hs => ws_c (U3.out.later hb4) s (by have e1 : s.data.toList.length = s.size := rfl; rw [hs, List.length_append, List.length_singleton] at e1; omega) B4.out.size); clear hb4))
     go_roundg (gk - 1)
     case measure => omega
     case rel => exact ⟨m + 1, by omega, by go_num, hid (by rw [TF.out, FE.out]; exact U5.out), B5, I5⟩
   · have hge : ¬ (m : Int) < L.length := by omega
     have em : (L.take m).flatMap F = L.flatMap F := by rw [List.take_of_length_le (by omega)]
     have BS := hid (bs_c UX.out BX.out.size)
     rw [em] at BS
     clear em
     go_wp2_with (go_at_call 27; refine BS.out.mono ?_; rintro _ w3 ⟨rfl, hb3⟩; have B3 := hid (BX.out.trans hb3); clear hb3)
     refine bodyPost_ret (v := .tuple #[.string ⟨(L.flatMap F).toArray⟩, .int .i64 0]) (by simp [results, Tryd.results17, go_sem]) rfl ⟨rfl, B1.out.trans (B3.out.mono B1.out.size)⟩
theorem nw_kids {f : Int} {p : Addr} {x : Nd} (h : N0 [nwNd] f = some (p, x)) : x = nwNd := by
 unfold N0 ndF at h
 obtain ⟨i, hi, he⟩ := Option.map_eq_some_iff.1 h
 simp only [Prod.mk.injEq] at he
 have h1 : i = 0 := by
   have : plTo [nwNd] 1 f = some i := hi
   unfold plTo at this
   simp only [updF] at this
   split at this
   · cases this; rfl
   · cases this
 rw [← he.2, h1]
 rfl
theorem nw_right : RightP [nwNd] := by
 refine ⟨by decide, rfl, rfl, fun x hx => ?_, rfl, ?_⟩
 · rw [List.mem_singleton] at hx
   subst hx
   exact ⟨rfl, rfl⟩
 · rintro ⟨G, ks, f, p, h1, h2, h3, h4, h5⟩
   obtain ⟨q, x, i, e1, e2, _⟩ := (h3 p f).1 h4
   rw [nw_kids e1] at e2
   exact absurd e2 (Nat.not_lt_zero _)
def nwLine : List UInt8 := [49, 32, 100, 105, 114, 32, 48, 32, 48, 32, 45]
theorem dec0 : decB 0 = ⟨#[48]⟩ := by unfold decB; rw [Lib.decDigits_one (by omega)]; rfl
theorem dec1 : decB 1 = ⟨#[49]⟩ := by unfold decB; rw [Lib.decDigits_one (by omega)]; rfl
theorem nwLine_c (w : World) : Calls Tryd.prog 33 #[nwNd.val] w fun e w' => e = .returned (.string ⟨nwLine.toArray⟩) ∧ Below w.heap.size w w' :=
 line_c 1 2 0 0 none none 0 0 0 0 w ⟨#[49]⟩ ⟨#[100, 105, 114]⟩ ⟨#[48]⟩ ⟨#[48]⟩ ⟨#[45]⟩ (by decide)
   (hid (fun W _ => (digS_c 1 (by omega) W).mono fun e w' ⟨h1, h2⟩ => ⟨by rw [h1, dec1], by rw [h2]; exact Below.refl _ _⟩))
   (hid (fun W _ => (word_c 2 W).mono fun e w' ⟨h1, h2⟩ => ⟨h1, by rw [h2]; exact Below.refl _ _⟩))
   (hid (fun W _ => (digS_c 0 (by omega) W).mono fun e w' ⟨h1, h2⟩ => ⟨by rw [h1, dec0], by rw [h2]; exact Below.refl _ _⟩))
   (hid (fun W _ => (digS_c 0 (by omega) W).mono fun e w' ⟨h1, h2⟩ => ⟨by rw [h1, dec0], by rw [h2]; exact Below.refl _ _⟩))
   (hid (fun W _ => inside0_c 1 0 0 none none 0 0 0 W)) (by omega) (by omega)
set_option maxHeartbeats 1000000 in
theorem nwTree_c (w : World) : Calls Tryd.prog 29 #[] w fun e w' => ∃ a c, e = .returned (.slice a 1 c) ∧ IsNs w' a [nwNd] ∧ Below w.heap.size w w' := by
 have b1 := below_1 w (.cells #[.int .u32 1, .int .u8 2, .int .u16 0, .int .u16 0, .slice none 0 0, .slice none 0 0] 35)
 have h1 := heap_alloc_new w (.cells #[.int .u32 1, .int .u8 2, .int .u16 0, .int .u16 0, .slice none 0 0, .slice none 0 0] 35)
 have B1 := hid b1
 have H1 := hid h1
 clear b1 h1
 go_enter Tryd.func29, Tryd.ntmps29
 go_wp2
 go_ret
 refine ⟨_, _, rfl, ⟨by show 1 ≤ maxLen; unfold maxLen; omega, fun x hx => ?_, fun _ => ⟨_, 0, rfl, fun i hi => ?_⟩⟩, B1.out⟩
 · rw [List.mem_singleton] at hx
   subst hx
   exact ⟨⟨by decide, by decide⟩, ⟨by decide, by decide⟩, ⟨by decide, by decide⟩, ⟨by decide, by decide⟩, ⟨rfl, by show 0 ≤ maxLen; unfold maxLen; omega, fun h => absurd h (by decide), fun i => by simp [nwNd]⟩, ⟨by show 0 ≤ maxLen; unfold maxLen; omega, (fun x hx => by cases hx), fun h => absurd h (by decide)⟩⟩
 · have e : i = 0 := by simp at hi; omega
   subst e
   intro j v hv
   rw [Nat.zero_add, cell_of_row _ _ _ _ _ _ H1.out, ← Array.getElem?_toList]
   exact hv
set_option maxHeartbeats 2000000 in
theorem tlive_c (w : World) : Calls Tryd.prog 11 #[] w fun e w' => e = .returned (.bool true) ∧ Below w.heap.size w w' := by
 have NC := hid (nwTree_c w)
 have UQ := hid (fun W => unquote_c ⟨#[34, 97, 92, 48, 97, 34]⟩ W (by decide))
 have QT := hid (fun W => quote_c ⟨#[34]⟩ W (by decide))
 have e1 : unqL (⟨#[34, 97, 92, 48, 97, 34]⟩ : ByteArray).data.toList = some [97, 10] := by kernel_rfl
 have e2 : quoteL (⟨#[34]⟩ : ByteArray).data.toList = [34, 92, 50, 50, 34] := by kernel_rfl
 rw [e1] at UQ
 rw [e2] at QT
 unfold UqP at UQ
 clear e1 e2
 go_enter Tryd.func11, Tryd.ntmps11
 go_wp2_with (first
   | (go_at_call 12; refine (QT.out _).mono ?_; rintro _ w4 ⟨rfl, hb4⟩; have B4 := hid (B3.out.trans (hb4.mono B3.out.size)); clear hb4)
   | (go_at_call 9; refine (UQ.out _).mono ?_; rintro _ w3 ⟨rfl, hb3⟩; have B3 := hid (B2.out.trans (hb3.mono B2.out.size)); clear hb3)
   | (go_at_call 17; refine TC.out.mono ?_; rintro _ w2 ⟨rfl, hb2⟩; have B2 := hid (B1.out.trans (hb2.mono B1.out.size)); clear hb2 TC)
   | (go_at_call 29; refine NC.out.mono ?_; rintro _ w1 ⟨a1, c1, rfl, hn1, hb1⟩; have B1 := hid hb1; have TC := hid (tree_c c1 hn1 nw_right (fun _ => nwLine) (fun _ _ => by decide) (hid (fun x hx W _ => by rw [List.mem_singleton] at hx; subst hx; exact nwLine_c W))); clear hn1 hb1))
 go_ret
 exact ⟨by first | rfl | simp, B4.out⟩
def few15 (s : ByteArray) : ByteArray := if 9000 < s.size then s.extract 0 9000 else s
theorem few15_size (s : ByteArray) : (few15 s).size ≤ 9000 := by
 unfold few15
 split
 · simp; omega
 · omega
set_option maxHeartbeats 1000000 in
theorem few15_c (s : ByteArray) (w : World) : Calls Tryd.prog 8 #[.string s] w fun e w' => e = .returned (.string (few15 s)) ∧ w' = w := by
 obtain ⟨r, hr⟩ : ∃ r, Hid (r = few15 s) := ⟨_, hid rfl⟩
 rw [← hr.out]
 by_cases h : 9000 < s.size
 · have hI : (9000 : Int) < s.size := by omega
   have hI2 : (9000 : Int) ≤ s.size := by omega
   have RE : Hid (r = s.extract 0 9000) := hid (by rw [hr.out]; unfold few15; rw [if_pos h])
   clear hr
   go_enter Tryd.func8, Tryd.ntmps8
   go_wp2
   go_ret
   exact ⟨by rw [RE.out]; rfl, rfl⟩
 · have hI : ¬ (9000 : Int) < s.size := by omega
   have RE : Hid (r = s) := hid (by rw [hr.out]; unfold few15; rw [if_neg h])
   clear hr
   go_enter Tryd.func8, Tryd.ntmps8
   go_wp2
   go_ret
   exact ⟨by rw [RE.out]; rfl, rfl⟩
theorem app_dT (a b : ByteArray) : (a ++ b).data.toList = a.data.toList ++ b.data.toList := by simp [ByteArray.data_append]
theorem size_l (a : ByteArray) : a.size = a.data.toList.length := rfl
end Go.Proofs.YtkokjkaclcjnjaaDoor
