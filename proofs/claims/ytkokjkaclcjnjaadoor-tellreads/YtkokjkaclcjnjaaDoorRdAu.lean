/-
  Tree of the package tell.
  What must be whatever is asked (live) of the package tell.
  What stands in quotes: plain facts; few of the statements of tell.
  The document's Quote, digit.
-/
import Derived.Test.YtkokjkaclcjnjaaDoorRdAp
namespace Go.Proofs.YtkokjkaclcjnjaaDoor
open Go.RowKit Go.ChangeShapes Go.WideShapes Go.ChangeAt
set_option linter.unusedVariables false
set_option linter.unusedSimpArgs false
set_option maxRecDepth 100000
theorem take_flatN (F : Nd → List UInt8) (L : List Nd) (m : Nat) (h : m < L.length) : (L.take (m + 1)).flatMap F = (L.take m).flatMap F ++ F (L.getD m Nd.no) := by
 rw [List.take_succ_eq_append_getElem h, List.flatMap_append, List.getD, List.getElem?_eq_getElem h]
 simp
theorem flatN_len (F : Nd → List UInt8) (L : List Nd) (hF : ∀ x ∈ L, (F x).length ≤ 100001) : (L.flatMap F).length ≤ L.length * 100001 := by
 induction L with
 | nil => simp
 | cons x t ih =>
   rw [List.flatMap_cons, List.length_append, List.length_cons]
   have h1 := hF x (List.mem_cons_self ..)
   have h2 := ih (fun y hy => hF y (List.mem_cons_of_mem _ hy))
   omega
set_option maxHeartbeats 4000000 in
theorem tree_c {a : Option Addr} {L : List Nd} (cap : Nat) {w : World} (h : IsNs w a L) (hr : RightP L) (LN : Nd → List UInt8) (hz : ∀ x ∈ L, (LN x).length ≤ 100000)
   (HL : Hid (∀ x ∈ L, ∀ W, Below w.heap.size w W → Calls Tryd.prog 33 #[x.val] W fun e w' => e = .returned (.string ⟨(LN x).toArray⟩) ∧ Below W.heap.size W w')) :
   Calls Tryd.prog 17 #[.slice a L.length cap] w fun e w' => e = .returned (.tuple #[.string ⟨(L.flatMap (fun x => LN x ++ [10])).toArray⟩, .int .i64 0]) ∧ Below w.heap.size w w' := by
 have RC := hid (right_c a cap L w h (by have := hr.1; omega))
 have h40 := hr.1
 have HI := hid h
 have HZ := hid hz
 obtain ⟨F, hF⟩ : ∃ F : Nd → List UInt8, F = fun x => LN x ++ [10] := ⟨_, rfl⟩
 have HF := hid hF
 have FL : Hid (∀ m, ((L.take m).flatMap F).length ≤ 5000000) := hid (fun m => by
   have := flatN_len F (L.take m) (fun x hx => by rw [HF.out]; simp only [List.length_append, List.length_singleton]; have := HZ.out x (List.mem_of_mem_take hx); omega)
   have h2 : (L.take m).length ≤ 40 := by rw [List.length_take]; omega
   have h3 : (L.take m).length * 100001 ≤ 40 * 100001 := Nat.mul_le_mul_right _ h2
   omega)
 rw [← hF]
 clear h hz hF
 go_enter Tryd.func17, Tryd.ntmps17
 go_upto_region 3 with (go_at_call 37; refine RC.out.mono ?_; rintro _ w1 ⟨b, rfl, hb, hb1⟩; obtain rfl : b = true := hb.2 hr; have B1 := hid hb1; clear hb hb1)
 clear RC hr
 have U0 := hid (IsBd.new w1)
 have b2 := below_1 w1 (.cells #[.pointer none, .slice none 0 0] 51)
 have B2 := hid b2
 have I2 := hid (HI.out.later (B1.out.trans (b2.mono B1.out.size)))
 have LAT : Hid (∀ W, Below w1.heap.size w1 W → IsNs W a L) := hid (fun W hW => HI.out.later (B1.out.trans (hW.mono B1.out.size)))
 clear b2
 go_wp2
 go_loopg [12] L.length (fun gk v wr => ∃ m : Nat, m + gk = L.length ∧ v = .int .i64 m ∧ Hid (IsBd wr w1.heap.size w1.heap.size ((L.take m).flatMap F)) ∧ Hid (Below w1.heap.size w1 wr) ∧ Hid (IsNs wr a L))
 case atStart => exact ⟨0, by omega, rfl, U0, B2, I2⟩
 case round =>
   clear U0 B2 I2
   obtain ⟨m, hm, rfl, UX, BX, IX⟩ := hrel
   by_cases hlt : m < L.length
   · have hltI : (m : Int) < L.length := by omega
     obtain ⟨b', off, rfl, hc0⟩ := IX.out.2.2 (by omega)
     have hc := hc0 m hlt
     have hmem := getD_mem L Nd.no hlt
     have TF := hid (take_flatN F L m hlt)
     have HX := hid (HL.out _ hmem)
     have hzx := HZ.out _ hmem
     have FE : Hid (F (L.getD m Nd.no) = LN (L.getD m Nd.no) ++ [10]) := hid (by rw [HF.out])
     clear hc0 hmem
     generalize L.getD m Nd.no = x at *
     obtain ⟨c0, c1, c2, c3, c4, c5⟩ := hc.all
     clear hc
     simp only [Nd.val] at HX
     go_upto_region 7 with fail
     have hN := heap_alloc_new wr (.cells #[.int .u32 x.fid, .int .u8 x.k, .int .u16 x.md, .int .u16 x.ln, .slice x.da x.zs.length x.dc, .slice x.ka x.ks.length x.kc] 35)
     have b3 := below_1 wr (.cells #[.int .u32 x.fid, .int .u8 x.k, .int .u16 x.md, .int .u16 x.ln, .slice x.da x.zs.length x.dc, .slice x.ka x.ks.length x.kc] 35)
     have u0 : (wr.alloc (.cells #[.int .u32 x.fid, .int .u8 x.k, .int .u16 x.md, .int .u16 x.ln, .slice x.da x.zs.length x.dc, .slice x.ka x.ks.length x.kc] 35)).cell? ⟨wr.heap.size, 0, none⟩ = some (.int .u32 x.fid) := cell_of_row2 hN 0 rfl
     have u1 : (wr.alloc (.cells #[.int .u32 x.fid, .int .u8 x.k, .int .u16 x.md, .int .u16 x.ln, .slice x.da x.zs.length x.dc, .slice x.ka x.ks.length x.kc] 35)).cell? ⟨wr.heap.size, 1, none⟩ = some (.int .u8 x.k) := cell_of_row2 hN 1 rfl
     have u2 : (wr.alloc (.cells #[.int .u32 x.fid, .int .u8 x.k, .int .u16 x.md, .int .u16 x.ln, .slice x.da x.zs.length x.dc, .slice x.ka x.ks.length x.kc] 35)).cell? ⟨wr.heap.size, 2, none⟩ = some (.int .u16 x.md) := cell_of_row2 hN 2 rfl
     have u3 : (wr.alloc (.cells #[.int .u32 x.fid, .int .u8 x.k, .int .u16 x.md, .int .u16 x.ln, .slice x.da x.zs.length x.dc, .slice x.ka x.ks.length x.kc] 35)).cell? ⟨wr.heap.size, 3, none⟩ = some (.int .u16 x.ln) := cell_of_row2 hN 3 rfl
     have u4 : (wr.alloc (.cells #[.int .u32 x.fid, .int .u8 x.k, .int .u16 x.md, .int .u16 x.ln, .slice x.da x.zs.length x.dc, .slice x.ka x.ks.length x.kc] 35)).cell? ⟨wr.heap.size, 4, none⟩ = some (.slice x.da x.zs.length x.dc) := cell_of_row2 hN 4 rfl
     have u5 : (wr.alloc (.cells #[.int .u32 x.fid, .int .u8 x.k, .int .u16 x.md, .int .u16 x.ln, .slice x.da x.zs.length x.dc, .slice x.ka x.ks.length x.kc] 35)).cell? ⟨wr.heap.size, 5, none⟩ = some (.slice x.ka x.ks.length x.kc) := cell_of_row2 hN 5 rfl
     have U3 := hid (UX.out.later b3)
     have B3 := hid (BX.out.trans (b3.mono BX.out.size))
     have I3 := hid (IX.out.later b3)
     have HW := hid (HX.out _ (B1.out.trans (B3.out.mono B1.out.size)))
     have hfl := FL.out m
     clear hN b3 c0 c1 c2 c3 c4 c5
     generalize wr.alloc (.cells #[.int .u32 x.fid, .int .u8 x.k, .int .u16 x.md, .int .u16 x.ln, .slice x.da x.zs.length x.dc, .slice x.ka x.ks.length x.kc] 35) = V at *
     go_wp2_with (first
       | (go_at_call 38; refine (WS.out _ rfl).mono ?_; rintro _ w5 ⟨rfl, hu5, hb5⟩; have U5 := hid hu5.is; have B5 := hid (B4.out.trans hb5); have I5 := hid (I4.out _ hb5); clear hu5 hb5)
       | (go_at_call 33; refine HW.out.mono ?_; rintro _ w4 ⟨rfl, hb4⟩; have B4 := hid (B3.out.trans (hb4.mono B3.out.size)); have I4 : Hid (∀ W, Below w1.heap.size w4 W → IsNs W (some ⟨b', off, none⟩) L) := hid (fun W hW => LAT.out W (B4.out.trans hW)); have WS : Hid (∀ s : ByteArray, s.data.toList = LN x ++ [10] → _) := hid (fun s hs => ws_c (U3.out.later hb4) s (by have e1 : s.data.toList.length = s.size := rfl; rw [hs, List.length_append, List.length_singleton] at e1; omega) B4.out.size); clear hb4))
     go_roundg (gk - 1)
     case measure => omega
     case rel => exact ⟨m + 1, by omega, by go_num, hid (by rw [TF.out, FE.out]; exact U5.out), B5, I5⟩
   · have hge : ¬ (m : Int) < L.length := by omega
     have em : (L.take m).flatMap F = L.flatMap F := by rw [List.take_of_length_le (by omega)]
     have BS := hid (bs_c UX.out BX.out.size)
     rw [em] at BS
     clear em
     go_wp2_with (go_at_call 27; refine BS.out.mono ?_; rintro _ w3 ⟨rfl, hb3⟩; have B3 := hid (BX.out.trans hb3); clear hb3)
     refine bodyPost_ret (v := .tuple #[.string ⟨(L.flatMap F).toArray⟩, .int .i64 0]) (by simp [results, Tryd.results17, go_sem]) rfl ⟨rfl, B1.out.trans (B3.out.mono B1.out.size)⟩
theorem nw_kids {f : Int} {p : Addr} {x : Nd} (h : N0 [nwNd] f = some (p, x)) : x = nwNd := by
 unfold N0 ndF at h
 obtain ⟨i, hi, he⟩ := Option.map_eq_some_iff.1 h
 simp only [Prod.mk.injEq] at he
 have h1 : i = 0 := by
   have : plTo [nwNd] 1 f = some i := hi
   unfold plTo at this
   simp only [updF] at this
   split at this
   · cases this; rfl
   · cases this
 rw [← he.2, h1]
 rfl
theorem nw_right : RightP [nwNd] := by
 refine ⟨by decide, rfl, rfl, fun x hx => ?_, rfl, ?_⟩
 · rw [List.mem_singleton] at hx
   subst hx
   exact ⟨rfl, rfl⟩
 · rintro ⟨G, ks, f, p, h1, h2, h3, h4, h5⟩
   obtain ⟨q, x, i, e1, e2, _⟩ := (h3 p f).1 h4
   rw [nw_kids e1] at e2
   exact absurd e2 (Nat.not_lt_zero _)
def nwLine : List UInt8 := [49, 32, 100, 105, 114, 32, 48, 32, 48, 32, 45]
theorem dec0 : decB 0 = ⟨#[48]⟩ := by unfold decB; rw [Lib.decDigits_one (by omega)]; rfl
theorem dec1 : decB 1 = ⟨#[49]⟩ := by unfold decB; rw [Lib.decDigits_one (by omega)]; rfl
theorem nwLine_c (w : World) : Calls Tryd.prog 33 #[nwNd.val] w fun e w' => e = .returned (.string ⟨nwLine.toArray⟩) ∧ Below w.heap.size w w' :=
 line_c 1 2 0 0 none none 0 0 0 0 w ⟨#[49]⟩ ⟨#[100, 105, 114]⟩ ⟨#[48]⟩ ⟨#[48]⟩ ⟨#[45]⟩ (by decide)
   (hid (fun W _ => (digS_c 1 (by omega) W).mono fun e w' ⟨h1, h2⟩ => ⟨by rw [h1, dec1], by rw [h2]; exact Below.refl _ _⟩))
   (hid (fun W _ => (word_c 2 W).mono fun e w' ⟨h1, h2⟩ => ⟨h1, by rw [h2]; exact Below.refl _ _⟩))
   (hid (fun W _ => (digS_c 0 (by omega) W).mono fun e w' ⟨h1, h2⟩ => ⟨by rw [h1, dec0], by rw [h2]; exact Below.refl _ _⟩))
   (hid (fun W _ => (digS_c 0 (by omega) W).mono fun e w' ⟨h1, h2⟩ => ⟨by rw [h1, dec0], by rw [h2]; exact Below.refl _ _⟩))
   (hid (fun W _ => inside0_c 1 0 0 none none 0 0 0 W)) (by omega) (by omega)
set_option maxHeartbeats 1000000 in
theorem nwTree_c (w : World) : Calls Tryd.prog 29 #[] w fun e w' => ∃ a c, e = .returned (.slice a 1 c) ∧ IsNs w' a [nwNd] ∧ Below w.heap.size w w' := by
 have b1 := below_1 w (.cells #[.int .u32 1, .int .u8 2, .int .u16 0, .int .u16 0, .slice none 0 0, .slice none 0 0] 35)
 have h1 := heap_alloc_new w (.cells #[.int .u32 1, .int .u8 2, .int .u16 0, .int .u16 0, .slice none 0 0, .slice none 0 0] 35)
 have B1 := hid b1
 have H1 := hid h1
 clear b1 h1
 go_enter Tryd.func29, Tryd.ntmps29
 go_wp2
 go_ret
 refine ⟨_, _, rfl, ⟨by show 1 ≤ maxLen; unfold maxLen; omega, fun x hx => ?_, fun _ => ⟨_, 0, rfl, fun i hi => ?_⟩⟩, B1.out⟩
 · rw [List.mem_singleton] at hx
   subst hx
   exact ⟨⟨by decide, by decide⟩, ⟨by decide, by decide⟩, ⟨by decide, by decide⟩, ⟨by decide, by decide⟩, ⟨rfl, by show 0 ≤ maxLen; unfold maxLen; omega, fun h => absurd h (by decide), fun i => by simp [nwNd]⟩, ⟨by show 0 ≤ maxLen; unfold maxLen; omega, (fun x hx => by cases hx), fun h => absurd h (by decide)⟩⟩
 · have e : i = 0 := by simp at hi; omega
   subst e
   intro j v hv
   rw [Nat.zero_add, cell_of_row _ _ _ _ _ _ H1.out, ← Array.getElem?_toList]
   exact hv
set_option maxHeartbeats 2000000 in
theorem tlive_c (w : World) : Calls Tryd.prog 11 #[] w fun e w' => e = .returned (.bool true) ∧ Below w.heap.size w w' := by
 have NC := hid (nwTree_c w)
 have UQ := hid (fun W => unquote_c ⟨#[34, 97, 92, 48, 97, 34]⟩ W (by decide))
 have QT := hid (fun W => quote_c ⟨#[34]⟩ W (by decide))
 have e1 : unqL (⟨#[34, 97, 92, 48, 97, 34]⟩ : ByteArray).data.toList = some [97, 10] := by kernel_rfl
 have e2 : quoteL (⟨#[34]⟩ : ByteArray).data.toList = [34, 92, 50, 50, 34] := by kernel_rfl
 rw [e1] at UQ
 rw [e2] at QT
 unfold UqP at UQ
 clear e1 e2
 go_enter Tryd.func11, Tryd.ntmps11
 go_wp2_with (first
   | (go_at_call 12; refine (QT.out _).mono ?_; rintro _ w4 ⟨rfl, hb4⟩; have B4 := hid (B3.out.trans (hb4.mono B3.out.size)); clear hb4)
   | (go_at_call 9; refine (UQ.out _).mono ?_; rintro _ w3 ⟨rfl, hb3⟩; have B3 := hid (B2.out.trans (hb3.mono B2.out.size)); clear hb3)
   | (go_at_call 17; refine TC.out.mono ?_; rintro _ w2 ⟨rfl, hb2⟩; have B2 := hid (B1.out.trans (hb2.mono B1.out.size)); clear hb2 TC)
   | (go_at_call 29; refine NC.out.mono ?_; rintro _ w1 ⟨a1, c1, rfl, hn1, hb1⟩; have B1 := hid hb1; have TC := hid (tree_c c1 hn1 nw_right (fun _ => nwLine) (fun _ _ => by decide) (hid (fun x hx W _ => by rw [List.mem_singleton] at hx; subst hx; exact nwLine_c W))); clear hn1 hb1))
 go_ret
 exact ⟨by first | rfl | simp, B4.out⟩
def few15 (s : ByteArray) : ByteArray := if 9000 < s.size then s.extract 0 9000 else s
theorem few15_size (s : ByteArray) : (few15 s).size ≤ 9000 := by
 unfold few15
 split
 · simp; omega
 · omega
set_option maxHeartbeats 1000000 in
theorem few15_c (s : ByteArray) (w : World) : Calls Tryd.prog 8 #[.string s] w fun e w' => e = .returned (.string (few15 s)) ∧ w' = w := by
 obtain ⟨r, hr⟩ : ∃ r, Hid (r = few15 s) := ⟨_, hid rfl⟩
 rw [← hr.out]
 by_cases h : 9000 < s.size
 · have hI : (9000 : Int) < s.size := by omega
   have hI2 : (9000 : Int) ≤ s.size := by omega
   have RE : Hid (r = s.extract 0 9000) := hid (by rw [hr.out]; unfold few15; rw [if_pos h])
   clear hr
   go_enter Tryd.func8, Tryd.ntmps8
   go_wp2
   go_ret
   exact ⟨by rw [RE.out]; rfl, rfl⟩
 · have hI : ¬ (9000 : Int) < s.size := by omega
   have RE : Hid (r = s) := hid (by rw [hr.out]; unfold few15; rw [if_neg h])
   clear hr
   go_enter Tryd.func8, Tryd.ntmps8
   go_wp2
   go_ret
   exact ⟨by rw [RE.out]; rfl, rfl⟩
theorem app_dT (a b : ByteArray) : (a ++ b).data.toList = a.data.toList ++ b.data.toList := by simp [ByteArray.data_append]
theorem size_l (a : ByteArray) : a.size = a.data.toList.length := rfl
theorem ba_ext {a b : ByteArray} (h : a.data.toList = b.data.toList) : a = b := by
 obtain ⟨⟨a⟩⟩ := a
 obtain ⟨⟨b⟩⟩ := b
 simp at h
 rw [h]
def hexS : ByteArray := ⟨#[48, 49, 50, 51, 52, 53, 54, 55, 56, 57, 97, 98, 99, 100, 101, 102]⟩
theorem hex_piece : ((List.range 16).all fun n => decide ((hexS.extract n (n + 1)).data.toList = [hx n])) = true := by kernel_rfl
set_option maxHeartbeats 4000000 in
theorem rquote_c (s : ByteArray) (w : World) (hs : s.size ≤ 100000000) :
   Calls Tryd.prog 13 #[.string s] w fun e w' => e = .returned (.string ⟨(quoteL s.data.toList).toArray⟩) ∧ Below w.heap.size w w' := by
 have hsl : s.data.toList.length = s.size := rfl
 obtain ⟨L, hL⟩ : ∃ L, L = s.data.toList := ⟨_, rfl⟩
 have HL := hid hL
 clear hL
 go_enter Tryd.func13, Tryd.ntmps13
 go_wp2
 go_loopg [3, 4] s.size (fun gk v3 v4 wr => ∃ (m : Nat) (o : ByteArray), m + gk = s.size ∧ v4 = .int .i64 m ∧ v3 = .string o ∧ Hid (o.data.toList = 34 :: (L.take m).flatMap qB) ∧ o.size ≤ 400000000 ∧ Hid (Below w.heap.size w wr))
 case atStart => exact ⟨0, ⟨#[34]⟩, by omega, rfl, rfl, hid rfl, by decide, hid (Below.refl _ _)⟩
 case round =>
   obtain ⟨m, o, hm, rfl, rfl, OX, hoz, BX⟩ := hrel
   by_cases hlt : m < s.size
   · have hltI : (m : Int) < s.size := by omega
     have HLs : L.length = s.size := by rw [HL.out]; exact hsl
     have hfl := flat_len (L.take (m + 1))
     have hlt2 : (L.take (m + 1)).length ≤ 100000000 := by rw [List.length_take]; omega
     have hcL : Hid (L[m]'(by omega) = s[m]'hlt) := hid (by have e := HL.out; subst e; rfl)
     have TF := hid (take_flat L m (by omega))
     rw [hcL.out] at TF
     have EX : Hid ((s.extract m (m + 1)).data.toList = [s[m]'hlt]) := hid (by
       rw [Lib.extract_data, ← hcL.out]
       have e := HL.out
       rw [← e, Nat.add_sub_cancel_left, List.drop_eq_getElem_cons (by omega), List.take_succ_cons, List.take_zero])
     have oz2 : o.size ≤ 300000001 := by
       have e1 : o.data.toList.length = o.size := rfl
       rw [OX.out, List.length_cons] at e1
       have := flat_len (L.take m)
       have h3 : (L.take m).length ≤ 100000000 := by rw [List.length_take]; omega
       omega
     have i1 : (m : Int) + 1 ≤ s.size := by omega
     have i2 : (m : Int) ≤ (m : Int) + 1 := by omega
     go_upto_region 6 with fail
     clear hcL hfl hlt2 HLs hoz
     generalize s[m]'hlt = c at *
     have h256 : c.toNat < 256 := c.toNat_lt
     by_cases hp : plnI c.toNat = true
     · have QE : Hid (qB c = [c]) := hid (by unfold qB; rw [if_pos hp])
       unfold plnI at hp
       simp only [Bool.and_eq_true, decide_eq_true_eq, Bool.not_eq_true', beq_eq_false_iff_ne] at hp
       obtain ⟨⟨⟨p1, p2⟩, p3⟩, p4⟩ := hp
       have b3 : ((c.toNat : Int) != 34) = true := by rw [bne_iff_ne]; exact p3
       have b4 : ((c.toNat : Int) != 92) = true := by rw [bne_iff_ne]; exact p4
       clear p3 p4
       go_wp2
       go_roundg (gk - 1)
       case measure => omega
       case rel => exact ⟨m + 1, o ++ s.extract m (m + 1), by omega, by go_num, rfl, hid (by rw [app_dT, OX.out, EX.out, TF.out, QE.out]; rfl), by rw [size_l, app_dT, EX.out, List.length_append, ← size_l, List.length_singleton]; omega, BX⟩
     · have QE : Hid (qB c = [92, hx (c.toNat / 16), hx (c.toNat % 16)]) := hid (by unfold qB; rw [if_neg hp])
       have hp' : plnI c.toNat = false := by simpa using hp
       obtain ⟨k1, hk1, ek1, ek1'⟩ : ∃ k : Nat, k < 16 ∧ (c.toNat : Int) / 16 = (k : Int) ∧ c.toNat / 16 = k := ⟨c.toNat / 16, by omega, by omega, rfl⟩
       obtain ⟨k2, hk2, ek2, ek2'⟩ : ∃ k : Nat, k < 16 ∧ (c.toNat : Int) % 16 = (k : Int) ∧ c.toNat % 16 = k := ⟨c.toNat % 16, by omega, by omega, rfl⟩
       rw [ek1', ek2'] at QE
       have j1 : (k1 : Int) ≤ (k1 : Int) + 1 := by omega
       have j2 : (k1 : Int) + 1 ≤ 16 := by omega
       have j3 : (k2 : Int) ≤ (k2 : Int) + 1 := by omega
       have j4 : (k2 : Int) + 1 ≤ 16 := by omega
       have X1 : Hid ((hexS.extract k1 (k1 + 1)).data.toList = [hx k1]) := hid (by have := List.all_eq_true.1 hex_piece k1 (List.mem_range.2 hk1); simpa using this)
       have X2 : Hid ((hexS.extract k2 (k2 + 1)).data.toList = [hx k2]) := hid (by have := List.all_eq_true.1 hex_piece k2 (List.mem_range.2 hk2); simpa using this)
       have HN : Hid (∀ nq, Below w.heap.size w (wr.drewN nq)) := hid (fun nq => ⟨BX.out.os, BX.out.tape, BX.out.output, BX.out.size, BX.out.block⟩)
       have hc4 : (c.toNat : Int) < 32 ∨ (32 ≤ (c.toNat : Int) ∧ 126 < (c.toNat : Int)) ∨ (32 ≤ (c.toNat : Int) ∧ (c.toNat : Int) ≤ 126 ∧ ((c.toNat : Int) != 34) = false) ∨ (32 ≤ (c.toNat : Int) ∧ (c.toNat : Int) ≤ 126 ∧ ((c.toNat : Int) != 34) = true ∧ ((c.toNat : Int) != 92) = false) := by
         unfold plnI at hp'
         by_cases q1 : (c.toNat : Int) < 32
         · exact .inl q1
         by_cases q2 : 126 < (c.toNat : Int)
         · exact .inr (.inl ⟨by omega, q2⟩)
         by_cases q3 : (c.toNat : Int) = 34
         · exact .inr (.inr (.inl ⟨by omega, by omega, by rw [q3]; rfl⟩))
         by_cases q4 : (c.toNat : Int) = 92
         · exact .inr (.inr (.inr ⟨by omega, by omega, by rw [bne_iff_ne]; exact q3, by rw [q4]; rfl⟩))
         · exact absurd hp' (by simp [q3, q4]; omega)
       clear hp hp' ek1' ek2'
       rcases hc4 with d1 | ⟨d1, d2⟩ | ⟨d1, d2, d3⟩ | ⟨d1, d2, d3, d4⟩
       · skip
         go_upto_region 8 with fail
         go_wp2_with fail
         go_quiet (fail)
         have HB := hid (HN.out nq)
         generalize wr.drewN nq = W at *
         have NX : Hid ((o ++ (⟨#[92]⟩ ++ (⟨#[48, 49, 50, 51, 52, 53, 54, 55, 56, 57, 97, 98, 99, 100, 101, 102]⟩ : ByteArray).extract k1 (k1 + 1) ++ (⟨#[48, 49, 50, 51, 52, 53, 54, 55, 56, 57, 97, 98, 99, 100, 101, 102]⟩ : ByteArray).extract k2 (k2 + 1))).data.toList = o.data.toList ++ [92, hx k1, hx k2]) := hid (by
           have x1 := X1.out
           have x2 := X2.out
           unfold hexS at x1 x2
           rw [app_dT, app_dT, app_dT, x1, x2]
           rfl)
         go_wp2
         go_roundg (gk - 1)
         case measure => omega
         case rel => exact ⟨m + 1, _, by omega, by go_num, rfl, hid (by rw [NX.out, OX.out, TF.out, QE.out]; rfl), by rw [size_l, NX.out, List.length_append, ← size_l]; show o.size + 3 ≤ _; omega, HB⟩
       · skip
         go_upto_region 8 with fail
         go_wp2_with fail
         go_quiet (fail)
         have HB := hid (HN.out nq)
         generalize wr.drewN nq = W at *
         have NX : Hid ((o ++ (⟨#[92]⟩ ++ (⟨#[48, 49, 50, 51, 52, 53, 54, 55, 56, 57, 97, 98, 99, 100, 101, 102]⟩ : ByteArray).extract k1 (k1 + 1) ++ (⟨#[48, 49, 50, 51, 52, 53, 54, 55, 56, 57, 97, 98, 99, 100, 101, 102]⟩ : ByteArray).extract k2 (k2 + 1))).data.toList = o.data.toList ++ [92, hx k1, hx k2]) := hid (by
           have x1 := X1.out
           have x2 := X2.out
           unfold hexS at x1 x2
           rw [app_dT, app_dT, app_dT, x1, x2]
           rfl)
         go_wp2
         go_roundg (gk - 1)
         case measure => omega
         case rel => exact ⟨m + 1, _, by omega, by go_num, rfl, hid (by rw [NX.out, OX.out, TF.out, QE.out]; rfl), by rw [size_l, NX.out, List.length_append, ← size_l]; show o.size + 3 ≤ _; omega, HB⟩
       · skip
         go_upto_region 8 with fail
         go_wp2_with fail
         go_quiet (fail)
         have HB := hid (HN.out nq)
         generalize wr.drewN nq = W at *
         have NX : Hid ((o ++ (⟨#[92]⟩ ++ (⟨#[48, 49, 50, 51, 52, 53, 54, 55, 56, 57, 97, 98, 99, 100, 101, 102]⟩ : ByteArray).extract k1 (k1 + 1) ++ (⟨#[48, 49, 50, 51, 52, 53, 54, 55, 56, 57, 97, 98, 99, 100, 101, 102]⟩ : ByteArray).extract k2 (k2 + 1))).data.toList = o.data.toList ++ [92, hx k1, hx k2]) := hid (by
           have x1 := X1.out
           have x2 := X2.out
           unfold hexS at x1 x2
           rw [app_dT, app_dT, app_dT, x1, x2]
           rfl)
         go_wp2
         go_roundg (gk - 1)
         case measure => omega
         case rel => exact ⟨m + 1, _, by omega, by go_num, rfl, hid (by rw [NX.out, OX.out, TF.out, QE.out]; rfl), by rw [size_l, NX.out, List.length_append, ← size_l]; show o.size + 3 ≤ _; omega, HB⟩
       · skip
         go_upto_region 8 with fail
         go_wp2_with fail
         go_quiet (fail)
         have HB := hid (HN.out nq)
         generalize wr.drewN nq = W at *
         have NX : Hid ((o ++ (⟨#[92]⟩ ++ (⟨#[48, 49, 50, 51, 52, 53, 54, 55, 56, 57, 97, 98, 99, 100, 101, 102]⟩ : ByteArray).extract k1 (k1 + 1) ++ (⟨#[48, 49, 50, 51, 52, 53, 54, 55, 56, 57, 97, 98, 99, 100, 101, 102]⟩ : ByteArray).extract k2 (k2 + 1))).data.toList = o.data.toList ++ [92, hx k1, hx k2]) := hid (by
           have x1 := X1.out
           have x2 := X2.out
           unfold hexS at x1 x2
           rw [app_dT, app_dT, app_dT, x1, x2]
           rfl)
         go_wp2
         go_roundg (gk - 1)
         case measure => omega
         case rel => exact ⟨m + 1, _, by omega, by go_num, rfl, hid (by rw [NX.out, OX.out, TF.out, QE.out]; rfl), by rw [size_l, NX.out, List.length_append, ← size_l]; show o.size + 3 ≤ _; omega, HB⟩
   · have hge : ¬ (m : Int) < s.size := by omega
     have em : m = s.size := by omega
     have HLs : L.length = s.size := by rw [HL.out]; exact hsl
     have QE : Hid ((o ++ ⟨#[34]⟩ : ByteArray) = ⟨(quoteL s.data.toList).toArray⟩) := hid (ba_ext (by rw [app_dT, OX.out, List.take_of_length_le (by omega), HL.out]; rfl))
     go_wp2
     go_ret
     exact ⟨by rw [← QE.out]; rfl, BX.out⟩
def digI (c : UInt8) : Int := if hexI c < 0 then 16 else hexI c
theorem hexI_at {c : UInt8} {m : Nat} (h : m < 16) (hb : ∀ j, j < m → hx j ≠ c) (he : hx m = c) : hexI c = m := by
 have key : ∀ (l : List UInt8) (m : Nat), m < l.length → (∀ j, j < m → l.getD j 0 ≠ c) → l.getD m 0 = c → Lib.indexByte l c = m := fun l => by
   induction l with
   | nil => intro m h; simp at h
   | cons b t ih =>
     intro m h hb he
     unfold Lib.indexByte
     cases m with
     | zero =>
       have : b = c := by simpa using he
       rw [if_pos (by simp [this])]
       rfl
     | succ m =>
       have h0 : b ≠ c := by simpa using hb 0 (by omega)
       rw [if_neg (by simpa using h0)]
       have := ih m (by simpa using h) (fun j hj => by have := hb (j + 1) (by omega); simpa using this) (by simpa using he)
       rw [this]
       rw [if_neg (by first | (simp; done) | (simp; omega))]
       omega
 exact key hexL m h hb he
theorem hexI_none {c : UInt8} (hb : ∀ j, j < 16 → hx j ≠ c) : hexI c < 0 := by
 have key : ∀ l : List UInt8, (∀ j, j < l.length → l.getD j 0 ≠ c) → Lib.indexByte l c = -1 := fun l => by
   induction l with
   | nil => intro _; rfl
   | cons b t ih =>
     intro hb
     unfold Lib.indexByte
     have h0 : b ≠ c := by simpa using hb 0 (by simp)
     rw [if_neg (by simpa using h0), ih (fun j hj => by have := hb (j + 1) (by simpa using hj); simpa using this)]
     rfl
 have : hexI c = -1 := key hexL hb
 omega
theorem lt_snoc {P : Nat → Prop} {m : Nat} (h : ∀ j, j < m → P j) (hm : P m) : ∀ j, j < m + 1 → P j := fun j hj => by
 rcases Nat.lt_or_ge j m with q | q
 · exact h j q
 · have : j = m := by omega
   rw [this]
   exact hm
theorem hexS_at (m : Nat) (h : m < hexS.size) : hexS[m]'h = hx m := by
 rw [get_l]
 rfl
set_option maxHeartbeats 4000000 in
theorem digit_c (c : UInt8) (w : World) : Calls Tryd.prog 28 #[.int .u8 (c.toNat : Int)] w fun e w' => e = .returned (.int .i64 (digI c)) ∧ w' = w := by
 obtain ⟨r, hr⟩ : ∃ r, Hid (r = digI c) := ⟨_, hid rfl⟩
 rw [← hr.out]
 go_enter Tryd.func28, Tryd.ntmps28
 go_wp2
 go_loopg [3] 16 (fun gk v wr => ∃ m : Nat, m + gk = 16 ∧ v = .int .i64 m ∧ Hid (∀ j, j < m → hx j ≠ c) ∧ Hid (wr = w))
 case atStart => exact ⟨0, by omega, rfl, hid (fun j h => absurd h (by omega)), hid rfl⟩
 case round =>
   obtain ⟨m, hm, rfl, HJ, HW⟩ := hrel
   have hwr := HW.out.symm
   subst hwr
   by_cases hlt : m < 16
   · have hltI : (m : Int) < 16 := by omega
     have e1 : (⟨#[48, 49, 50, 51, 52, 53, 54, 55, 56, 57, 97, 98, 99, 100, 101, 102]⟩ : ByteArray)[m]'(by exact hlt) = hx m := hexS_at m hlt
     by_cases hc : hx m = c
     · have p3 : (((hx m).toNat : Int) == (c.toNat : Int)) = true := by rw [hc]; simp
       have RE : Hid (r = m) := hid (by rw [hr.out]; unfold digI; rw [hexI_at hlt HJ.out hc, if_neg (by omega)])
       go_wp2
       go_ret
       exact ⟨by rw [RE.out]; rfl, rfl⟩
     · have p3 : (((hx m).toNat : Int) == (c.toNat : Int)) = false := by
         rw [beq_eq_false_iff_ne]
         intro e
         exact hc (UInt8.toNat_inj.1 (by omega))
       go_wp2
       go_roundg (gk - 1)
       case measure => omega
       case rel => exact ⟨m + 1, by omega, by go_num, hid (lt_snoc HJ.out hc), hid rfl⟩
   · have hge : ¬ (m : Int) < 16 := by omega
     have em : m = 16 := by omega
     have RE : Hid (r = 16) := hid (by rw [hr.out]; unfold digI; rw [if_pos (hexI_none (fun j hj => HJ.out j (by omega)))])
     go_wp2
     go_ret
     exact ⟨by rw [RE.out]; rfl, rfl⟩
end Go.Proofs.YtkokjkaclcjnjaaDoor
