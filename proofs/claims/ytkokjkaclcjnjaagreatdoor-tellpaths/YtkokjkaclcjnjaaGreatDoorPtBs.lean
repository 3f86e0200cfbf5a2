/-
  Tree of the package tell.
  A right node is small, at a seat without the package record.
  The package tell: Paths.
-/
import Derived.Test.YtkokjkaclcjnjaaGreatDoorPtBr
import Derived.Test.YtkokjkaclcjnjaaGreatDoorPtBe
import Derived.Test.YtkokjkaclcjnjaaGreatDoorPtBq
namespace Go.Proofs.YtkokjkaclcjnjaaGreatDoor
open Go.RowKit Go.ChangeShapes Go.WideShapes Go.ChangeAt
set_option linter.unusedVariables false
set_option linter.unusedSimpArgs false
set_option maxRecDepth 100000
theorem take_flatN (F : Nd → List UInt8) (L : List Nd) (m : Nat) (h : m < L.length) : (L.take (m + 1)).flatMap F = (L.take m).flatMap F ++ F (L.getD m Nd.no) := by
 rw [List.take_succ_eq_append_getElem h, List.flatMap_append, List.getD, List.getElem?_eq_getElem h]
 simp
theorem flatN_len (F : Nd → List UInt8) (L : List Nd) (hF : ∀ x ∈ L, (F x).length ≤ 100001) : (L.flatMap F).length ≤ L.length * 100001 := by
 induction L with
 | nil => simp
 | cons x t ih =>
   rw [List.flatMap_cons, List.length_append, List.length_cons]
   have h1 := hF x (List.mem_cons_self ..)
   have h2 := ih (fun y hy => hF y (List.mem_cons_of_mem _ hy))
   omega
set_option maxHeartbeats 4000000 in
theorem tree_c {a : Option Addr} {L : List Nd} (cap : Nat) {w : World} (h : IsNs w a L) (hr : RightP L) (LN : Nd → List UInt8) (hz : ∀ x ∈ L, (LN x).length ≤ 100000)
   (HL : Hid (∀ x ∈ L, ∀ W, Below w.heap.size w W → Calls Tryz.prog 38 #[x.val] W fun e w' => e = .returned (.string ⟨(LN x).toArray⟩) ∧ Below W.heap.size W w')) :
   Calls Tryz.prog 18 #[.slice a L.length cap] w fun e w' => e = .returned (.tuple #[.string ⟨(L.flatMap (fun x => LN x ++ [10])).toArray⟩, .int .i64 0]) ∧ Below w.heap.size w w' := by
 have RC := hid (right_c a cap L w h (by have := hr.1; omega))
 have h40 := hr.1
 have HI := hid h
 have HZ := hid hz
 obtain ⟨F, hF⟩ : ∃ F : Nd → List UInt8, F = fun x => LN x ++ [10] := ⟨_, rfl⟩
 have HF := hid hF
 have FL : Hid (∀ m, ((L.take m).flatMap F).length ≤ 5000000) := hid (fun m => by
   have := flatN_len F (L.take m) (fun x hx => by rw [HF.out]; simp only [List.length_append, List.length_singleton]; have := HZ.out x (List.mem_of_mem_take hx); omega)
   have h2 : (L.take m).length ≤ 40 := by rw [List.length_take]; omega
   have h3 : (L.take m).length * 100001 ≤ 40 * 100001 := Nat.mul_le_mul_right _ h2
   omega)
 rw [← hF]
 clear h hz hF
 go_enter Tryz.func18, Tryz.ntmps18
 go_upto_region 3 with (go_at_call 13; refine RC.out.mono ?_; rintro _ w1 ⟨b, rfl, hb, hb1⟩; obtain rfl : b = true := hb.2 hr; have B1 := hid hb1; clear hb hb1)
 clear RC hr
 have U0 := hid (IsBd.new w1)
 have b2 := below_1 w1 (.cells #[.pointer none, .slice none 0 0] 79)
 have B2 := hid b2
 have I2 := hid (HI.out.later (B1.out.trans (b2.mono B1.out.size)))
 have LAT : Hid (∀ W, Below w1.heap.size w1 W → IsNs W a L) := hid (fun W hW => HI.out.later (B1.out.trans (hW.mono B1.out.size)))
 clear b2
 go_wp2
 go_loopg [12] L.length (fun gk v wr => ∃ m : Nat, m + gk = L.length ∧ v = .int .i64 m ∧ Hid (IsBd wr w1.heap.size w1.heap.size ((L.take m).flatMap F)) ∧ Hid (Below w1.heap.size w1 wr) ∧ Hid (IsNs wr a L))
 case atStart => exact ⟨0, by omega, rfl, U0, B2, I2⟩
 case round =>
   clear U0 B2 I2
   obtain ⟨m, hm, rfl, UX, BX, IX⟩ := hrel
   by_cases hlt : m < L.length
   · have hltI : (m : Int) < L.length := by omega
     obtain ⟨b', off, rfl, hc0⟩ := IX.out.2.2 (by omega)
     have hc := hc0 m hlt
     have hmem := getD_mem L Nd.no hlt
     have TF := hid (take_flatN F L m hlt)
     have HX := hid (HL.out _ hmem)
     have hzx := HZ.out _ hmem
     have FE : Hid (F (L.getD m Nd.no) = LN (L.getD m Nd.no) ++ [10]) := hid (by rw [HF.out])
     clear hc0 hmem
     generalize L.getD m Nd.no = x at *
     obtain ⟨c0, c1, c2, c3, c4, c5⟩ := hc.all
     clear hc
     simp only [Nd.val] at HX
     go_upto_region 7 with fail
     have hN := heap_alloc_new wr (.cells #[.int .u32 x.fid, .int .u8 x.k, .int .u16 x.md, .int .u16 x.ln, .slice x.da x.zs.length x.dc, .slice x.ka x.ks.length x.kc] 37)
     have b3 := below_1 wr (.cells #[.int .u32 x.fid, .int .u8 x.k, .int .u16 x.md, .int .u16 x.ln, .slice x.da x.zs.length x.dc, .slice x.ka x.ks.length x.kc] 37)
     have u0 : (wr.alloc (.cells #[.int .u32 x.fid, .int .u8 x.k, .int .u16 x.md, .int .u16 x.ln, .slice x.da x.zs.length x.dc, .slice x.ka x.ks.length x.kc] 37)).cell? ⟨wr.heap.size, 0, none⟩ = some (.int .u32 x.fid) := cell_of_row2 hN 0 rfl
     have u1 : (wr.alloc (.cells #[.int .u32 x.fid, .int .u8 x.k, .int .u16 x.md, .int .u16 x.ln, .slice x.da x.zs.length x.dc, .slice x.ka x.ks.length x.kc] 37)).cell? ⟨wr.heap.size, 1, none⟩ = some (.int .u8 x.k) := cell_of_row2 hN 1 rfl
     have u2 : (wr.alloc (.cells #[.int .u32 x.fid, .int .u8 x.k, .int .u16 x.md, .int .u16 x.ln, .slice x.da x.zs.length x.dc, .slice x.ka x.ks.length x.kc] 37)).cell? ⟨wr.heap.size, 2, none⟩ = some (.int .u16 x.md) := cell_of_row2 hN 2 rfl
     have u3 : (wr.alloc (.cells #[.int .u32 x.fid, .int .u8 x.k, .int .u16 x.md, .int .u16 x.ln, .slice x.da x.zs.length x.dc, .slice x.ka x.ks.length x.kc] 37)).cell? ⟨wr.heap.size, 3, none⟩ = some (.int .u16 x.ln) := cell_of_row2 hN 3 rfl
     have u4 : (wr.alloc (.cells #[.int .u32 x.fid, .int .u8 x.k, .int .u16 x.md, .int .u16 x.ln, .slice x.da x.zs.length x.dc, .slice x.ka x.ks.length x.kc] 37)).cell? ⟨wr.heap.size, 4, none⟩ = some (.slice x.da x.zs.length x.dc) := cell_of_row2 hN 4 rfl
     have u5 : (wr.alloc (.cells #[.int .u32 x.fid, .int .u8 x.k, .int .u16 x.md, .int .u16 x.ln, .slice x.da x.zs.length x.dc, .slice x.ka x.ks.length x.kc] 37)).cell? ⟨wr.heap.size, 5, none⟩ = some (.slice x.ka x.ks.length x.kc) := cell_of_row2 hN 5 rfl
     have U3 := hid (UX.out.later b3)
     have B3 := hid (BX.out.trans (b3.mono BX.out.size))
     have I3 := hid (IX.out.later b3)
     have HW := hid (HX.out _ (B1.out.trans (B3.out.mono B1.out.size)))
     have hfl := FL.out m
     clear hN b3 c0 c1 c2 c3 c4 c5
     generalize wr.alloc (.cells #[.int .u32 x.fid, .int .u8 x.k, .int .u16 x.md, .int .u16 x.ln, .slice x.da x.zs.length x.dc, .slice x.ka x.ks.length x.kc] 37) = V at *
     go_wp2_with (first
       | (go_at_call 37; refine (WS.out _ rfl).mono ?_; rintro _ w5 ⟨rfl, hu5, hb5⟩; have U5 := hid hu5.is; have B5 := hid (B4.out.trans hb5); have I5 := hid (I4.out _ hb5); clear hu5 hb5)
       | (go_at_call 38; refine HW.out.mono ?_; rintro _ w4 ⟨rfl, hb4⟩; have B4 := hid (B3.out.trans (hb4.mono B3.out.size)); have I4 : Hid (∀ W, Below w1.heap.size w4 W → IsNs W (some ⟨b', off, none⟩) L) := hid (fun W hW => LAT.out W (B4.out.trans hW)); have WS : Hid (∀ s : ByteArray, s.data.toList = LN x ++ [10] → _) := hid (fun s hs => ws_c (U3.out.later hb4) s (by have e1 : s.data.toList.length = s.size := rfl; rw [hs, List.length_append, List.length_singleton] at e1; omega) B4.out.size); clear hb4))
     go_roundg (gk - 1)
     case measure => omega
     case rel => exact ⟨m + 1, by omega, by go_num, hid (by rw [TF.out, FE.out]; exact U5.out), B5, I5⟩
   · have hge : ¬ (m : Int) < L.length := by omega
     have em : (L.take m).flatMap F = L.flatMap F := by rw [List.take_of_length_le (by omega)]
     have BS := hid (bs_c UX.out BX.out.size)
     rw [em] at BS
     clear em
     go_wp2_with (go_at_call 39; refine BS.out.mono ?_; rintro _ w3 ⟨rfl, hb3⟩; have B3 := hid (BX.out.trans hb3); clear hb3)
     refine bodyPost_ret (v := .tuple #[.string ⟨(L.flatMap F).toArray⟩, .int .i64 0]) (by simp [results, Tryz.results18, go_sem]) rfl ⟨rfl, B1.out.trans (B3.out.mono B1.out.size)⟩
end Go.Proofs.YtkokjkaclcjnjaaGreatDoor
namespace Go.Proofs.YtkokjkaclcjnjaaGreatDoor
open Go.RowKit Go.ChangeShapes Go.WideShapes Go.ChangeAt
set_option linter.unusedVariables false
set_option linter.unusedSimpArgs false
def SmallK (l : List Kd) : Prop := ∀ x ∈ l, x.nm.size ≤ 100
theorem kidsTo_name {l : List Kd} : ∀ m, kidsTo l m = true → ∀ i, i < m → Pa.nameB (l.getD i Kd.no).nm.data.toList = true
 | 0, _, i, hi => by omega
 | m + 1, h, i, hi => by
   simp only [kidsTo, Bool.and_eq_true] at h
   by_cases e : i = m
   · subst e
     have := h.2
     unfold kOk at this
     simp only [Bool.and_eq_true] at this
     exact this.1.1
   · exact kidsTo_name m h.1 i (by omega)
theorem kname_size {s : ByteArray} (h : Pa.nameB s.data.toList = true) : s.size ≤ 12 := by
 by_cases q : 12 < s.size
 · rw [Pa.nameB_long s.data.toList (by show 12 < s.size; exact q)] at h
   cases h
 · omega
theorem node_small {x : Nd} (h : nodeOk x = true) : x.zs.length ≤ 64 ∧ x.ks.length ≤ 12 ∧ SmallK x.ks := by
 unfold nodeOk at h
 simp only [Bool.and_eq_true, Bool.not_eq_true', Bool.or_eq_false_iff, decide_eq_false_iff_not] at h
 obtain ⟨⟨⟨_, h1⟩, h2⟩, h3⟩ := h
 refine ⟨by omega, by omega, fun k hk => ?_⟩
 obtain ⟨i, hi, rfl⟩ := List.getElem_of_mem hk
 have g : x.ks.getD i Kd.no = x.ks[i] := by rw [List.getD, List.getElem?_eq_getElem hi]; rfl
 cases q : (x.k == 1 || x.k == 3) with
 | true =>
   rw [q] at h3
   simp only [cond_true, decide_eq_true_eq] at h3
   omega
 | false =>
   rw [q] at h3
   cases q2 : (x.k == 2) with
   | false => rw [q2] at h3; simp at h3
   | true =>
     rw [q2] at h3
     simp only [cond_false, cond_true, Bool.and_eq_true] at h3
     have := kname_size (kidsTo_name _ h3.2 i hi)
     rw [g] at this
     omega
end Go.Proofs.YtkokjkaclcjnjaaGreatDoor
namespace Go.Proofs.YtkokjkaclcjnjaaGreatDoor
open Go.RowKit Go.ChangeShapes Go.WideShapes Go.ChangeAt Go.Maps Go.Shelf
set_option linter.unusedVariables false
set_option linter.unusedSimpArgs false
set_option maxRecDepth 100000
theorem kidsF_small {L : List Nd} (R : Rt L) (f : Int) : (kidsF L f).length ≤ 12 ∧ ∀ y ∈ kidsF L f, y.nm.size ≤ 1000 := by
 by_cases e : kidsF L f = []
 · rw [e]; exact ⟨by simp, fun y hy => by cases hy⟩
 · obtain ⟨x, hx, hk⟩ := kidsF_in e
   obtain ⟨s1, s2, s3⟩ := node_small (R.ok x (getF_mem hx).1).1
   rw [hk]
   exact ⟨s2, fun y hy => by have := s3 y hy; omega⟩
set_option maxHeartbeats 4000000 in
theorem ppaths_c {a : Option Addr} {L : List Nd} (cap : Nat) {w : World} (h : Tr w a L) (R : Rt L) : Calls Tryz.prog 6 #[.slice a L.length cap] w (ColS (belF L (L.length + 1) 1 ⟨#[]⟩) w) := by
 have h40 := R.few
 have hr : RightP L := (rightD_iff L).2 (rightD_rt.2 R)
 have RC := hid (right_c a cap L w h.1 (by omega))
 have EC := hid (ent_c a L.length cap 1 ⟨#[]⟩)
 obtain ⟨P, hP⟩ : ∃ P, P = belF L (L.length + 1) 1 ⟨#[]⟩ := ⟨_, rfl⟩
 have hPl : P.length ≤ 1000 := by rw [hP, bel_len]; have := cn_few R (L.length + 1); omega
 have HC : Hid (∀ w1, Below w.heap.size w w1 → Calls Tryz.prog 14 #[.func (.func 32) #[] #[.pointer (some ⟨w1.heap.size, 0, none⟩), .pointer (some ⟨w1.heap.size + 1, 0, none⟩), .pointer (some ⟨w1.heap.size + 2, 0, none⟩)]] (((w1.alloc (.cells #[.slice a L.length cap] 23)).alloc (.cells #[.int .u32 1] 31)).alloc (.cells #[.string ⟨#[]⟩] 9)) fun e w' => ∃ v : Value, e = .returned v ∧ OwS w' w.heap.size v P ∧ Below w.heap.size w w') := hid (fun w1 hb => by
   have hb3 : Below w1.heap.size w1 (((w1.alloc (.cells #[.slice a L.length cap] 23)).alloc (.cells #[.int .u32 1] 31)).alloc (.cells #[.string ⟨#[]⟩] 9)) := ((below_1 w1 _).trans ((below_1 _ _).mono (by simp))).trans ((below_1 _ _).mono (by simp; omega))
   have hE : EntC L a cap w1 1 ⟨#[]⟩ P := by
     rw [hP]
     exact ent_all (h.later hb) (by omega) (fun f x hx => (kidsF_small R f).2 x hx) (fun f => by have := (kidsF_small R f).1; omega) (L.length + 1) 1 ⟨#[]⟩ (low_root R) (by show 0 + _ ≤ _; have : (L.length + 1) * 1001 ≤ 41 * 1001 := Nat.mul_le_mul_right _ (by omega); omega)
   refine (collectS_c L a cap w1 1 ⟨#[]⟩ P hPl hE _ hb3 w1.heap.size (w1.heap.size + 1) (w1.heap.size + 2) ?_ ?_ ?_).mono ?_
   · rw [Below.heap_alloc _ _ _ (by simp; omega), Below.heap_alloc _ _ _ (by simp)]; exact heap_alloc_new w1 _
   · rw [Below.heap_alloc _ _ _ (by simp)]; have := heap_alloc_new (w1.alloc (.cells #[.slice a L.length cap] 23)) (.cells #[.int .u32 1] 31); rwa [World.size_alloc] at this
   · have := heap_alloc_new ((w1.alloc (.cells #[.slice a L.length cap] 23)).alloc (.cells #[.int .u32 1] 31)) (.cells #[.string ⟨#[]⟩] 9); simpa using this
   · rintro e w' ⟨v, rfl, hO, hB⟩
     have hz := hb.size
     have hz3 := hb3.size
     refine ⟨v, rfl, ⟨hO.1, ?_⟩, hb.trans ((hb3.mono hz).trans (hB.mono (Nat.le_trans hz hz3)))⟩
     rcases hO.2 with q | ⟨g, c, cur, q1, q2, q3⟩
     · exact .inl q
     · exact .inr ⟨g, c, cur, q1, by omega, q3⟩)
 rw [← hP]
 clear h hP
 go_enter Tryz.func6, Tryz.ntmps6
 go_wp2_with (first
   | (go_at_call 14; refine (HC.out _ B1.out).mono ?_; rintro _ w3 ⟨v3, rfl, hO3, hB3⟩; obtain ⟨a3, c3, rfl⟩ := hO3.shape; have O3 := hid hO3; have B3 := hid hB3; clear hO3 hB3)
   | (go_at_call 15; refine (EC.out _).mono ?_; rintro _ w2 ⟨rfl, rfl⟩)
   | (go_at_call 13; refine RC.out.mono ?_; rintro _ w1 ⟨b, rfl, hb, hb1⟩; obtain rfl : b = true := hb.2 hr; have B1 := hid hb1; clear hb hb1))
 refine bodyPost_ret (v := .slice a3 P.length c3) (by simp [results, Tryz.results6, go_sem]) rfl ⟨_, rfl, O3.out, B3.out⟩
end Go.Proofs.YtkokjkaclcjnjaaGreatDoor
