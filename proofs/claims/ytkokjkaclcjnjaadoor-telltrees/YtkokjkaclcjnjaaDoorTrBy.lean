/-
  The document's Quote, digit.
  The document's Line: up to what a node has inside.
-/
import Derived.Test.YtkokjkaclcjnjaaDoorTrBx
import Derived.Test.YtkokjkaclcjnjaaDoorTrBw
import Derived.Test.YtkokjkaclcjnjaaDoorTrAw
namespace Go.Proofs.YtkokjkaclcjnjaaDoor
open Go.RowKit Go.ChangeShapes Go.WideShapes Go.ChangeAt
set_option linter.unusedVariables false
set_option linter.unusedSimpArgs false
set_option maxRecDepth 100000
theorem app_dT (a b : ByteArray) : (a ++ b).data.toList = a.data.toList ++ b.data.toList := by simp [ByteArray.data_append]
theorem size_l (a : ByteArray) : a.size = a.data.toList.length := rfl
theorem ba_ext {a b : ByteArray} (h : a.data.toList = b.data.toList) : a = b := by
 obtain ⟨⟨a⟩⟩ := a
 obtain ⟨⟨b⟩⟩ := b
 simp at h
 rw [h]
def hexS : ByteArray := ⟨#[48, 49, 50, 51, 52, 53, 54, 55, 56, 57, 97, 98, 99, 100, 101, 102]⟩
theorem hex_piece : ((List.range 16).all fun n => decide ((hexS.extract n (n + 1)).data.toList = [hx n])) = true := by kernel_rfl
set_option maxHeartbeats 4000000 in
theorem rquote_c (s : ByteArray) (w : World) (hs : s.size ≤ 100000000) :
   Calls Tryd.prog 13 #[.string s] w fun e w' => e = .returned (.string ⟨(quoteL s.data.toList).toArray⟩) ∧ Below w.heap.size w w' := by
 have hsl : s.data.toList.length = s.size := rfl
 obtain ⟨L, hL⟩ : ∃ L, L = s.data.toList := ⟨_, rfl⟩
 have HL := hid hL
 clear hL
 go_enter Tryd.func13, Tryd.ntmps13
 go_wp2
 go_loopg [3, 4] s.size (fun gk v3 v4 wr => ∃ (m : Nat) (o : ByteArray), m + gk = s.size ∧ v4 = .int .i64 m ∧ v3 = .string o ∧ Hid (o.data.toList = 34 :: (L.take m).flatMap qB) ∧ o.size ≤ 400000000 ∧ Hid (Below w.heap.size w wr))
 case atStart => exact ⟨0, ⟨#[34]⟩, by omega, rfl, rfl, hid rfl, by decide, hid (Below.refl _ _)⟩
 case round =>
   obtain ⟨m, o, hm, rfl, rfl, OX, hoz, BX⟩ := hrel
   by_cases hlt : m < s.size
   · have hltI : (m : Int) < s.size := by omega
     have HLs : L.length = s.size := by rw [HL.out]; exact hsl
     have hfl := flat_len (L.take (m + 1))
     have hlt2 : (L.take (m + 1)).length ≤ 100000000 := by rw [List.length_take]; omega
     have hcL : Hid (L[m]'(by omega) = s[m]'hlt) := hid (by have e := HL.out; subst e; rfl)
     have TF := hid (take_flat L m (by omega))
     rw [hcL.out] at TF
     have EX : Hid ((s.extract m (m + 1)).data.toList = [s[m]'hlt]) := hid (by
       rw [Lib.extract_data, ← hcL.out]
       have e := HL.out
       rw [← e, Nat.add_sub_cancel_left, List.drop_eq_getElem_cons (by omega), List.take_succ_cons, List.take_zero])
     have oz2 : o.size ≤ 300000001 := by
       have e1 : o.data.toList.length = o.size := rfl
       rw [OX.out, List.length_cons] at e1
       have := flat_len (L.take m)
       have h3 : (L.take m).length ≤ 100000000 := by rw [List.length_take]; omega
       omega
     have i1 : (m : Int) + 1 ≤ s.size := by omega
     have i2 : (m : Int) ≤ (m : Int) + 1 := by omega
     go_upto_region 6 with fail
     clear hcL hfl hlt2 HLs hoz
     generalize s[m]'hlt = c at *
     have h256 : c.toNat < 256 := c.toNat_lt
     by_cases hp : plnI c.toNat = true
     · have QE : Hid (qB c = [c]) := hid (by unfold qB; rw [if_pos hp])
       unfold plnI at hp
       simp only [Bool.and_eq_true, decide_eq_true_eq, Bool.not_eq_true', beq_eq_false_iff_ne] at hp
       obtain ⟨⟨⟨p1, p2⟩, p3⟩, p4⟩ := hp
       have b3 : ((c.toNat : Int) != 34) = true := by rw [bne_iff_ne]; exact p3
       have b4 : ((c.toNat : Int) != 92) = true := by rw [bne_iff_ne]; exact p4
       clear p3 p4
       go_wp2
       go_roundg (gk - 1)
       case measure => omega
       case rel => exact ⟨m + 1, o ++ s.extract m (m + 1), by omega, by go_num, rfl, hid (by rw [app_dT, OX.out, EX.out, TF.out, QE.out]; rfl), by rw [size_l, app_dT, EX.out, List.length_append, ← size_l, List.length_singleton]; omega, BX⟩
     · have QE : Hid (qB c = [92, hx (c.toNat / 16), hx (c.toNat % 16)]) := hid (by unfold qB; rw [if_neg hp])
       have hp' : plnI c.toNat = false := by simpa using hp
       obtain ⟨k1, hk1, ek1, ek1'⟩ : ∃ k : Nat, k < 16 ∧ (c.toNat : Int) / 16 = (k : Int) ∧ c.toNat / 16 = k := ⟨c.toNat / 16, by omega, by omega, rfl⟩
       obtain ⟨k2, hk2, ek2, ek2'⟩ : ∃ k : Nat, k < 16 ∧ (c.toNat : Int) % 16 = (k : Int) ∧ c.toNat % 16 = k := ⟨c.toNat % 16, by omega, by omega, rfl⟩
       rw [ek1', ek2'] at QE
       have j1 : (k1 : Int) ≤ (k1 : Int) + 1 := by omega
       have j2 : (k1 : Int) + 1 ≤ 16 := by omega
       have j3 : (k2 : Int) ≤ (k2 : Int) + 1 := by omega
       have j4 : (k2 : Int) + 1 ≤ 16 := by omega
       have X1 : Hid ((hexS.extract k1 (k1 + 1)).data.toList = [hx k1]) := hid (by have := List.all_eq_true.1 hex_piece k1 (List.mem_range.2 hk1); simpa using this)
       have X2 : Hid ((hexS.extract k2 (k2 + 1)).data.toList = [hx k2]) := hid (by have := List.all_eq_true.1 hex_piece k2 (List.mem_range.2 hk2); simpa using this)
       have HN : Hid (∀ nq, Below w.heap.size w (wr.drewN nq)) := hid (fun nq => ⟨BX.out.os, BX.out.tape, BX.out.output, BX.out.size, BX.out.block⟩)
       have hc4 : (c.toNat : Int) < 32 ∨ (32 ≤ (c.toNat : Int) ∧ 126 < (c.toNat : Int)) ∨ (32 ≤ (c.toNat : Int) ∧ (c.toNat : Int) ≤ 126 ∧ ((c.toNat : Int) != 34) = false) ∨ (32 ≤ (c.toNat : Int) ∧ (c.toNat : Int) ≤ 126 ∧ ((c.toNat : Int) != 34) = true ∧ ((c.toNat : Int) != 92) = false) := by
         unfold plnI at hp'
         by_cases q1 : (c.toNat : Int) < 32
         · exact .inl q1
         by_cases q2 : 126 < (c.toNat : Int)
         · exact .inr (.inl ⟨by omega, q2⟩)
         by_cases q3 : (c.toNat : Int) = 34
         · exact .inr (.inr (.inl ⟨by omega, by omega, by rw [q3]; rfl⟩))
         by_cases q4 : (c.toNat : Int) = 92
         · exact .inr (.inr (.inr ⟨by omega, by omega, by rw [bne_iff_ne]; exact q3, by rw [q4]; rfl⟩))
         · exact absurd hp' (by simp [q3, q4]; omega)
       clear hp hp' ek1' ek2'
       rcases hc4 with d1 | ⟨d1, d2⟩ | ⟨d1, d2, d3⟩ | ⟨d1, d2, d3, d4⟩
       · skip
         go_upto_region 8 with fail
         go_wp2_with fail
         go_quiet (fail)
         have HB := hid (HN.out nq)
         generalize wr.drewN nq = W at *
         have NX : Hid ((o ++ (⟨#[92]⟩ ++ (⟨#[48, 49, 50, 51, 52, 53, 54, 55, 56, 57, 97, 98, 99, 100, 101, 102]⟩ : ByteArray).extract k1 (k1 + 1) ++ (⟨#[48, 49, 50, 51, 52, 53, 54, 55, 56, 57, 97, 98, 99, 100, 101, 102]⟩ : ByteArray).extract k2 (k2 + 1))).data.toList = o.data.toList ++ [92, hx k1, hx k2]) := hid (by
           have x1 := X1.out
           have x2 := X2.out
           unfold hexS at x1 x2
           rw [app_dT, app_dT, app_dT, x1, x2]
           rfl)
         go_wp2
         go_roundg (gk - 1)
         case measure => omega
         case rel => exact ⟨m + 1, _, by omega, by go_num, rfl, hid (by rw [NX.out, OX.out, TF.out, QE.out]; rfl), by rw [size_l, NX.out, List.length_append, ← size_l]; show o.size + 3 ≤ _; omega, HB⟩
       · skip
         go_upto_region 8 with fail
         go_wp2_with fail
         go_quiet (fail)
         have HB := hid (HN.out nq)
         generalize wr.drewN nq = W at *
         have NX : Hid ((o ++ (⟨#[92]⟩ ++ (⟨#[48, 49, 50, 51, 52, 53, 54, 55, 56, 57, 97, 98, 99, 100, 101, 102]⟩ : ByteArray).extract k1 (k1 + 1) ++ (⟨#[48, 49, 50, 51, 52, 53, 54, 55, 56, 57, 97, 98, 99, 100, 101, 102]⟩ : ByteArray).extract k2 (k2 + 1))).data.toList = o.data.toList ++ [92, hx k1, hx k2]) := hid (by
           have x1 := X1.out
           have x2 := X2.out
           unfold hexS at x1 x2
           rw [app_dT, app_dT, app_dT, x1, x2]
           rfl)
         go_wp2
         go_roundg (gk - 1)
         case measure => omega
         case rel => exact ⟨m + 1, _, by omega, by go_num, rfl, hid (by rw [NX.out, OX.out, TF.out, QE.out]; rfl), by rw [size_l, NX.out, List.length_append, ← size_l]; show o.size + 3 ≤ _; omega, HB⟩
       · skip
         go_upto_region 8 with fail
         go_wp2_with fail
         go_quiet (fail)
         have HB := hid (HN.out nq)
         generalize wr.drewN nq = W at *
         have NX : Hid ((o ++ (⟨#[92]⟩ ++ (⟨#[48, 49, 50, 51, 52, 53, 54, 55, 56, 57, 97, 98, 99, 100, 101, 102]⟩ : ByteArray).extract k1 (k1 + 1) ++ (⟨#[48, 49, 50, 51, 52, 53, 54, 55, 56, 57, 97, 98, 99, 100, 101, 102]⟩ : ByteArray).extract k2 (k2 + 1))).data.toList = o.data.toList ++ [92, hx k1, hx k2]) := hid (by
           have x1 := X1.out
           have x2 := X2.out
           unfold hexS at x1 x2
           rw [app_dT, app_dT, app_dT, x1, x2]
           rfl)
         go_wp2
         go_roundg (gk - 1)
         case measure => omega
         case rel => exact ⟨m + 1, _, by omega, by go_num, rfl, hid (by rw [NX.out, OX.out, TF.out, QE.out]; rfl), by rw [size_l, NX.out, List.length_append, ← size_l]; show o.size + 3 ≤ _; omega, HB⟩
       · skip
         go_upto_region 8 with fail
         go_wp2_with fail
         go_quiet (fail)
         have HB := hid (HN.out nq)
         generalize wr.drewN nq = W at *
         have NX : Hid ((o ++ (⟨#[92]⟩ ++ (⟨#[48, 49, 50, 51, 52, 53, 54, 55, 56, 57, 97, 98, 99, 100, 101, 102]⟩ : ByteArray).extract k1 (k1 + 1) ++ (⟨#[48, 49, 50, 51, 52, 53, 54, 55, 56, 57, 97, 98, 99, 100, 101, 102]⟩ : ByteArray).extract k2 (k2 + 1))).data.toList = o.data.toList ++ [92, hx k1, hx k2]) := hid (by
           have x1 := X1.out
           have x2 := X2.out
           unfold hexS at x1 x2
           rw [app_dT, app_dT, app_dT, x1, x2]
           rfl)
         go_wp2
         go_roundg (gk - 1)
         case measure => omega
         case rel => exact ⟨m + 1, _, by omega, by go_num, rfl, hid (by rw [NX.out, OX.out, TF.out, QE.out]; rfl), by rw [size_l, NX.out, List.length_append, ← size_l]; show o.size + 3 ≤ _; omega, HB⟩
   · have hge : ¬ (m : Int) < s.size := by omega
     have em : m = s.size := by omega
     have HLs : L.length = s.size := by rw [HL.out]; exact hsl
     have QE : Hid ((o ++ ⟨#[34]⟩ : ByteArray) = ⟨(quoteL s.data.toList).toArray⟩) := hid (ba_ext (by rw [app_dT, OX.out, List.take_of_length_le (by omega), HL.out]; rfl))
     go_wp2
     go_ret
     exact ⟨by rw [← QE.out]; rfl, BX.out⟩
end Go.Proofs.YtkokjkaclcjnjaaDoor
namespace Go.Proofs.YtkokjkaclcjnjaaDoor
open Go.RowKit Go.ChangeShapes Go.WideShapes Go.ChangeAt Go.Sort
set_option linter.unusedVariables false
set_option linter.unusedSimpArgs false
set_option maxRecDepth 100000
theorem itoa_c (u : Nat) (hu : u < 65536) (w : World) (ht : TabW w) : Calls Tryd.prog 36 #[.int .i64 (u : Int)] w fun e w' => e = .returned (.string (decB u)) ∧ Below w.heap.size w w' := by
 refine (Tryd.strconv_Itoa (u : Int) (by omega) (by omega) w ht).mono ?_
 rintro e w' ⟨rfl, k, os, rfl⟩
 refine ⟨by rw [Lib.itoa_nonneg]; rfl, rfl, rfl, rfl, ?_, fun i hi => ?_⟩
 · show w.heap.size ≤ (w.heap ++ os).size
   simp
 · show (w.heap ++ os)[i]? = _
   rw [Array.getElem?_append_left hi]
theorem ba_app (a b : ByteArray) : (a ++ b).size = a.size + b.size := by
 rw [size_l, app_dT, List.length_append, ← size_l, ← size_l]
def headB (a b c d : ByteArray) : ByteArray := a ++ ⟨#[32]⟩ ++ b ++ ⟨#[32]⟩ ++ c ++ ⟨#[32]⟩ ++ d ++ ⟨#[32]⟩
theorem line_head (a b c d i : ByteArray) : (headB a b c d ++ i).data.toList = Lib.join [a.data.toList, b.data.toList, c.data.toList, d.data.toList, i.data.toList] [32] := by
 unfold headB
 simp only [app_dT]
 simp [Lib.join, List.intercalate, List.intersperse]
theorem headB_size (a b c d : ByteArray) : (headB a b c d).size = a.size + b.size + c.size + d.size + 4 := by
 unfold headB
 simp only [ba_app]
 show a.size + 1 + b.size + 1 + c.size + 1 + d.size + 1 = _
 omega
theorem join_snoc {α : Type} (l : List α) (F : α → List UInt8) {d : α} {i : Nat} (h : i < l.length) : Lib.join ((l.take (i + 1)).map F) [44] = if i = 0 then F (l.getD i d) else Lib.join ((l.take i).map F) [44] ++ [44] ++ F (l.getD i d) := by
 have e : (l.take (i + 1)).map F = (l.take i).map F ++ [F (l.getD i d)] := by
   rw [List.take_succ_eq_append_getElem h, List.map_append, List.getD, List.getElem?_eq_getElem h]
   rfl
 rw [e]
 split
 · rename_i h0
   subst h0
   simp [Lib.join_one]
 · rename_i h0
   cases hl : (l.take i).map F with
   | nil =>
     have := congrArg List.length hl
     rw [List.length_map, List.length_take, List.length_nil] at this
     omega
   | cons a t =>
     rw [List.cons_append, Lib.join_cons, Lib.join_cons]
     unfold Lib.joinTail
     simp
theorem join_ne {ks : List Kd} (h : ks ≠ []) : Lib.join (ks.map fun k => (kidT k).data.toList) [44] ≠ [] := by
 cases ks with
 | nil => exact absurd rfl h
 | cons a t =>
   rw [List.map_cons, Lib.join_cons]
   intro e
   have := congrArg List.length e
   have q : (kidT a).data.toList = a.nm.data.toList ++ [61] ++ (decB a.fid.toNat).data.toList := by unfold kidT; rw [app_dT, app_dT]
   rw [q] at this
   simp at this
end Go.Proofs.YtkokjkaclcjnjaaDoor
