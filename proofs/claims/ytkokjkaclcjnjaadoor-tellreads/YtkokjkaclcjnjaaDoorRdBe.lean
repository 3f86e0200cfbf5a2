/-
  Numbers read: digits.Read of the program, number of the document.
-/
import Derived.Test.YtkokjkaclcjnjaaDoorRdAa
import Derived.Test.YtkokjkaclcjnjaaDoorRdAd
import Derived.Test.YtkokjkaclcjnjaaDoorRdAe
namespace Go.Proofs.YtkokjkaclcjnjaaDoor
open Go.RowKit Go.ChangeShapes Go.WideShapes Go.ChangeAt
set_option linter.unusedVariables false
set_option linter.unusedSimpArgs false
set_option maxRecDepth 100000
theorem drop_at {s : ByteArray} {j : Nat} (h : j < s.size) : s.data.toList.drop j = s[j]'h :: s.data.toList.drop (j + 1) := List.drop_eq_getElem_cons (l := s.data.toList) (i := j) h
theorem bad_dig {a : UInt8} (h : a.toNat < 48 ∨ 57 < a.toNat) : a < 48 ∨ 57 < a := by
 rw [UInt8.lt_iff_toNat_lt, UInt8.lt_iff_toNat_lt]
 exact h
theorem good_dig {a : UInt8} (h : ¬ (a.toNat < 48 ∨ 57 < a.toNat)) : ¬ (a < 48 ∨ 57 < a) := by
 rw [UInt8.lt_iff_toNat_lt, UInt8.lt_iff_toNat_lt]
 exact h
def RdD (r : Option Nat) (w : World) (e : Ending) (w' : World) : Prop := e = .returned (.tuple #[.int .u32 ((r.getD 0 : Nat) : Int), .bool r.isSome]) ∧ Below w.heap.size w w'
theorem RdD.no {r : Option Nat} {w w' : World} (h : r = none) (hb : Below w.heap.size w w') : RdD r w (.returned (.tuple #[.int .u32 0, .bool false])) w' := ⟨by rw [h]; rfl, hb⟩
theorem RdD.yes {r : Option Nat} {n : Nat} {w w' : World} (h : r = some n) (hb : Below w.heap.size w w') : RdD r w (.returned (.tuple #[.int .u32 (n : Int), .bool true])) w' := ⟨by rw [h]; rfl, hb⟩
set_option maxHeartbeats 4000000 in
theorem readD_c (s : ByteArray) (most : Nat) (hm : most < 4294967296) (w : World) (hs : s.size ≤ maxLen) :
   Calls Tryd.prog 73 #[.string s, .int .u32 (most : Int)] w (RdD (readD most s.data.toList) w) := by
 have hlen : s.data.toList.length = s.size := rfl
 unfold maxLen at hs
 obtain ⟨R, hR⟩ : ∃ R, R = readD most s.data.toList := ⟨_, rfl⟩
 rw [← hR]
 by_cases h0 : s.size = 0
 · have e0 : (s.toList == []) = true := by rw [Lib.toList_data, List.eq_nil_of_length_eq_zero h0]; rfl
   have N : Hid (R = none) := hid (by rw [hR]; unfold readD; rw [if_pos (.inl (List.eq_nil_of_length_eq_zero h0))])
   clear hR
   go_enter Tryd.func73, Tryd.ntmps73
   go_wp2
   refine bodyPost_ret (v := .tuple #[.int .u32 0, .bool false]) (by simp [results, Tryd.results73, go_sem]) rfl (RdD.no N.out (Below.refl _ _))
 · have hp0 : 0 < s.size := by omega
   have e0 : (s.toList == []) = false := by rw [Lib.toList_data, beq_eq_false_iff_ne]; intro e; have := congrArg List.length e; rw [hlen] at this; exact h0 this
   have hne : s.data.toList ≠ [] := fun e => by have := congrArg List.length e; rw [hlen] at this; exact h0 this
   have hh : s.data.toList.headD 0 = s[0]'hp0 := by
     have := drop_at hp0
     rw [List.drop_zero] at this
     rw [this]; rfl
   have hz : (0 : Int) < s.size := by omega
   by_cases hbad : s[0]'hp0 = 48 ∧ s.data.toList ≠ [48]
   · have N : Hid (R = none) := hid (by rw [hR]; unfold readD; rw [if_pos (.inr ⟨by rw [hh]; exact hbad.1, hbad.2⟩)])
     have e1 : (((s[0]'hp0).toNat : Int) == 48) = true := by rw [hbad.1]; rfl
     have e2 : (s.toList == [48]) = false := by rw [beq_eq_false_iff_ne, Lib.toList_data]; exact hbad.2
     clear hR hh hne
     go_enter Tryd.func73, Tryd.ntmps73
     go_wp2
     refine bodyPost_ret (v := .tuple #[.int .u32 0, .bool false]) (by simp [results, Tryd.results73, go_sem]) rfl (RdD.no N.out (Below.refl _ _))
   · have N : Hid (R = runD most 0 s.data.toList) := hid (by
       rw [hR]; unfold readD
       rw [if_neg]
       rintro (e | ⟨e1, e2⟩)
       · exact hne e
       · exact hbad ⟨by rw [← hh]; exact e1, e2⟩)
     clear hR
     have key : ((((s[0]'hp0).toNat : Int) == 48) = false) ∨ ((((s[0]'hp0).toNat : Int) == 48) = true ∧ (s.toList == [48]) = true) := by
       cases q : (((s[0]'hp0).toNat : Int) == 48) with
       | false => exact .inl rfl
       | true =>
         refine .inr ⟨rfl, ?_⟩
         have q2 : s[0]'hp0 = 48 := UInt8.toNat_inj.1 (by have := beq_iff_eq.1 q; show (s[0]'hp0).toNat = 48; omega)
         cases q3 : (s.toList == [48]) with
         | true => rfl
         | false => exact absurd ⟨q2, by rw [beq_eq_false_iff_ne, Lib.toList_data] at q3; exact q3⟩ hbad
     clear hbad hne hh
     have HL := hid' hlen
     clear hlen
     rcases key with e1 | ⟨e1, e2⟩
     all_goals
       go_enter Tryd.func73, Tryd.ntmps73
       go_wp2
       go_loopw [6] (fun v6 wr => ∃ j n : Nat, wr = w.iter s j ∧ j ≤ s.size ∧ v6 = .int .u64 (n : Int) ∧ n ≤ most ∧ Hid (R = runD most n (s.data.toList.drop j))) (fun _ wr => s.size - wr.iterPos w.heap.size)
       case atStart => exact ⟨0, 0, rfl, by omega, rfl, by omega, hid (by rw [List.drop_zero]; exact N.out)⟩
       case round =>
         obtain ⟨j, n, rfl, hj, rfl, hn, HR⟩ := hrel
         clear e1
         have hpos := World.iterPos_iter w s j
         have hnI : (n : Int) < 4294967296 := by omega
         by_cases hp : j < s.size
         · have hdr := drop_at hp
           by_cases ha : (s[j]'hp).toNat < 128
           · have hnx := fun ty => run_next_ascii (P := Tryd.prog) w s j ty hp ha
             have HST : Hid (R = runD most n (s[j]'hp :: s.data.toList.drop (j + 1))) := hid (by rw [← hdr]; exact HR.out)
             clear hdr HR
             generalize s[j]'hp = c at *
             by_cases hb : c.toNat < 48 ∨ 57 < c.toNat
             · have NB : Hid (R = none) := hid (by rw [HST.out, runD, if_pos (bad_dig hb)])
               clear HST
               rcases hb with hb | hb
               · have g1 : (c.toNat : Int) < 48 := by omega
                 go_wp2
                 refine bodyPost_ret (v := .tuple #[.int .u32 0, .bool false]) (by simp [results, Tryd.results73, go_sem]) rfl (RdD.no NB.out ((Below.refl _ _).alloc (Nat.le_refl _) _))
               · have g1 : ¬ (c.toNat : Int) < 48 := by omega
                 have g2 : (57 : Int) < c.toNat := by omega
                 go_wp2
                 refine bodyPost_ret (v := .tuple #[.int .u32 0, .bool false]) (by simp [results, Tryd.results73, go_sem]) rfl (RdD.no NB.out ((Below.refl _ _).alloc (Nat.le_refl _) _))
             · have g1 : ¬ (c.toNat : Int) < 48 := by omega
               have g2 : ¬ (57 : Int) < c.toNat := by omega
               obtain ⟨d, hd, hd9⟩ : ∃ d : Nat, d = c.toNat - 48 ∧ d < 10 := ⟨_, rfl, by omega⟩
               have hdI : (c.toNat : Int) - 48 = d := by omega
               have HS2 : Hid (R = if most < n * 10 + d then none else runD most (n * 10 + d) (s.data.toList.drop (j + 1))) := hid (by rw [HST.out, runD, if_neg (good_dig hb), hd])
               clear HST hb
               have w1 : IntKind.i32.wrap ((c.toNat : Int) - 48) = d := by rw [hdI, IntKind.wrap_i32]; omega
               have w2 : IntKind.u64.wrap (d : Int) = d := by rw [IntKind.wrap_u64]; omega
               have w3 : IntKind.u64.wrap ((n : Int) * 10) = ((n * 10 : Nat) : Int) := by rw [IntKind.wrap_u64]; omega
               have w4 : IntKind.u64.wrap (((n * 10 : Nat) : Int) + d) = ((n * 10 + d : Nat) : Int) := by rw [IntKind.wrap_u64]; omega
               have hmI : (most : Int) < 4294967296 := by omega
               have w5 : IntKind.u64.wrap (most : Int) = most := by rw [IntKind.wrap_u64]; omega
               obtain ⟨m, hm9⟩ : ∃ m : Nat, m = n * 10 + d := ⟨_, rfl⟩
               rw [← hm9] at w4 HS2
               obtain ⟨n10, hn10⟩ : ∃ m : Nat, m = n * 10 := ⟨_, rfl⟩
               rw [← hn10] at w3 w4
               clear hm9 hn10 hd hdI
               by_cases hov : most < m
               · have g3 : (most : Int) < m := by omega
                 have NB : Hid (R = none) := hid (by rw [HS2.out, if_pos hov])
                 go_wp2
                 refine bodyPost_ret (v := .tuple #[.int .u32 0, .bool false]) (by simp [results, Tryd.results73, go_sem]) rfl (RdD.no NB.out ((Below.refl _ _).alloc (Nat.le_refl _) _))
               · have g3 : ¬ (most : Int) < m := by omega
                 have HS3 : Hid (R = runD most m (s.data.toList.drop (j + 1))) := hid (by rw [HS2.out, if_neg hov])
                 go_wp2
                 go_roundw
                 case rel => exact ⟨j + 1, m, rfl, by omega, rfl, by omega, HS3⟩
                 case measure => rw [World.iterPos_iter, World.iterPos_iter]; omega
           · have hnx := fun ty => run_next_any (P := Tryd.prog) w s j ty hp
             have hd := decode_high s j hp (by omega)
             have NB : Hid (R = none) := hid (by rw [HR.out, hdr, runD, if_pos (bad_dig (.inr (by omega)))])
             clear hdr HR
             generalize (Utf8.decode s j).1 = u at *
             have g1 : ¬ (u : Int) < 48 := by omega
             have g2 : (57 : Int) < u := by omega
             go_wp2
             refine bodyPost_ret (v := .tuple #[.int .u32 0, .bool false]) (by simp [results, Tryd.results73, go_sem]) rfl (RdD.no NB.out ((Below.refl _ _).alloc (Nat.le_refl _) _))
         · have hnx := fun ty => run_next_end (P := Tryd.prog) w s j ty hp
           have hj2 : j = s.size := by omega
           have NB : Hid (R = some n) := hid (by rw [HR.out, List.drop_of_length_le (by have := HL.out; omega)]; rfl)
           have w6 : IntKind.u32.wrap (n : Int) = n := by rw [IntKind.wrap_u32]; omega
           clear hj2
           go_wp2
           refine bodyPost_ret (v := .tuple #[.int .u32 (n : Int), .bool true]) (by simp [results, Tryd.results73, go_sem]) rfl (RdD.yes NB.out ((Below.refl _ _).alloc (Nat.le_refl _) _))
set_option maxHeartbeats 4000000 in
theorem dnum_c (s : ByteArray) (w : World) (hs : s.size ≤ maxLen) :
   Calls Tryd.prog 77 #[.string s] w fun e w' => e = .returned (.int .u64 (numQ s.data.toList : Int)) ∧ w' = w := by
 have hlen : s.data.toList.length = s.size := rfl
 unfold maxLen at hs
 obtain ⟨R, hR⟩ : ∃ R, R = numQ s.data.toList := ⟨_, rfl⟩
 rw [← hR]
 by_cases h0 : 10 < s.size
 · have hI : (10 : Int) < s.size := by omega
   have N : R = 0 := by rw [hR]; unfold numQ; rw [if_pos (by omega)]
   subst N
   clear hR
   go_enter Tryd.func77, Tryd.ntmps77
   go_wp2
   refine bodyPost_ret (v := .int .u64 0) (by simp [results, Tryd.results77, go_sem]) rfl ⟨rfl, rfl⟩
 · have hI : ¬ (10 : Int) < s.size := by omega
   have N : Hid (R = numD 0 s.data.toList) := hid (by rw [hR]; unfold numQ; rw [if_neg (by omega)])
   have HL := hid hlen
   clear hR hlen
   go_enter Tryd.func77, Tryd.ntmps77
   go_wp2
   go_loopg [3, 4] s.size (fun gk v3 v4 wr => ∃ i n : Nat, i + gk = s.size ∧ v4 = .int .i64 i ∧ v3 = .int .u64 (n : Int) ∧ n < 10 ^ i ∧ Hid (R = numD n (s.data.toList.drop i)) ∧ Hid (wr = w))
   case atStart => exact ⟨0, 0, by omega, rfl, rfl, by decide, hid (by rw [List.drop_zero]; exact N.out), hid rfl⟩
   case round =>
     obtain ⟨i, n, hi, rfl, rfl, hn, HR, HW⟩ := hrel
     have hwr := HW.out
     subst hwr
     have h10 : 10 ^ i ≤ 10000000000 := Nat.le_trans (Nat.pow_le_pow_right (by decide) (show i ≤ 10 by omega)) (by decide)
     have hn2 : n < 10000000000 := by omega
     by_cases hp : i < s.size
     · have hpI : (i : Int) < s.size := by omega
       have hdr := drop_at hp
       have HST : Hid (R = numD n (s[i]'hp :: s.data.toList.drop (i + 1))) := hid (by rw [← hdr]; exact HR.out)
       have hpw : n * 10 + 10 ≤ 10 ^ (i + 1) := by rw [Nat.pow_succ]; omega
       have HPW := hid hpw
       clear hdr HR hn h10 hpw
       by_cases hb : (s[i]'hp).toNat < 48 ∨ 57 < (s[i]'hp).toNat
       · have NB : R = 0 := by rw [HST.out, numD, if_pos (bad_dig hb)]
         clear HST N
         subst NB
         rcases hb with hb | hb
         · have g1 : ((s[i]'hp).toNat : Int) < 48 := by omega
           go_wp2
           refine bodyPost_ret (v := .int .u64 0) (by simp [results, Tryd.results77, go_sem]) rfl ⟨rfl, rfl⟩
         · have g1 : ¬ ((s[i]'hp).toNat : Int) < 48 := by omega
           have g2 : (57 : Int) < (s[i]'hp).toNat := by omega
           go_wp2
           refine bodyPost_ret (v := .int .u64 0) (by simp [results, Tryd.results77, go_sem]) rfl ⟨rfl, rfl⟩
       · have g1 : ¬ ((s[i]'hp).toNat : Int) < 48 := by omega
         have g2 : ¬ (57 : Int) < (s[i]'hp).toNat := by omega
         obtain ⟨d, hd, hd9⟩ : ∃ d : Nat, d = (s[i]'hp).toNat - 48 ∧ d < 10 := ⟨_, rfl, by omega⟩
         have hdI : ((s[i]'hp).toNat : Int) - 48 = d := by omega
         have HS2 : Hid (R = numD (n * 10 + d) (s.data.toList.drop (i + 1))) := hid (by rw [HST.out, numD, if_neg (good_dig hb), hd])
         clear HST hb
         have w1 : IntKind.u8.wrap (((s[i]'hp).toNat : Int) - 48) = d := by rw [hdI, IntKind.wrap_u8]; omega
         have w2 : IntKind.u64.wrap (d : Int) = d := by rw [IntKind.wrap_u64]; omega
         have w3 : IntKind.u64.wrap ((n : Int) * 10) = ((n * 10 : Nat) : Int) := by rw [IntKind.wrap_u64]; omega
         have w4 : IntKind.u64.wrap (((n * 10 : Nat) : Int) + d) = ((n * 10 + d : Nat) : Int) := by rw [IntKind.wrap_u64]; omega
         have HP2 : Hid (n * 10 + d < 10 ^ (i + 1)) := hid (by have := HPW.out; omega)
         obtain ⟨m, hm9⟩ : ∃ m : Nat, m = n * 10 + d := ⟨_, rfl⟩
         rw [← hm9] at w4 HS2 HP2
         obtain ⟨n10, hn10⟩ : ∃ m : Nat, m = n * 10 := ⟨_, rfl⟩
         rw [← hn10] at w3 w4
         clear hm9 hn10 hd hdI
         go_wp2
         go_roundg (gk - 1)
         case measure => omega
         case rel => exact ⟨i + 1, m, by omega, by go_num, rfl, HP2.out, HS2, hid rfl⟩
     · have hge : ¬ (i : Int) < s.size := by omega
       have NB : R = n := by rw [HR.out, List.drop_of_length_le (by have := HL.out; omega)]; rfl
       subst NB
       go_wp2
       refine bodyPost_ret (v := .int .u64 (R : Int)) (by simp [results, Tryd.results77, go_sem]) rfl ⟨rfl, rfl⟩
end Go.Proofs.YtkokjkaclcjnjaaDoor
