/-
  A drawn region walked by hand: the class of worlds may be drawn narrower on the way.
  isPlain, Quote of the package tell.
-/
import Derived.Test.YtkokjkaclcjnjaaDoorTrAa
import Derived.Deep.RegionHeld3
import Derived.Test.YtkokjkaclcjnjaaDoorTrBh
namespace Go.Proofs.YtkokjkaclcjnjaaDoor
open Go.RowKit Go.ChangeShapes Go.WideShapes Go.ChangeAt
set_option linter.unusedVariables false
set_option maxRecDepth 100000
theorem at_drop {l r : List Oper} {i : Nat} {o : Oper} (h : l.drop i = o :: r) : l.toArray[i]? = some o := by
 have := congrArg (fun x : List Oper => x[0]?) h
 simpa using this
theorem take_l {P : Program} {md : Region.Mode} {l r : List Oper} {Q : Exit → Act → World → Prop} {S : World → Prop} (i : Nat) {oi : Oper} {v : Value} {fuel : Nat} {listed : Array Bool} {a : Act} {w : World} (hi : l.drop i = oi :: r)
   (hs : Region.noSelect l.toArray = true) (hf : Region.free md l.toArray listed i = true) (hr : (Region.ready md l.toArray listed).contains i = true)
   (hQ : ∀ c a w, Q (.panic c) (a.put oi.dst v) w → Q (.panic c) a w) (hy : YieldsIf P l.toArray S oi v a) (hS : S w)
   (h : wpAnyH P md l.toArray Q S fuel (listed.setIfInBounds i true) (a.put oi.dst v) w) : wpAnyH P md l.toArray Q S (fuel + 1) listed a w :=
 wpAnyH_take (at_drop hi) hs hf hr hQ hy hS h
theorem cons_l {P : Program} {md : Region.Mode} {l r : List Oper} {Q : Exit → Act → World → Prop} {S : World → Prop} (i : Nat) {fuel : Nat} {listed : Array Bool} {a : Act} {w : World} {o : Oper} (ho : l.drop i = o :: r)
   (hr : Region.ready md l.toArray listed = [i])
   (h : ∀ K' : Act → World → Prop, Shut (∀ a w, S w → (S w → wpAnyH P md l.toArray Q S fuel (listed.setIfInBounds i true) a w) → K' a w) → if Region.wanted o (yielded l.toArray a.tmps) = true then Oper.wp P o a w K' Q else K' (a.put o.dst undef) w) :
   wpAnyH P md l.toArray Q S (fuel + 1) listed a w :=
 wpAnyH_ready hr (by simp) (AllReadyH.cons (at_drop ho) h AllReadyH.nil)
end Go.Proofs.YtkokjkaclcjnjaaDoor
namespace Go.Proofs.YtkokjkaclcjnjaaDoor
open Go.RowKit Go.ChangeShapes Go.WideShapes Go.ChangeAt
set_option linter.unusedVariables false
set_option linter.unusedSimpArgs false
set_option maxRecDepth 100000
def plnI (z : Int) : Bool := decide (32 ≤ z) && decide (z ≤ 126) && !(z == 34) && !(z == 92)
def hexL : List UInt8 := [48, 49, 50, 51, 52, 53, 54, 55, 56, 57, 97, 98, 99, 100, 101, 102]
def hx (n : Nat) : UInt8 := hexL.getD n 0
def qB (c : UInt8) : List UInt8 := if plnI c.toNat then [c] else [92, hx (c.toNat / 16), hx (c.toNat % 16)]
def quoteL (l : List UInt8) : List UInt8 := 34 :: (l.flatMap qB ++ [34])
theorem qB_len (c : UInt8) : 1 ≤ (qB c).length ∧ (qB c).length ≤ 3 := by unfold qB; split <;> simp
theorem flat_len (l : List UInt8) : l.length ≤ (l.flatMap qB).length ∧ (l.flatMap qB).length ≤ 3 * l.length := by
 induction l with
 | nil => simp
 | cons c t ih => have := qB_len c; rw [List.flatMap_cons, List.length_append, List.length_cons]; omega
theorem quote_len (l : List UInt8) : l.length + 2 ≤ (quoteL l).length ∧ (quoteL l).length ≤ 3 * l.length + 2 := by
 have := flat_len l
 unfold quoteL
 rw [List.length_cons, List.length_append, List.length_singleton]
 omega
theorem and15_all : ((List.range 256).all fun n => decide (bits .and .u8 (n : Int) 15 = ((n % 16 : Nat) : Int))) = true := by kernel_rfl
theorem and15 (c : UInt8) : bits .and .u8 (c.toNat : Int) 15 = ((c.toNat % 16 : Nat) : Int) := by
 have := List.all_eq_true.1 and15_all c.toNat (List.mem_range.2 c.toNat_lt)
 simpa using this
set_option maxHeartbeats 1000000 in
theorem isPlain_c (z : Int) (w : World) : Calls Tryd.prog 30 #[.int .u8 z] w fun e w' => e = .returned (.bool (plnI z)) ∧ w' = w := by
 go_enter Tryd.func30, Tryd.ntmps30
 go_wp2
 all_goals go_ret
 all_goals exact ⟨ret_bool' (by first | rfl | (rw [Bool.eq_iff_iff]; simp_all [plnI]; done) | (rw [Bool.eq_iff_iff]; simp_all [plnI]; omega)), rfl⟩
theorem take_flat (l : List UInt8) (m : Nat) (h : m < l.length) : (l.take (m + 1)).flatMap qB = (l.take m).flatMap qB ++ qB (l[m]'h) := by
 rw [List.take_succ_eq_append_getElem h, List.flatMap_append]
 simp
set_option maxHeartbeats 4000000 in
theorem quote_c (s : ByteArray) (w : World) (hs : s.size ≤ 100000000) :
   Calls Tryd.prog 12 #[.string s] w fun e w' => e = .returned (.string ⟨(quoteL s.data.toList).toArray⟩) ∧ Below w.heap.size w w' := by
 have hsl : s.data.toList.length = s.size := rfl
 have b0 := below_1 w (.cells #[.pointer none, .slice none 0 0] 51)
 have W0 := hid (wb_c (IsBd.new w) 34 (by simp) b0.size)
 have B0 := hid b0
 clear b0
 go_enter Tryd.func12, Tryd.ntmps12
 go_wp2_with (go_at_call 26; refine W0.out.mono ?_; rintro _ w1 ⟨rfl, hu1, hb1⟩; have U1 := hid hu1; have B1 := hid (B0.out.trans hb1); clear hu1 hb1)
 clear W0
 obtain ⟨L, hL⟩ : ∃ L, L = s.data.toList := ⟨_, rfl⟩
 have HL := hid hL
 clear hL
 go_loopg [9] s.size (fun gk v9 wr => ∃ m : Nat, m + gk = s.size ∧ v9 = .int .i64 m ∧ Hid (UsBd wr w.heap.size w.heap.size (34 :: (L.take m).flatMap qB)) ∧ Hid (Below w.heap.size w wr))
 case atStart => exact ⟨0, by omega, rfl, U1, B1⟩
 case round =>
   obtain ⟨m, hm, rfl, UX, BX⟩ := hrel
   by_cases hlt : m < s.size
   · have hltI : (m : Int) < s.size := by omega
     have HLs : L.length = s.size := by rw [HL.out]; exact hsl
     have hfl := flat_len (L.take m)
     have hlt2 : (L.take m).length ≤ 100000000 := by rw [List.length_take]; omega
     have hcL : Hid (L[m]'(by omega) = s[m]'hlt) := hid (by have e := HL.out; subst e; rfl)
     have TF := hid (take_flat L m (by omega))
     rw [hcL.out] at TF
     go_upto_region 7 with fail
     clear hcL
     generalize s[m]'hlt = c at *
     have IP := hid (isPlain_c c.toNat wr)
     by_cases hp : plnI c.toNat = true
     · have QE : Hid (qB c = [c]) := hid (by unfold qB; rw [if_pos hp])
       rw [hp] at IP
       have WB := hid (wb_c UX.out.is c (by rw [List.length_cons]; omega) BX.out.size)
       go_wp2_with (first
         | (go_at_call 26; refine WB.out.mono ?_; rintro _ w2 ⟨rfl, hu2, hb2⟩; have U2 := hid hu2; have B2 := hid (BX.out.trans hb2); clear hu2 hb2)
         | (go_at_call 30; refine IP.out.mono ?_; rintro _ w3 ⟨rfl, h3⟩; rw [h3]; clear h3))
       go_roundg (gk - 1)
       case measure => omega
       case rel => exact ⟨m + 1, by omega, by go_num, hid (by rw [TF.out, QE.out]; exact U2.out), B2⟩
     · have hpf : plnI c.toNat = false := by simpa using hp
       have QE : Hid (qB c = [92, hx (c.toNat / 16), hx (c.toNat % 16)]) := hid (by unfold qB; rw [if_neg hp])
       rw [hpf] at IP
       go_upto_region 9 with (go_at_call 30; refine IP.out.mono ?_; rintro _ w3 ⟨rfl, h3⟩; rw [h3]; clear h3)
       go_wp2_with fail
       have hS0 : True := True.intro
       have h256 : c.toNat < 256 := c.toNat_lt
       obtain ⟨k1, hk1, ek1, ek1'⟩ : ∃ k : Nat, k < 16 ∧ (c.toNat : Int) / 16 = (k : Int) ∧ c.toNat / 16 = k := ⟨c.toNat / 16, by omega, by omega, rfl⟩
       obtain ⟨k2, hk2, ek2'⟩ : ∃ k : Nat, k < 16 ∧ c.toNat % 16 = k := ⟨c.toNat % 16, by omega, rfl⟩
       rw [ek1', ek2'] at QE
       refine wp_region_held_drew (S := fun w' => True) (by kernel_rfl) hS0 (fun hHeld => ?_)
       refine take_l 0 (v := ?_) rfl (by kernel_rfl) (by kernel_rfl) (by kernel_rfl) (fun _ _ _ h => h) (Or.inl ⟨by rfl, ?_⟩) (by assumption) ?_
       rotate_left
       · (intro w' hSw; clear hSw; go_simp; first | done | with_reducible rfl)
       try simp only [Act.put, List.setIfInBounds_toArray, List.set_cons_zero, List.set_cons_succ]
       refine take_l 1 (v := ?_) rfl (by kernel_rfl) (by kernel_rfl) (by kernel_rfl) (fun _ _ _ h => h) (Or.inl ⟨by rfl, ?_⟩) (by assumption) ?_
       rotate_left
       · (intro w' hSw; clear hSw; go_simp; first | done | with_reducible rfl)
       try simp only [Act.put, List.setIfInBounds_toArray, List.set_cons_zero, List.set_cons_succ]
       refine take_l 2 (v := .int .u8 ((hx k1).toNat : Int)) rfl (by kernel_rfl) (by kernel_rfl) (by kernel_rfl) (fun _ _ _ h => h) (Or.inl ⟨by rfl, ?_⟩) (by assumption) ?_
       · (intro w' hSw; clear hSw; (have h16 : k1 = 0 ∨ k1 = 1 ∨ k1 = 2 ∨ k1 = 3 ∨ k1 = 4 ∨ k1 = 5 ∨ k1 = 6 ∨ k1 = 7 ∨ k1 = 8 ∨ k1 = 9 ∨ k1 = 10 ∨ k1 = 11 ∨ k1 = 12 ∨ k1 = 13 ∨ k1 = 14 ∨ k1 = 15 := by omega); clear ek1 ek1' QE; rcases h16 with rfl | rfl | rfl | rfl | rfl | rfl | rfl | rfl | rfl | rfl | rfl | rfl | rfl | rfl | rfl | rfl <;> (go_simp; first | done | rfl))
       try simp only [Act.put, List.setIfInBounds_toArray, List.set_cons_zero, List.set_cons_succ]
       refine take_l 3 (v := ?_) rfl (by kernel_rfl) (by kernel_rfl) (by kernel_rfl) (fun _ _ _ h => h) (Or.inl ⟨by rfl, ?_⟩) (by assumption) ?_
       rotate_left
       · (intro w' hSw; clear hSw; go_simp; first | done | with_reducible rfl)
       try simp only [Act.put, List.setIfInBounds_toArray, List.set_cons_zero, List.set_cons_succ]
       refine take_l 4 (v := .int .u8 (k2 : Int)) rfl (by kernel_rfl) (by kernel_rfl) (by kernel_rfl) (fun _ _ _ h => h) (Or.inl ⟨by rfl, ?_⟩) (by assumption) ?_
       · (intro w' hSw; clear hSw; go_simp; rw [and15 c, ek2'])
       try simp only [Act.put, List.setIfInBounds_toArray, List.set_cons_zero, List.set_cons_succ]
       refine take_l 5 (v := .int .u8 ((hx k2).toNat : Int)) rfl (by kernel_rfl) (by kernel_rfl) (by kernel_rfl) (fun _ _ _ h => h) (Or.inl ⟨by rfl, ?_⟩) (by assumption) ?_
       · (intro w' hSw; clear hSw; (have h16 : k2 = 0 ∨ k2 = 1 ∨ k2 = 2 ∨ k2 = 3 ∨ k2 = 4 ∨ k2 = 5 ∨ k2 = 6 ∨ k2 = 7 ∨ k2 = 8 ∨ k2 = 9 ∨ k2 = 10 ∨ k2 = 11 ∨ k2 = 12 ∨ k2 = 13 ∨ k2 = 14 ∨ k2 = 15 := by omega); clear ek1 ek1' ek2' QE; rcases h16 with rfl | rfl | rfl | rfl | rfl | rfl | rfl | rfl | rfl | rfl | rfl | rfl | rfl | rfl | rfl | rfl <;> (go_simp; first | done | rfl))
       try simp only [Act.put, List.setIfInBounds_toArray, List.set_cons_zero, List.set_cons_succ]
       refine cons_l 6 rfl (by kernel_rfl) (fun K hK => ?_)
       go_simp
       have b2 := below_1 wr.drew (.cells (Lib.byteCells [92, hx k1, hx k2]).toArray 5)
       have BD : Below wr.heap.size wr wr.drew := Below.drew (Below.refl _ _)
       have b3 : Below wr.heap.size wr (wr.drew.alloc (.cells (Lib.byteCells [92, hx k1, hx k2]).toArray 5)) := BD.trans b2
       have WR := hid (wr_c (c := 3) (UX.out.later b3) (heap_alloc_new wr.drew (.cells (Lib.byteCells [92, hx k1, hx k2]).toArray 5)) (by simp) (by rw [List.length_cons]; show _ + 3 ≤ _; omega) (BX.out.trans (b3.mono BX.out.size)).size)
       have B3 := hid (BX.out.trans (b3.mono BX.out.size))
       clear b2 b3 BD
       refine hK.out _ _ True.intro (fun hHeld => ?_)
       clear hK K
       try simp only [Act.put, List.setIfInBounds_toArray, List.set_cons_zero, List.set_cons_succ]
       refine cons_l 7 rfl (by kernel_rfl) (fun K hK => ?_)
       go_simp
       refine WR.out.mono ?_; rintro _ w2 ⟨rfl, hu2, hb2⟩; have U2 := hid hu2; have B2 := hid (B3.out.trans hb2); clear hu2 hb2
       go_simp
       refine hK.out _ _ True.intro (fun hHeld => ?_)
       clear hK K
       try simp only [Act.put, List.setIfInBounds_toArray, List.set_cons_zero, List.set_cons_succ]
       refine wpAnyH_done (by kernel_rfl) ?_ _
       go_wp2
       go_roundg (gk - 1)
       case measure => omega
       case rel => exact ⟨m + 1, by omega, by go_num, hid (by rw [TF.out, QE.out]; exact U2.out), B2⟩
   · have hge : ¬ (m : Int) < s.size := by omega
     have em : m = s.size := by omega
     have HLs : L.length = s.size := by rw [HL.out]; exact hsl
     have hfl := flat_len (L.take m)
     have hlt2 : (L.take m).length ≤ 100000000 := by rw [List.length_take]; omega
     have QE : Hid (34 :: (L.take m).flatMap qB ++ [34] = quoteL s.data.toList) := hid (by rw [List.take_of_length_le (by omega), HL.out]; rfl)
     have WB := hid (wb_c UX.out.is 34 (by rw [List.length_cons]; omega) BX.out.size)
     clear hfl hlt2 HLs
     go_wp2_with (first
       | (go_at_call 27; refine BS.out.mono ?_; rintro _ w3 ⟨rfl, hb3⟩; have B3 := hid (B2.out.trans hb3); clear hb3)
       | (go_at_call 26; refine WB.out.mono ?_; rintro _ w2 ⟨rfl, hu2, hb2⟩; have B2 := hid (BX.out.trans hb2); have BS := hid (bs_c hu2.is B2.out.size); rw [QE.out] at BS; clear hu2 hb2))
     go_ret
     exact ⟨rfl, B3.out⟩
end Go.Proofs.YtkokjkaclcjnjaaDoor
