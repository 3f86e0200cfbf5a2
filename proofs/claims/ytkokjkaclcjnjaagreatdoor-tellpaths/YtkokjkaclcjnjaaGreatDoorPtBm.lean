/-
  strings.Builder as the package tell uses it; isPlain; Quote.
  A drawn region walked by hand: the class of worlds may be drawn narrower on the way.
  isPlain, Quote of the package tell.
-/
import Derived.Test.YtkokjkaclcjnjaaGreatDoorPtBl
import Derived.Test.YtkokjkaclcjnjaaGreatDoorPtAe
import Derived.Lib.Builder
import Derived.Lib.UnsafeStr
import Derived.Lib.AppendStr
import Derived.Deep.RegionHeld3
import Derived.Deep.LoopGhost
import Derived.Test.YtkokjkaclcjnjaaGreatDoorPtAa
namespace Go.Proofs.YtkokjkaclcjnjaaGreatDoor
open Go.RowKit Go.ChangeShapes Go.WideShapes Go.ChangeAt
set_option linter.unusedVariables false
set_option linter.unusedSimpArgs false
set_option maxRecDepth 100000
def IsBd (w : World) (B b : Nat) (l : List UInt8) : Prop := Lib.IsBuilder 79 5 B b (Lib.byteCells l) w
def UsBd (w : World) (B b : Nat) (l : List UInt8) : Prop := Lib.BuilderAt 79 5 B b (.pointer (some ⟨b, 0, none⟩)) (Lib.byteCells l) w
theorem UsBd.is {w : World} {B b : Nat} {l : List UInt8} (h : UsBd w B b l) : IsBd w B b l := .inr h
theorem IsBd.new (w : World) : IsBd (w.alloc (.cells #[.pointer none, .slice none 0 0] 79)) w.heap.size w.heap.size [] := Lib.fresh_isBuilder _ _ w
theorem UsBd.later {w w' : World} {B b : Nat} {l : List UInt8} (h : UsBd w B b l) (hb : Below w.heap.size w w') : UsBd w' B b l := by
 have hlt := h.lt
 obtain ⟨h1, v, h2, h3, h4⟩ := h
 exact ⟨h1, v, (hb.block b hlt).trans h2, own_latR h3 hb, h4⟩
theorem IsBd.later {w w' : World} {B b : Nat} {l : List UInt8} (h : IsBd w B b l) (hb : Below w.heap.size w w') : IsBd w' B b l := by
 rcases h with h | h
 · have hlt := h.lt
   obtain ⟨h1, v, h2, h3, h4⟩ := h
   exact .inl ⟨h1, v, (hb.block b hlt).trans h2, own_latR h3 hb, h4⟩
 · exact .inr (UsBd.later h hb)
theorem byteCells_app (a b : List UInt8) : Lib.byteCells (a ++ b) = Lib.byteCells a ++ Lib.byteCells b := by unfold Lib.byteCells; rw [List.map_append]
theorem byteCells_one (c : UInt8) : Lib.byteCells [c] = [.int .u8 (c.toNat : Int)] := rfl
theorem wb_c {w : World} {B b : Nat} {l : List UInt8} (h : IsBd w B b l) (c : UInt8) (hl : l.length ≤ 1000000000) (hB : B ≤ w.heap.size) :
   Calls Tryz.prog 41 #[.pointer (some ⟨b, 0, none⟩), .int .u8 (c.toNat : Int)] w fun e w' => e = .returned .nilIface ∧ UsBd w' B b (l ++ [c]) ∧ Below B w w' :=
 (Tryz.Builder_WriteByte B b (Lib.byteCells l) c.toNat w h (by rw [Lib.byteCells_length]; omega) hB).mono fun e w' ⟨h1, h2, h3⟩ => ⟨h1, by unfold UsBd; rw [byteCells_app, byteCells_one]; exact h2, h3⟩
theorem ws_c {w : World} {B b : Nat} {l : List UInt8} (h : IsBd w B b l) (s : ByteArray) (hl : l.length + s.size ≤ 1000000000) (hB : B ≤ w.heap.size) :
   Calls Tryz.prog 37 #[.pointer (some ⟨b, 0, none⟩), .string s] w fun e w' => e = .returned (.tuple #[.int .i64 s.size, .nilIface]) ∧ UsBd w' B b (l ++ s.data.toList) ∧ Below B w w' :=
 (Tryz.Builder_WriteString B b (Lib.byteCells l) s w h (by rw [Lib.byteCells_length]; omega) hB).mono fun e w' ⟨h1, h2, h3⟩ => ⟨h1, by unfold UsBd; rw [byteCells_app]; exact h2, h3⟩
theorem bs_c {w : World} {B b : Nat} {l : List UInt8} (h : IsBd w B b l) (hB : B ≤ w.heap.size) :
   Calls Tryz.prog 39 #[.pointer (some ⟨b, 0, none⟩)] w fun e w' => e = .returned (.string ⟨l.toArray⟩) ∧ Below B w w' := Tryz.Builder_String_any B b l w h hB
theorem info_u8B : ∃ i : TypeInfo, Tryz.prog.info? 5 = some i ∧ i.zero = some (.int .u8 0) ∧ i.size = 1 ∧ i.bytes = 1 := by
 have h : (Tryz.prog.info? 5).map (fun i => (i.zero, i.size, i.bytes)) = some (some (.int .u8 0), 1, 1) := by kernel_rfl
 cases hi : Tryz.prog.info? 5 with
 | none => rw [hi] at h; cases h
 | some i => rw [hi] at h; simp at h; exact ⟨i, rfl, h.1, h.2.1, h.2.2⟩
set_option maxHeartbeats 2000000 in
theorem wr_c {w : World} {B b g c : Nat} {l cs : List UInt8} (h : UsBd w B b l) (hg : w.heap[g]? = some (.cells (Lib.byteCells cs).toArray 5 (0, 0))) (hc : cs ≠ []) (hl : l.length + cs.length ≤ 1000000000) (hB : B ≤ w.heap.size) :
   Calls Tryz.prog 43 #[.pointer (some ⟨b, 0, none⟩), .slice (some ⟨g, 0, none⟩) cs.length c] w fun e w' => e = .returned (.tuple #[.int .i64 cs.length, .nilIface]) ∧ UsBd w' B b (l ++ cs) ∧ Below B w w' := by
 obtain ⟨i0, hi, hz0, hz1, hz2⟩ := info_u8B
 have CK := hid (Any.Builder_copyCheck_used Tryz.tl240 Tryz.tlX.toX72 b w h.cell0)
 obtain ⟨hBb, v, hbk, hown, hne⟩ := h
 have hlt := lt_blkR hbk
 have c0 : w.cell? ⟨b, 0, none⟩ = some (.pointer (some ⟨b, 0, none⟩)) := by rw [Lib.cell_of_heap hbk]; rfl
 have c1 : w.cell? ⟨b, 1, none⟩ = some v := by rw [Lib.cell_of_heap hbk]; rfl
 rw [Lib.byteCells_length l] at hown
 obtain ⟨va, vc, rfl⟩ : ∃ va vc, v = .slice va l.length vc := by
   rcases hown.2 with ⟨e, e0⟩ | ⟨g', cap, cur, hv, _⟩
   · exact ⟨none, 0, by rw [e, e0]⟩
   · exact ⟨_, cap, hv⟩
 have HCB : Hid ((Lib.byteCells cs).length = cs.length) := hid (Lib.byteCells_length cs)
 have hcp : 0 < cs.length := List.length_pos_iff.2 hc
 have NW : ∀ j u, (Lib.byteCells cs)[j]? = some u → w.cell? ((⟨g, 0, none⟩ : Addr).add j) = some u := fun j u hu => by
   have e : (⟨g, 0, none⟩ : Addr).add j = ⟨g, 0 + j, none⟩ := by unfold Addr.add; split <;> simp_all
   rw [e, cell_of_row w g _ _ _ _ hg]
   simpa using hu
 go_enter Tryz.func43, Tryz.ntmps43
 go_upto_region 2 with (go_at_call 56; refine CK.out.mono ?_; rintro _ w1 ⟨rfl, hw1⟩; rw [hw1])
 go_wp2_with (at_builtin; refine wpList_append_own _ rfl _ _ 34 rfl B 5 i0 (.int .u8 0) 1 1 Tryz.underlying34 hi hz0 hz1 hz2 rfl (by decide) _ _ _ rfl hown ⟨g, 0, none⟩ cs.length c (Lib.byteCells cs) rfl ?c0 NW ?c2 ?c3 ?c4 hB ?_)
 case c0 => rw [HCB.out]; omega
 case c2 =>
   intro u hu
   unfold Lib.byteCells at hu
   obtain ⟨x, _, rfl⟩ := List.mem_map.1 hu
   rfl
 case c3 => unfold maxLen; omega
 case c4 => omega
 intro v' w2 hown' hgrow _
 have hb2 : w2.heap[b]? = some (.cells #[.pointer (some ⟨b, 0, none⟩), .slice va l.length vc] 79 (0, 0)) := (hgrow.block b hlt (fun e => hne e.symm)).trans hbk
 have d0 : w2.cell? ⟨b, 0, none⟩ = some (.pointer (some ⟨b, 0, none⟩)) := by rw [Lib.cell_of_heap hb2]; rfl
 have d1 : w2.cell? ⟨b, 1, none⟩ = some (.slice va l.length vc) := by rw [Lib.cell_of_heap hb2]; rfl
 have f1 : w2.frozen? ⟨b, 1, none⟩ = false := Lib.frozen_of_heap hb2 1
 obtain ⟨g', cap', rfl⟩ : ∃ g' cap', v' = .slice (some ⟨g', 0, none⟩) (l.length + cs.length) cap' := by
   rcases hown'.2 with ⟨_, h0⟩ | ⟨g', cap', cur, hv, _⟩
   · omega
   · exact ⟨g', cap', hv⟩
 go_wp2
 refine bodyPost_ret (v := .tuple #[.int .i64 cs.length, .nilIface]) (by simp [results, Tryz.results43, go_sem]) rfl ⟨rfl, ?_, ?_⟩
 · unfold UsBd
   rw [byteCells_app]
   exact Lib.BuilderAt.put (T := 79) (e := 5) hBb hb2 (bs' := Lib.byteCells l ++ Lib.byteCells cs) (by rw [List.length_append, HCB.out, Lib.byteCells_length l]; exact hown') (by decide)
 · exact ((Below.refl B w).grown hgrow hB (fun k hk => (hown.lt k hk).1)).setCell (p := ⟨b, 1, none⟩) hBb _
end Go.Proofs.YtkokjkaclcjnjaaGreatDoor
namespace Go.Proofs.YtkokjkaclcjnjaaGreatDoor
open Go.RowKit Go.ChangeShapes Go.WideShapes Go.ChangeAt
set_option linter.unusedVariables false
set_option maxRecDepth 100000
theorem at_drop {l r : List Oper} {i : Nat} {o : Oper} (h : l.drop i = o :: r) : l.toArray[i]? = some o := by
 have := congrArg (fun x : List Oper => x[0]?) h
 simpa using this
theorem take_l {P : Program} {md : Region.Mode} {l r : List Oper} {Q : Exit → Act → World → Prop} {S : World → Prop} (i : Nat) {oi : Oper} {v : Value} {fuel : Nat} {listed : Array Bool} {a : Act} {w : World} (hi : l.drop i = oi :: r)
   (hs : Region.noSelect l.toArray = true) (hf : Region.free md l.toArray listed i = true) (hr : (Region.ready md l.toArray listed).contains i = true)
   (hQ : ∀ c a w, Q (.panic c) (a.put oi.dst v) w → Q (.panic c) a w) (hy : YieldsIf P l.toArray S oi v a) (hS : S w)
   (h : wpAnyH P md l.toArray Q S fuel (listed.setIfInBounds i true) (a.put oi.dst v) w) : wpAnyH P md l.toArray Q S (fuel + 1) listed a w :=
 wpAnyH_take (at_drop hi) hs hf hr hQ hy hS h
theorem cons_l {P : Program} {md : Region.Mode} {l r : List Oper} {Q : Exit → Act → World → Prop} {S : World → Prop} (i : Nat) {fuel : Nat} {listed : Array Bool} {a : Act} {w : World} {o : Oper} (ho : l.drop i = o :: r)
   (hr : Region.ready md l.toArray listed = [i])
   (h : ∀ K' : Act → World → Prop, Shut (∀ a w, S w → (S w → wpAnyH P md l.toArray Q S fuel (listed.setIfInBounds i true) a w) → K' a w) → if Region.wanted o (yielded l.toArray a.tmps) = true then Oper.wp P o a w K' Q else K' (a.put o.dst undef) w) :
   wpAnyH P md l.toArray Q S (fuel + 1) listed a w :=
 wpAnyH_ready hr (by simp) (AllReadyH.cons (at_drop ho) h AllReadyH.nil)
end Go.Proofs.YtkokjkaclcjnjaaGreatDoor
namespace Go.Proofs.YtkokjkaclcjnjaaGreatDoor
open Go.RowKit Go.ChangeShapes Go.WideShapes Go.ChangeAt
set_option linter.unusedVariables false
set_option linter.unusedSimpArgs false
set_option maxRecDepth 100000
def plnI (z : Int) : Bool := decide (32 ≤ z) && decide (z ≤ 126) && !(z == 34) && !(z == 92)
def hexL : List UInt8 := [48, 49, 50, 51, 52, 53, 54, 55, 56, 57, 97, 98, 99, 100, 101, 102]
def hx (n : Nat) : UInt8 := hexL.getD n 0
def qB (c : UInt8) : List UInt8 := if plnI c.toNat then [c] else [92, hx (c.toNat / 16), hx (c.toNat % 16)]
def quoteL (l : List UInt8) : List UInt8 := 34 :: (l.flatMap qB ++ [34])
theorem qB_len (c : UInt8) : 1 ≤ (qB c).length ∧ (qB c).length ≤ 3 := by unfold qB; split <;> simp
theorem flat_len (l : List UInt8) : l.length ≤ (l.flatMap qB).length ∧ (l.flatMap qB).length ≤ 3 * l.length := by
 induction l with
 | nil => simp
 | cons c t ih => have := qB_len c; rw [List.flatMap_cons, List.length_append, List.length_cons]; omega
theorem and15_all : ((List.range 256).all fun n => decide (bits .and .u8 (n : Int) 15 = ((n % 16 : Nat) : Int))) = true := by kernel_rfl
theorem and15 (c : UInt8) : bits .and .u8 (c.toNat : Int) 15 = ((c.toNat % 16 : Nat) : Int) := by
 have := List.all_eq_true.1 and15_all c.toNat (List.mem_range.2 c.toNat_lt)
 simpa using this
set_option maxHeartbeats 1000000 in
theorem isPlain_c (z : Int) (w : World) : Calls Tryz.prog 42 #[.int .u8 z] w fun e w' => e = .returned (.bool (plnI z)) ∧ w' = w := by
 go_enter Tryz.func42, Tryz.ntmps42
 go_wp2
 all_goals go_ret
 all_goals exact ⟨ret_bool' (by first | rfl | (rw [Bool.eq_iff_iff]; simp_all [plnI]; done) | (rw [Bool.eq_iff_iff]; simp_all [plnI]; omega)), rfl⟩
theorem take_flat (l : List UInt8) (m : Nat) (h : m < l.length) : (l.take (m + 1)).flatMap qB = (l.take m).flatMap qB ++ qB (l[m]'h) := by
 rw [List.take_succ_eq_append_getElem h, List.flatMap_append]
 simp
set_option maxHeartbeats 4000000 in
theorem quote_c (s : ByteArray) (w : World) (hs : s.size ≤ 100000000) :
   Calls Tryz.prog 20 #[.string s] w fun e w' => e = .returned (.string ⟨(quoteL s.data.toList).toArray⟩) ∧ Below w.heap.size w w' := by
 have hsl : s.data.toList.length = s.size := rfl
 have b0 := below_1 w (.cells #[.pointer none, .slice none 0 0] 79)
 have W0 := hid (wb_c (IsBd.new w) 34 (by simp) b0.size)
 have B0 := hid b0
 clear b0
 go_enter Tryz.func20, Tryz.ntmps20
 go_wp2_with (go_at_call 41; refine W0.out.mono ?_; rintro _ w1 ⟨rfl, hu1, hb1⟩; have U1 := hid hu1; have B1 := hid (B0.out.trans hb1); clear hu1 hb1)
 clear W0
 obtain ⟨L, hL⟩ : ∃ L, L = s.data.toList := ⟨_, rfl⟩
 have HL := hid hL
 clear hL
 go_loopg [9] s.size (fun gk v9 wr => ∃ m : Nat, m + gk = s.size ∧ v9 = .int .i64 m ∧ Hid (UsBd wr w.heap.size w.heap.size (34 :: (L.take m).flatMap qB)) ∧ Hid (Below w.heap.size w wr))
 case atStart => exact ⟨0, by omega, rfl, U1, B1⟩
 case round =>
   obtain ⟨m, hm, rfl, UX, BX⟩ := hrel
   by_cases hlt : m < s.size
   · have hltI : (m : Int) < s.size := by omega
     have HLs : L.length = s.size := by rw [HL.out]; exact hsl
     have hfl := flat_len (L.take m)
     have hlt2 : (L.take m).length ≤ 100000000 := by rw [List.length_take]; omega
     have hcL : Hid (L[m]'(by omega) = s[m]'hlt) := hid (by have e := HL.out; subst e; rfl)
     have TF := hid (take_flat L m (by omega))
     rw [hcL.out] at TF
     go_upto_region 7 with fail
     clear hcL
     generalize s[m]'hlt = c at *
     have IP := hid (isPlain_c c.toNat wr)
     by_cases hp : plnI c.toNat = true
     · have QE : Hid (qB c = [c]) := hid (by unfold qB; rw [if_pos hp])
       rw [hp] at IP
       have WB := hid (wb_c UX.out.is c (by rw [List.length_cons]; omega) BX.out.size)
       go_wp2_with (first
         | (go_at_call 41; refine WB.out.mono ?_; rintro _ w2 ⟨rfl, hu2, hb2⟩; have U2 := hid hu2; have B2 := hid (BX.out.trans hb2); clear hu2 hb2)
         | (go_at_call 42; refine IP.out.mono ?_; rintro _ w3 ⟨rfl, h3⟩; rw [h3]; clear h3))
       go_roundg (gk - 1)
       case measure => omega
       case rel => exact ⟨m + 1, by omega, by go_num, hid (by rw [TF.out, QE.out]; exact U2.out), B2⟩
     · have hpf : plnI c.toNat = false := by simpa using hp
       have QE : Hid (qB c = [92, hx (c.toNat / 16), hx (c.toNat % 16)]) := hid (by unfold qB; rw [if_neg hp])
       rw [hpf] at IP
       go_upto_region 9 with (go_at_call 42; refine IP.out.mono ?_; rintro _ w3 ⟨rfl, h3⟩; rw [h3]; clear h3)
       go_wp2_with fail
       have hS0 : True := True.intro
       have h256 : c.toNat < 256 := c.toNat_lt
       obtain ⟨k1, hk1, ek1, ek1'⟩ : ∃ k : Nat, k < 16 ∧ (c.toNat : Int) / 16 = (k : Int) ∧ c.toNat / 16 = k := ⟨c.toNat / 16, by omega, by omega, rfl⟩
       obtain ⟨k2, hk2, ek2'⟩ : ∃ k : Nat, k < 16 ∧ c.toNat % 16 = k := ⟨c.toNat % 16, by omega, rfl⟩
       rw [ek1', ek2'] at QE
       refine wp_region_held_drew (S := fun w' => True) (by kernel_rfl) hS0 (fun hHeld => ?_)
       refine take_l 0 (v := ?_) rfl (by kernel_rfl) (by kernel_rfl) (by kernel_rfl) (fun _ _ _ h => h) (Or.inl ⟨by rfl, ?_⟩) (by assumption) ?_
       rotate_left
       · (intro w' hSw; clear hSw; go_simp; first | done | with_reducible rfl)
       try simp only [Act.put, List.setIfInBounds_toArray, List.set_cons_zero, List.set_cons_succ]
       refine take_l 1 (v := ?_) rfl (by kernel_rfl) (by kernel_rfl) (by kernel_rfl) (fun _ _ _ h => h) (Or.inl ⟨by rfl, ?_⟩) (by assumption) ?_
       rotate_left
       · (intro w' hSw; clear hSw; go_simp; first | done | with_reducible rfl)
       try simp only [Act.put, List.setIfInBounds_toArray, List.set_cons_zero, List.set_cons_succ]
       refine take_l 2 (v := .int .u8 ((hx k1).toNat : Int)) rfl (by kernel_rfl) (by kernel_rfl) (by kernel_rfl) (fun _ _ _ h => h) (Or.inl ⟨by rfl, ?_⟩) (by assumption) ?_
       · (intro w' hSw; clear hSw; (have h16 : k1 = 0 ∨ k1 = 1 ∨ k1 = 2 ∨ k1 = 3 ∨ k1 = 4 ∨ k1 = 5 ∨ k1 = 6 ∨ k1 = 7 ∨ k1 = 8 ∨ k1 = 9 ∨ k1 = 10 ∨ k1 = 11 ∨ k1 = 12 ∨ k1 = 13 ∨ k1 = 14 ∨ k1 = 15 := by omega); clear ek1 ek1' QE; rcases h16 with rfl | rfl | rfl | rfl | rfl | rfl | rfl | rfl | rfl | rfl | rfl | rfl | rfl | rfl | rfl | rfl <;> (go_simp; first | done | rfl))
       try simp only [Act.put, List.setIfInBounds_toArray, List.set_cons_zero, List.set_cons_succ]
       refine take_l 3 (v := ?_) rfl (by kernel_rfl) (by kernel_rfl) (by kernel_rfl) (fun _ _ _ h => h) (Or.inl ⟨by rfl, ?_⟩) (by assumption) ?_
       rotate_left
       · (intro w' hSw; clear hSw; go_simp; first | done | with_reducible rfl)
       try simp only [Act.put, List.setIfInBounds_toArray, List.set_cons_zero, List.set_cons_succ]
       refine take_l 4 (v := .int .u8 (k2 : Int)) rfl (by kernel_rfl) (by kernel_rfl) (by kernel_rfl) (fun _ _ _ h => h) (Or.inl ⟨by rfl, ?_⟩) (by assumption) ?_
       · (intro w' hSw; clear hSw; go_simp; rw [and15 c, ek2'])
       try simp only [Act.put, List.setIfInBounds_toArray, List.set_cons_zero, List.set_cons_succ]
       refine take_l 5 (v := .int .u8 ((hx k2).toNat : Int)) rfl (by kernel_rfl) (by kernel_rfl) (by kernel_rfl) (fun _ _ _ h => h) (Or.inl ⟨by rfl, ?_⟩) (by assumption) ?_
       · (intro w' hSw; clear hSw; (have h16 : k2 = 0 ∨ k2 = 1 ∨ k2 = 2 ∨ k2 = 3 ∨ k2 = 4 ∨ k2 = 5 ∨ k2 = 6 ∨ k2 = 7 ∨ k2 = 8 ∨ k2 = 9 ∨ k2 = 10 ∨ k2 = 11 ∨ k2 = 12 ∨ k2 = 13 ∨ k2 = 14 ∨ k2 = 15 := by omega); clear ek1 ek1' ek2' QE; rcases h16 with rfl | rfl | rfl | rfl | rfl | rfl | rfl | rfl | rfl | rfl | rfl | rfl | rfl | rfl | rfl | rfl <;> (go_simp; first | done | rfl))
       try simp only [Act.put, List.setIfInBounds_toArray, List.set_cons_zero, List.set_cons_succ]
       refine cons_l 6 rfl (by kernel_rfl) (fun K hK => ?_)
       go_simp
       have b2 := below_1 wr.drew (.cells (Lib.byteCells [92, hx k1, hx k2]).toArray 5)
       have BD : Below wr.heap.size wr wr.drew := Below.drew (Below.refl _ _)
       have b3 : Below wr.heap.size wr (wr.drew.alloc (.cells (Lib.byteCells [92, hx k1, hx k2]).toArray 5)) := BD.trans b2
       have WR := hid (wr_c (c := 3) (UX.out.later b3) (heap_alloc_new wr.drew (.cells (Lib.byteCells [92, hx k1, hx k2]).toArray 5)) (by simp) (by rw [List.length_cons]; show _ + 3 ≤ _; omega) (BX.out.trans (b3.mono BX.out.size)).size)
       have B3 := hid (BX.out.trans (b3.mono BX.out.size))
       clear b2 b3 BD
       refine hK.out _ _ True.intro (fun hHeld => ?_)
       clear hK K
       try simp only [Act.put, List.setIfInBounds_toArray, List.set_cons_zero, List.set_cons_succ]
       refine cons_l 7 rfl (by kernel_rfl) (fun K hK => ?_)
       go_simp
       refine WR.out.mono ?_; rintro _ w2 ⟨rfl, hu2, hb2⟩; have U2 := hid hu2; have B2 := hid (B3.out.trans hb2); clear hu2 hb2
       go_simp
       refine hK.out _ _ True.intro (fun hHeld => ?_)
       clear hK K
       try simp only [Act.put, List.setIfInBounds_toArray, List.set_cons_zero, List.set_cons_succ]
       refine wpAnyH_done (by kernel_rfl) ?_ _
       go_wp2
       go_roundg (gk - 1)
       case measure => omega
       case rel => exact ⟨m + 1, by omega, by go_num, hid (by rw [TF.out, QE.out]; exact U2.out), B2⟩
   · have hge : ¬ (m : Int) < s.size := by omega
     have em : m = s.size := by omega
     have HLs : L.length = s.size := by rw [HL.out]; exact hsl
     have hfl := flat_len (L.take m)
     have hlt2 : (L.take m).length ≤ 100000000 := by rw [List.length_take]; omega
     have QE : Hid (34 :: (L.take m).flatMap qB ++ [34] = quoteL s.data.toList) := hid (by rw [List.take_of_length_le (by omega), HL.out]; rfl)
     have WB := hid (wb_c UX.out.is 34 (by rw [List.length_cons]; omega) BX.out.size)
     clear hfl hlt2 HLs
     go_wp2_with (first
       | (go_at_call 39; refine BS.out.mono ?_; rintro _ w3 ⟨rfl, hb3⟩; have B3 := hid (B2.out.trans hb3); clear hb3)
       | (go_at_call 41; refine WB.out.mono ?_; rintro _ w2 ⟨rfl, hu2, hb2⟩; have B2 := hid (BX.out.trans hb2); have BS := hid (bs_c hu2.is B2.out.size); rw [QE.out] at BS; clear hu2 hb2))
     go_ret
     exact ⟨rfl, B3.out⟩
end Go.Proofs.YtkokjkaclcjnjaaGreatDoor
