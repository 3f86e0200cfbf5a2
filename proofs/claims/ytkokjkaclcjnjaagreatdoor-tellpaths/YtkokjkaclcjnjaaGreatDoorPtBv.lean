/-
  The document's Find: where a path leads in a right tree.
-/
import Derived.Test.YtkokjkaclcjnjaaGreatDoorPtAy
import Derived.Test.YtkokjkaclcjnjaaGreatDoorPtBt
import Derived.Test.YtkokjkaclcjnjaaGreatDoorPtBu
import Derived.Test.YtkokjkaclcjnjaaGreatDoorPtBm
import Derived.Test.YtkokjkaclcjnjaaGreatDoorPtBo
namespace Go.Proofs.YtkokjkaclcjnjaaGreatDoor
open Go.RowKit Go.ChangeShapes Go.WideShapes Go.ChangeAt Go.Maps Go.Shelf
set_option linter.unusedVariables false
set_option linter.unusedSimpArgs false
set_option maxRecDepth 100000
def FdP (l : List Nd) (s : ByteArray) (w : World) (e : Ending) (w' : World) : Prop :=
 (∃ f er : Int, e = .returned (.tuple #[.int .u32 f, .int .i64 er]) ∧ ((∀ x ∈ l, x.k ≠ 3) → ∀ ns g, Pa.splitF s.data.toList = some ns → Lead l 1 ns g → f = g ∧ er = 0)) ∧ Below w.heap.size w w'
theorem IsS.tail {w : World} {b off n cap : Nat} {x : List UInt8} {ss : List (List UInt8)} (h : IsS w (.slice (some ⟨b, off, none⟩) n cap) (x :: ss)) : IsS w (.slice (some ⟨b, off + 1, none⟩) (n - 1) (cap - 1)) ss := by
 obtain ⟨a, c, h1, h2, h3, h4, h5⟩ := h
 cases h1
 simp only [List.length_cons] at *
 refine ⟨_, _, rfl, by omega, by omega, fun hp => ⟨b, off + 1, rfl, fun i hi => ?_⟩, fun p hp => h5 p (List.mem_cons_of_mem _ hp)⟩
 obtain ⟨b', off', e, hc⟩ := h4 (by omega)
 cases e
 have := hc (i + 1) (by omega)
 rw [show off + 1 + i = off + (i + 1) from by omega]
 rw [this]; rfl
theorem isS_small {w : World} {v : Value} {ss : List (List UInt8)} (h : IsS w v ss) : ∀ p ∈ ss, p.length ≤ maxLen := by
 obtain ⟨_, _, _, _, _, _, h5⟩ := h
 exact h5
theorem step_appI (w : World) {ops : Array Oper} {o : Oper} {a : Act} {K : Act → World → Prop} {Q : Exit → Act → World → Prop} {E : Prop} (hgd : o.guard = none) (s x : Operand)
   (ho : o.op = .call { callee := .builtin .append, args := #[s, x], argTypes := #[28, 28] })
   (base : Nat) (v u : Value) (L M : List (List UInt8)) (hs : a.eval s = v) (hown : w.ownsRow base 9 1 v L.length (L.map strV)) (hx : a.eval x = u) (hu : u = .slice none 0 0 ∨ ∃ x n cap, u = .slice (some x) n cap) (hsrc : IsS w u M) (hl : L.length ≤ 100000) (hm : M.length ≤ 100000) (hb : base ≤ w.heap.size)
   (h : ∀ v' w', w'.ownsRow base 9 1 v' (L ++ M).length ((L ++ M).map strV) → w.grownBy w' v.ownBlock → K (a.put o.dst v') w') :
   if Region.wanted o (yielded ops a.tmps) = true then Oper.wp Tryz.prog o a w K Q else E := by
 rw [if_pos (by simp [Region.wanted, hgd])]
 obtain ⟨i0, hi0, hz0, hz1, hz2⟩ := info_parts info_str
 have hI := hsrc
 obtain ⟨p, c, hue, _⟩ := hsrc
 rcases hu with e | ⟨y, n, c', e⟩
 · have hM : M = [] := by
     obtain ⟨a', c', e', _, _, h4, _⟩ := hI
     rw [e] at e'
     injection e' with q1 q2 q3
     rcases M with _ | ⟨m, M⟩
     · rfl
     · obtain ⟨b, off, e5, _⟩ := h4 (by simp)
       rw [← q1] at e5
       cases e5
   subst hM
   have hrun := run_append_owned_none (P := Tryz.prog) (w := w) base 28 o.type 9 i0 1 Tryz.underlying28 hi0 v _ _ hown
   have hw := h v w (by simpa using hown) (World.grownBy.refl w _)
   have hx' := hx.trans e
   unfold Oper.wp
   simp [execOp, ho, resolve, invoke, builtin, hs, hx', hrun, Result.andThen]
   exact hw
 · rw [e] at hue hI
   cases hue
   refine wp_append_own w s x 28 ho base 9 i0 (.string ByteArray.empty) 1 16 Tryz.underlying28 hi0 hz0 hz1 hz2 (by rfl) (by decide) v L.length _ hs hown y M.length c (M.map strV) (hx.trans e) (by simp) hI.cells (strs_one M) (by unfold maxLen; omega) (by omega) hb ?_
   intro v' w' q1 q2 _
   exact h v' w' (by rw [List.map_append, List.length_append]; exact q1) q2
set_option maxHeartbeats 4000000 in
theorem rfind_c {a : Option Addr} {cap : Nat} {l : List Nd} (R : Rt l) (s : ByteArray) (w : World) (m : Int) (h : IsNs w a l) (hmx : w.cell? ⟨Tryz.lays146_ren.g 1, 0, none⟩ = some (.int .i64 m)) (hs : s.size ≤ maxLen) :
   Calls Tryz.prog 7 #[.slice a l.length cap, .string s] w (FdP l s w) := by
 have h40 := R.few
 have RC := hid (fun W (hW : Below w.heap.size w W) => rRight_c a cap l W (h.later hW) (by omega))
 rw [rightD_rt.2 R] at RC
 cases hsp : Pa.splitF s.data.toList with
 | none =>
   have SC := hid (rsplit_not s w m hmx hs hsp)
   have FP : Hid (∀ W, Below w.heap.size w W → FdP l s w (.returned (.tuple #[.int .u32 0, .int .i64 3])) W) := hid (fun W hW => ⟨⟨0, 3, rfl, fun _ ns g e => by rw [hsp] at e; cases e⟩, hW⟩)
   clear hsp R h hmx
   go_enter Tryz.func7, Tryz.ntmps7
   go_wp2_with (go_at_call 16; refine SC.out.mono ?_; rintro _ w1 ⟨rfl, hb1⟩; have B1 := hid hb1; clear hb1)
   refine bodyPost_ret (v := .tuple #[.int .u32 0, .int .i64 3]) (by simp [results, Tryz.results7, go_sem]) rfl (FP.out _ B1.out)
 | some ns0 =>
   have SC := hid (rsplit_yes s w m hmx hs ns0 hsp)
   have hn0 := Pa.names_few hsp
   have HSP := hid hsp
   have HMX := hid hmx
   have HH := hid h
   have HR := hid R
   have GC := hid (fun (f : Int) W (hW : Below w.heap.size w W) => get2_c a cap l f W (h.later hW) (by omega))
   have LC := hid (fun (f : Int) (t : ByteArray) W (hW : Below w.heap.size w W) => rlook_c a cap l f t W (h.later hW) (by omega) (fun x hx => by have := (nodeOk_few (R.ok x hx).1); omega))
   clear hsp R h hmx
   go_enter Tryz.func7, Tryz.ntmps7
   go_upto_region 6 with (first
     | (go_at_call 10; refine (RC.out _ B1.out).mono ?_; rintro _ w2 ⟨rfl, hb2⟩; have B2 := hid (B1.out.trans (hb2.mono B1.out.size)); have S2 := hid (S1.out.later hb2); clear hb2)
     | (go_at_call 16; refine SC.out.mono ?_; rintro _ w1 ⟨v1, rfl, hs1, hv1, hb1⟩; obtain ⟨a1, c1, e1, _⟩ := id hs1; subst e1; have S1 := hid hs1; have B1 := hid hb1; clear hs1 hv1 hb1))
   go_loopg [6, 8, 9] (16000 + ns0.length) (fun gk v6 v8 v9 wr => ∃ (ns : List (List UInt8)) (f : Int) (k : Nat), k ≤ 8 ∧ ns.length ≤ 120 * (k + 1) ∧ gk = (8 - k) * 2000 + ns.length ∧ v8 = .int .u32 f ∧ v9 = .int .i64 k ∧ Hid (IsS wr v6 ns) ∧ Hid (Below w.heap.size w wr) ∧ Hid ((∀ x ∈ l, x.k ≠ 3) → ∀ g, Lead l 1 ns0 g → Lead l f ns g))
   case atStart => exact ⟨ns0, 1, 0, by omega, by omega, by omega, rfl, rfl, S2, B2, hid (fun _ g h => h)⟩
   case round =>
     obtain ⟨ns, f, k, hk, hn, hgk, rfl, rfl, SX, BX, LX⟩ := hrel
     clear S1 S2 B1 B2
     obtain ⟨va, vc, e6, hvn, hvc, hcell, _⟩ := id SX.out
     subst e6
     unfold maxLen at hvc
     rcases ns with _ | ⟨n, ns⟩
     · have FP : Hid (∀ W, Below w.heap.size w W → FdP l s w (.returned (.tuple #[.int .u32 f, .int .i64 0])) W) := hid (fun W hW => ⟨⟨f, 0, rfl, fun h3 ns' g e hl => by rw [HSP.out] at e; cases e; exact ⟨LX.out h3 g hl, rfl⟩⟩, hW⟩)
       simp only [List.length_nil] at *
       go_wp2
       refine bodyPost_ret (v := .tuple #[.int .u32 f, .int .i64 0]) (by simp [results, Tryz.results7, go_sem]) rfl (FP.out _ BX.out)
     · obtain ⟨b, off, eva, hc⟩ := hcell (by simp)
       subst eva
       obtain ⟨t, ht⟩ : ∃ t : ByteArray, t = ⟨n.toArray⟩ := ⟨_, rfl⟩
       have c0 : wr.cell? ⟨b, off, none⟩ = some (.string t) := by rw [ht]; exact hc 0 (by simp)
       have ST : Hid ((∀ x ∈ l, x.k ≠ 3) → ∀ g, Lead l 1 ns0 g → lookE (getF l f) t = 0 ∧ Lead l (lookI (getF l f) t) ns g) := hid (fun h3 g hg => by rw [ht]; exact lead_step HR.out (LX.out h3 g hg))
       have TX : Hid (∀ W, Below w.heap.size w W → Below wr.heap.size wr W → IsS W (.slice (some ⟨b, off + 1, none⟩) ((n :: ns).length - 1) (vc - 1)) ns) := hid (fun W _ hW => (SX.out.later hW).tail)
       have LCx := hid (LC.out f t wr BX.out)
       clear hc hcell ht LX SX
       simp only [List.length_cons] at *
       generalize lookE (getF l f) t = le at *
       generalize lookI (getF l f) t = li at *
       by_cases q0 : le = 0
       · subst q0
         have YO := getD_ok li HH.out
         have Y3 : Hid (((getF l li).getD Nd.no).k = 3 → ¬ ∀ x ∈ l, x.k ≠ 3) := hid (fun e h3 => by
           cases hg : getF l li with
           | none => rw [hg] at e; revert e; decide
           | some y => rw [hg] at e; exact h3 y (getF_mem hg).1 e)
         have GCx := hid (GC.out li)
         unfold gotV at GCx
         generalize (getF l li).getD Nd.no = y at *
         generalize (getF l li).isSome = yb at *
         obtain ⟨yf, yk, ym, yl, yda, ydc, yzs, yka, ykc, ks⟩ := y
         simp only [Nd.val] at GCx
         simp only at Y3
         have hzl : yzs.length ≤ maxLen := YO.2.2.2.2.1.2.1
         have YB : Hid (IsB w yda yzs.length yzs) := hid YO.2.2.2.2.1
         clear YO
         go_upto_region 11 with (first
           | (go_at_call 8; refine (GCx.out _ B3.out).mono ?_; rintro _ w4 ⟨rfl, hb4⟩; have B4 := hid (B3.out.trans (hb4.mono B3.out.size)); have D4 := hid (D3.out.trans (hb4.mono D3.out.size)); clear hb4)
           | (go_at_call 17; refine LCx.out.mono ?_; rintro _ w3 ⟨rfl, hb3⟩; have B3 := hid (BX.out.trans (hb3.mono BX.out.size)); have D3 := hid hb3; clear hb3))
         have bV := below_1 w4 (.cells #[.int .u32 yf, .int .u8 yk, .int .u16 ym, .int .u16 yl, .slice yda yzs.length ydc, .slice yka ks.length ykc] 37)
         have gh := heap_alloc_new w4 (.cells #[.int .u32 yf, .int .u8 yk, .int .u16 ym, .int .u16 yl, .slice yda yzs.length ydc, .slice yka ks.length ykc] 37)
         have B5 := hid (B4.out.trans (bV.mono B4.out.size))
         have D5 := hid (D4.out.trans (bV.mono D4.out.size))
         generalize w4.alloc (.cells #[.int .u32 yf, .int .u8 yk, .int .u16 ym, .int .u16 yl, .slice yda yzs.length ydc, .slice yka ks.length ykc] 37) = V at *
         generalize w4.heap.size = G at *
         have g1 : V.cell? ⟨G, 1, none⟩ = some (.int .u8 yk) := cell_of_row2 gh 1 rfl
         have g4 : V.cell? ⟨G, 4, none⟩ = some (.slice yda yzs.length ydc) := cell_of_row2 gh 4 rfl
         clear gh bV B3 B4 D3 D4
         have T5 := hid (TX.out V B5.out D5.out)
         by_cases q3 : yk = 3
         · subst q3
           have N3 := hid (Y3.out rfl)
           by_cases q8 : k = 8
           · subst q8
             have FP : Hid (∀ W, Below w.heap.size w W → FdP l s w (.returned (.tuple #[.int .u32 0, .int .i64 14])) W) := hid (fun W hW => ⟨⟨0, 14, rfl, fun h3 => absurd h3 N3.out⟩, hW⟩)
             go_wp2
             refine bodyPost_ret (v := .tuple #[.int .u32 0, .int .i64 14]) (by simp [results, Tryz.results7, go_sem]) rfl (FP.out _ B5.out)
           · have k8 : ¬ (8 : Int) < (k : Int) + 1 := by omega
             obtain ⟨k2, hk2⟩ : ∃ k2 : Nat, k2 = k + 1 := ⟨_, rfl⟩
             have k9 : IntKind.i64.wrap ((k : Int) + 1) = (k2 : Int) := by rw [IntKind.wrap_i64]; omega
             have k10 : ¬ (8 : Int) < (k2 : Int) := by omega
             have cv := conv_anyN (pc := ydc) (YB.out.later B5.out)
             have htx : (Fr.tx yzs).size ≤ maxLen := by rw [Fr.tx_size]; exact hzl
             have HM5 := cell_later B5.out HMX.out
             cases hsx : Pa.splitF (Fr.tx yzs).data.toList with
             | none =>
               have SC2 := hid (rsplit_not (Fr.tx yzs) V m HM5 htx hsx)
               have FP : Hid (∀ W, Below w.heap.size w W → FdP l s w (.returned (.tuple #[.int .u32 0, .int .i64 5])) W) := hid (fun W hW => ⟨⟨0, 5, rfl, fun h3 => absurd h3 N3.out⟩, hW⟩)
               clear hsx HM5
               go_wp2_with (go_at_call 16; refine SC2.out.mono ?_; rintro _ w6 ⟨rfl, hb6⟩; have B6 := hid (B5.out.trans (hb6.mono B5.out.size)); clear hb6)
               refine bodyPost_ret (v := .tuple #[.int .u32 0, .int .i64 5]) (by simp [results, Tryz.results7, go_sem]) rfl (FP.out _ B6.out)
             | some ns2 =>
               have SC2 := hid (rsplit_yes (Fr.tx yzs) V m HM5 htx ns2 hsx)
               have hn2 := Pa.names_few hsx
               clear hsx HM5
               have hl1 : (1 : Int) ≤ (ns.length : Int) + 1 := by omega
               by_cases hv1 : vc = 1
               · have T7 : Hid (IsS V (.slice (some ⟨b, off, none⟩) 0 0) ns) := hid (by
                   have h0 : ns = [] := List.eq_nil_of_length_eq_zero (by omega)
                   rw [h0]; exact ⟨_, _, rfl, Nat.le_refl _, Nat.zero_le _, fun h => absurd h (by simp), by simp⟩)
                 subst hv1
                 go_upto_region 20 with (go_at_call 16; refine SC2.out.mono ?_; rintro _ w6 ⟨v2, rfl, hs2, hu2, hb6⟩; have S6 := hid hs2; obtain ⟨a2, c2, e2, _⟩ := id hs2; subst e2; have U6 := hid hu2; have B6 := hid (B5.out.trans (hb6.mono B5.out.size)); have T6 := hid (T7.out.later hb6); clear hb6 hs2 hu2)
                 go_wp2_with fail
                 have hS0 : Below w6.heap.size w6 w6.drew := Below.drew (Below.refl _ _)
                 refine wp_region_held_drew (S := fun _ => True) (by kernel_rfl) trivial (fun hHeld => ?_)
                 refine take_l 1 (v := ?_) rfl (by kernel_rfl) (by kernel_rfl) (by kernel_rfl) (fun _ _ _ h => h) (Or.inl ⟨by rfl, ?_⟩) trivial ?_
                 rotate_left
                 · (intro w' hSw; clear hSw; go_simp; first | done | with_reducible rfl)
                 try simp only [Act.put, List.setIfInBounds_toArray, List.set_cons_zero, List.set_cons_succ]
                 refine take_l 3 (v := ?_) rfl (by kernel_rfl) (by kernel_rfl) (by kernel_rfl) (fun _ _ _ h => h) (Or.inl ⟨by rfl, ?_⟩) trivial ?_
                 rotate_left
                 · (intro w' hSw; clear hSw; go_simp; first | done | with_reducible rfl)
                 try simp only [Act.put, List.setIfInBounds_toArray, List.set_cons_zero, List.set_cons_succ]
                 refine take_l 4 (v := .slice (some ⟨b, off, none⟩) 0 0) rfl (by kernel_rfl) (by kernel_rfl) (by kernel_rfl) (fun _ _ _ h => h) (Or.inl ⟨by rfl, ?_⟩) trivial ?_
                 rotate_left 0
                 · (intro w' hSw; clear hSw; go_simp; first | done | with_reducible rfl)
                 try simp only [Act.put, List.setIfInBounds_toArray, List.set_cons_zero, List.set_cons_succ]
                 refine cons_l 0 rfl (by kernel_rfl) (fun K hK => ?_)
                 go_simp
                 have B8 := hid (B6.out.trans ((hS0.trans ((below_1 w6.drew (.cells #[] 9)).mono hS0.size)).mono B6.out.size))
                 have D8 := hid (hS0.trans ((below_1 w6.drew (.cells #[] 9)).mono hS0.size))
                 have O8 := hid (own_empty w6.drew 9)
                 have hz8 : w6.heap.size ≤ (w6.drew.alloc (.cells #[] 9)).heap.size := D8.out.size
                 refine hK.out _ _ trivial (fun hHeld => ?_)
                 clear hK K
                 try simp only [Act.put, List.setIfInBounds_toArray, List.set_cons_zero, List.set_cons_succ]
                 refine cons_l 2 rfl (by kernel_rfl) (fun K hK => ?_)
                 refine step_appI _ (by rfl) _ _ (by rfl) w6.heap.size _ _ [] ns2 (by rfl) O8.out (by rfl) U6.out (S6.out.later D8.out) (by simp) (by omega) hz8 ?_
                 intro v9 w9 ho9 hg9
                 have O9 := hid ho9
                 have D9 := hid (below_grownI D8.out O8.out (Nat.le_refl _) hz8 hg9)
                 clear ho9 hg9
                 go_simp
                 refine hK.out _ _ trivial (fun hHeld => ?_)
                 clear hK K
                 try simp only [Act.put, List.setIfInBounds_toArray, List.set_cons_zero, List.set_cons_succ]
                 refine cons_l 5 rfl (by kernel_rfl) (fun K hK => ?_)
                 refine step_appI _ (by rfl) _ _ (by rfl) w6.heap.size _ _ ([] ++ ns2) ns (by rfl) O9.out (by rfl) (Or.inr ⟨_, _, _, rfl⟩) (T6.out.later D9.out) (by simp; omega) (by omega) D9.out.size ?_
                 intro v10 w10 ho10 hg10
                 have B10 := hid (B6.out.trans ((below_grownI D9.out O9.out (Nat.le_refl _) D9.out.size hg10).mono B6.out.size))
                 have S10 : Hid (IsS w10 v10 (ns2 ++ ns)) := hid (isS_of_owns (by simpa using ho10) (fun p hp => by
                   rcases List.mem_append.1 hp with h | h
                   · exact isS_small S6.out p h
                   · exact isS_small T6.out p h))
                 clear ho10 hg10
                 go_simp
                 refine hK.out _ _ trivial (fun hHeld => ?_)
                 clear hK K
                 try simp only [Act.put, List.setIfInBounds_toArray, List.set_cons_zero, List.set_cons_succ]
                 refine take_l 6 (v := ?_) rfl (by kernel_rfl) (by kernel_rfl) (by kernel_rfl) (fun _ _ _ h => h) (Or.inl ⟨by rfl, ?_⟩) trivial ?_
                 rotate_left
                 · (intro w' hSw; clear hSw; go_simp; first | done | with_reducible rfl)
                 try simp only [Act.put, List.setIfInBounds_toArray, List.set_cons_zero, List.set_cons_succ]
                 refine wpAnyH_done (by kernel_rfl) ?_ _
                 clear O8 O9 D8 D9 B8 S6 T6 U6 hS0 hHeld
                 go_wp2
                 go_roundg ((8 - k2) * 2000 + (ns2 ++ ns).length)
                 case measure => rw [List.length_append]; omega
                 case rel => exact ⟨ns2 ++ ns, 1, k2, by omega, by rw [List.length_append]; omega, rfl, rfl, by go_num, S10, B10, hid (fun h3 => absurd h3 N3.out)⟩
               · have hv2 : ¬ vc = 1 := hv1
                 have T7 := T5
                 go_upto_region 20 with (go_at_call 16; refine SC2.out.mono ?_; rintro _ w6 ⟨v2, rfl, hs2, hu2, hb6⟩; have S6 := hid hs2; obtain ⟨a2, c2, e2, _⟩ := id hs2; subst e2; have U6 := hid hu2; have B6 := hid (B5.out.trans (hb6.mono B5.out.size)); have T6 := hid (T7.out.later hb6); clear hb6 hs2 hu2)
                 go_wp2_with fail
                 have hS0 : Below w6.heap.size w6 w6.drew := Below.drew (Below.refl _ _)
                 refine wp_region_held_drew (S := fun _ => True) (by kernel_rfl) trivial (fun hHeld => ?_)
                 refine take_l 1 (v := ?_) rfl (by kernel_rfl) (by kernel_rfl) (by kernel_rfl) (fun _ _ _ h => h) (Or.inl ⟨by rfl, ?_⟩) trivial ?_
                 rotate_left
                 · (intro w' hSw; clear hSw; go_simp; first | done | with_reducible rfl)
                 try simp only [Act.put, List.setIfInBounds_toArray, List.set_cons_zero, List.set_cons_succ]
                 refine take_l 3 (v := ?_) rfl (by kernel_rfl) (by kernel_rfl) (by kernel_rfl) (fun _ _ _ h => h) (Or.inl ⟨by rfl, ?_⟩) trivial ?_
                 rotate_left
                 · (intro w' hSw; clear hSw; go_simp; first | done | with_reducible rfl)
                 try simp only [Act.put, List.setIfInBounds_toArray, List.set_cons_zero, List.set_cons_succ]
                 refine take_l 4 (v := ?_) rfl (by kernel_rfl) (by kernel_rfl) (by kernel_rfl) (fun _ _ _ h => h) (Or.inl ⟨by rfl, ?_⟩) trivial ?_
                 rotate_left
                 · (intro w' hSw; clear hSw; go_simp; first | done | with_reducible rfl)
                 try simp only [Act.put, List.setIfInBounds_toArray, List.set_cons_zero, List.set_cons_succ]
                 refine cons_l 0 rfl (by kernel_rfl) (fun K hK => ?_)
                 go_simp
                 have B8 := hid (B6.out.trans ((hS0.trans ((below_1 w6.drew (.cells #[] 9)).mono hS0.size)).mono B6.out.size))
                 have D8 := hid (hS0.trans ((below_1 w6.drew (.cells #[] 9)).mono hS0.size))
                 have O8 := hid (own_empty w6.drew 9)
                 have hz8 : w6.heap.size ≤ (w6.drew.alloc (.cells #[] 9)).heap.size := D8.out.size
                 refine hK.out _ _ trivial (fun hHeld => ?_)
                 clear hK K
                 try simp only [Act.put, List.setIfInBounds_toArray, List.set_cons_zero, List.set_cons_succ]
                 refine cons_l 2 rfl (by kernel_rfl) (fun K hK => ?_)
                 refine step_appI _ (by rfl) _ _ (by rfl) w6.heap.size _ _ [] ns2 (by rfl) O8.out (by rfl) U6.out (S6.out.later D8.out) (by simp) (by omega) hz8 ?_
                 intro v9 w9 ho9 hg9
                 have O9 := hid ho9
                 have D9 := hid (below_grownI D8.out O8.out (Nat.le_refl _) hz8 hg9)
                 clear ho9 hg9
                 go_simp
                 refine hK.out _ _ trivial (fun hHeld => ?_)
                 clear hK K
                 try simp only [Act.put, List.setIfInBounds_toArray, List.set_cons_zero, List.set_cons_succ]
                 refine cons_l 5 rfl (by kernel_rfl) (fun K hK => ?_)
                 refine step_appI _ (by rfl) _ _ (by rfl) w6.heap.size _ _ ([] ++ ns2) ns (by rfl) O9.out (by rfl) (Or.inr ⟨_, _, _, rfl⟩) (T6.out.later D9.out) (by simp; omega) (by omega) D9.out.size ?_
                 intro v10 w10 ho10 hg10
                 have B10 := hid (B6.out.trans ((below_grownI D9.out O9.out (Nat.le_refl _) D9.out.size hg10).mono B6.out.size))
                 have S10 : Hid (IsS w10 v10 (ns2 ++ ns)) := hid (isS_of_owns (by simpa using ho10) (fun p hp => by
                   rcases List.mem_append.1 hp with h | h
                   · exact isS_small S6.out p h
                   · exact isS_small T6.out p h))
                 clear ho10 hg10
                 go_simp
                 refine hK.out _ _ trivial (fun hHeld => ?_)
                 clear hK K
                 try simp only [Act.put, List.setIfInBounds_toArray, List.set_cons_zero, List.set_cons_succ]
                 refine take_l 6 (v := ?_) rfl (by kernel_rfl) (by kernel_rfl) (by kernel_rfl) (fun _ _ _ h => h) (Or.inl ⟨by rfl, ?_⟩) trivial ?_
                 rotate_left
                 · (intro w' hSw; clear hSw; go_simp; first | done | with_reducible rfl)
                 try simp only [Act.put, List.setIfInBounds_toArray, List.set_cons_zero, List.set_cons_succ]
                 refine wpAnyH_done (by kernel_rfl) ?_ _
                 clear O8 O9 D8 D9 B8 S6 T6 U6 hS0 hHeld
                 go_wp2
                 go_roundg ((8 - k2) * 2000 + (ns2 ++ ns).length)
                 case measure => rw [List.length_append]; omega
                 case rel => exact ⟨ns2 ++ ns, 1, k2, by omega, by rw [List.length_append]; omega, rfl, rfl, by go_num, S10, B10, hid (fun h3 => absurd h3 N3.out)⟩
         · have q3B : (yk != 3) = true := bne_iff_ne.2 q3
           have T5z : Hid (vc = 1 → IsS V (.slice (some ⟨b, off, none⟩) ns.length 0) ns) := hid (fun e => by
             have h0 : ns = [] := List.eq_nil_of_length_eq_zero (by omega)
             rw [h0]; exact ⟨_, _, rfl, Nat.le_refl _, Nat.zero_le _, fun h => absurd h (by simp), by simp⟩)
           go_wp2
           · go_roundg (gk - 1)
             case measure => omega
             case rel => exact ⟨ns, li, k, hk, by omega, by omega, rfl, rfl, hid (T5z.out (by omega)), B5, hid (fun h3 g hg => (ST.out h3 g hg).2)⟩
           · go_roundg (gk - 1)
             case measure => omega
             case rel => exact ⟨ns, li, k, hk, by omega, by omega, rfl, rfl, T5, B5, hid (fun h3 g hg => (ST.out h3 g hg).2)⟩
       · have q0B : (le != 0) = true := bne_iff_ne.2 q0
         have FP : Hid (∀ W, Below w.heap.size w W → FdP l s w (.returned (.tuple #[.int .u32 0, .int .i64 le])) W) := hid (fun W hW => ⟨⟨0, le, rfl, fun h3 ns' g e hl => by rw [HSP.out] at e; cases e; exact absurd (ST.out h3 g hl).1 q0⟩, hW⟩)
         go_wp2_with (go_at_call 17; refine LCx.out.mono ?_; rintro _ w3 ⟨rfl, hb3⟩; have B3 := hid (BX.out.trans (hb3.mono BX.out.size)); clear hb3)
         refine bodyPost_ret (v := .tuple #[.int .u32 0, .int .i64 le]) (by simp [results, Tryz.results7, go_sem]) rfl (FP.out _ B3.out)
end Go.Proofs.YtkokjkaclcjnjaaGreatDoor
