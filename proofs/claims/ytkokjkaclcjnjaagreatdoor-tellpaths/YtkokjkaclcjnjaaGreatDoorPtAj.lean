/-
  leadUpTo of the package tree, out of what its function that yields does.
  Which nodes are a tree: holdRing, Right of the package tree.
-/
import Derived.Test.YtkokjkaclcjnjaaGreatDoorPtAi
namespace Go.Proofs.YtkokjkaclcjnjaaGreatDoor
open Go.RowKit Go.ChangeShapes Go.WideShapes Go.ChangeAt Go.Shelf Go.Maps
attribute [local go_sem] Oper.semAt_some
set_option linter.unusedVariables false
set_option linter.unusedSimpArgs false
set_option maxRecDepth 100000
set_option maxHeartbeats 400000 in
theorem upward_c (pb : Nat) (f : Int) (w : World) :
   Calls Tryz.prog 66 #[.map (some pb), .int .u32 f] w fun e w' => e = .returned (.func (.func 80) #[] #[.pointer (some ⟨w.heap.size + 1, 0, none⟩), .pointer (some ⟨w.heap.size, 0, none⟩)]) ∧ w' = (w.alloc (.cells #[.map (some pb)] 97)).alloc (.cells #[.int .u32 f] 31) := by
 go_enter Tryz.func66, Tryz.ntmps66
 go_wp2
 go_ret
 exact ⟨rfl, rfl⟩
set_option maxHeartbeats 2000000 in
theorem leadUpTo_c (pb n : Nat) (G : Int → Option Int) (w : World) (hF : IsFm fdE w pb n G) (hn : n ≤ 1000) (hG : ∀ g p, G g = some p → 0 ≤ p ∧ p < 4294967296) (top f0 : Int) (h0 : 0 ≤ f0) (h1 : f0 < 4294967296) :
   Calls Tryz.prog 52 #[.map (some pb), .int .u32 top, .int .u32 f0] w fun e w' => e = .returned (.bool (leadB G n top f0)) ∧ Below w.heap.size w w' := by
 have UP := hid (fun Rr Rd => upward1_in w pb n G hF hn hG top f0 h0 h1 Rr Rd)
 clear hF hn hG h0 h1
 refine (callsIn_wide (n := 3)).1 ?_
 refine callsIn_of_wp_marks Tryz.func52 rfl trivial ?_ rfl
 simp only [Tryz.ntmps52, List.size_toArray, List.length_cons, List.length_nil, Nat.reduceAdd, Nat.reduceSub, Array.replicate_succ, Array.replicate_zero, List.push_toArray, List.append_toArray, List.nil_append, List.cons_append]
 gi_wp2_with fail
 refine ⟨trivial, (callsIn_wide.2 (upward_c _ _ _)).mono ?_⟩
 rintro _ _ ⟨rfl, rfl⟩
 gi_wp2_with fail
 have b1 := below_1 w (.cells #[.int .u32 top] 31)
 have x1 := heap_alloc_new w (.cells #[.int .u32 top] 31)
 have b2 := below_1 (w.alloc (.cells #[.int .u32 top] 31)) (.cells #[.bool false] 4)
 have x2 := heap_alloc_new (w.alloc (.cells #[.int .u32 top] 31)) (.cells #[.bool false] 4)
 have b3 := below_1 ((w.alloc (.cells #[.int .u32 top] 31)).alloc (.cells #[.bool false] 4)) (.cells #[.map (some pb)] 97)
 have x3 := heap_alloc_new ((w.alloc (.cells #[.int .u32 top] 31)).alloc (.cells #[.bool false] 4)) (.cells #[.map (some pb)] 97)
 have b4 := below_1 (((w.alloc (.cells #[.int .u32 top] 31)).alloc (.cells #[.bool false] 4)).alloc (.cells #[.map (some pb)] 97)) (.cells #[.int .u32 f0] 31)
 have x4 := heap_alloc_new (((w.alloc (.cells #[.int .u32 top] 31)).alloc (.cells #[.bool false] 4)).alloc (.cells #[.map (some pb)] 97)) (.cells #[.int .u32 f0] 31)
 have s1 : (w.alloc (.cells #[.int .u32 top] 31)).heap.size = w.heap.size + 1 := by simp
 have s2 : ((w.alloc (.cells #[.int .u32 top] 31)).alloc (.cells #[.bool false] 4)).heap.size = w.heap.size + 2 := by simp
 have s3 : (((w.alloc (.cells #[.int .u32 top] 31)).alloc (.cells #[.bool false] 4)).alloc (.cells #[.map (some pb)] 97)).heap.size = w.heap.size + 3 := by simp
 have hsz : ((((w.alloc (.cells #[.int .u32 top] 31)).alloc (.cells #[.bool false] 4)).alloc (.cells #[.map (some pb)] 97)).alloc (.cells #[.int .u32 f0] 31)).heap.size = w.heap.size + 4 := by simp
 rw [s1] at b2 x2
 rw [s2] at b3 x3
 rw [s3] at b4 x4
 have q3 := (b4.block _ (by omega)).trans x3
 have q2 := (b4.block _ (by omega)).trans ((b3.block _ (by omega)).trans x2)
 have q1 := (b4.block _ (by omega)).trans ((b3.block _ (by omega)).trans ((b2.block _ (by omega)).trans x1))
 have hA0 := ((b1.trans (b2.mono (by omega))).trans (b3.mono (by omega))).trans (b4.mono (by omega))
 have q4 := x4
 clear b1 b2 b3 b4 x1 x2 x3 x4 s1 s2 s3
 generalize ((((w.alloc (.cells #[.int .u32 top] 31)).alloc (.cells #[.bool false] 4)).alloc (.cells #[.map (some pb)] 97)).alloc (.cells #[.int .u32 f0] 31)) = W at *
 refine range_ret (gf := 80) (lb := #[.pointer (some ⟨w.heap.size + 3, 0, none⟩), .pointer (some ⟨w.heap.size + 2, 0, none⟩)]) (by first | rfl | simp) (enters_of Tryz.func80 (by kernel_rfl) rfl) (fun W' => leadB G n top f0 = false ∧ ∃ cur R, LU w pb top cur false R W') (fun W' => leadB G n top f0 = true ∧ ∃ cur R, LU w pb top cur true R W') ?_ ?_ ?_
 · intro fn
   generalize hR : Rg.recOf fn _ _ _ _ _ = R
   generalize hRD : recD fn _ _ _ _ _ = RD
   have h5 : W.heap.size + 1 = w.heap.size + 5 := by omega
   have hD1 : ((W.alloc (.deferred (some []))).alloc (.loop (R .ready))).heap[w.heap.size + 4]? = some (.deferred (some [])) := by
     rw [Below.heap_alloc _ _ _ (by simp; omega), ← hsz]; exact heap_alloc_new W _
   have hL1 : ((W.alloc (.deferred (some []))).alloc (.loop (R .ready))).heap[w.heap.size + 5]? = some (.loop (R .ready)) := by
     have := heap_alloc_new (W.alloc (.deferred (some []))) (.loop (R .ready)); rw [World.size_alloc, h5] at this; exact this
   have hB1 : Below W.heap.size W ((W.alloc (.deferred (some []))).alloc (.loop (R .ready))) := ((Below.refl _ _).alloc (Nat.le_refl _) _).alloc (by simp) _
   have hz1 : ((W.alloc (.deferred (some []))).alloc (.loop (R .ready))).heap.size = w.heap.size + 6 := by simp; omega
   generalize ((W.alloc (.deferred (some []))).alloc (.loop (R .ready))) = W1 at *
   have hLU : LU w pb top f0 false (.loop (R .ready)) W1 := ⟨hA0.trans (hB1.mono hA0.size), hz1, (hB1.block _ (by omega)).trans q1, (hB1.block _ (by omega)).trans q2, (hB1.block _ (by omega)).trans q3, (hB1.block _ (by omega)).trans q4, hD1, hL1⟩
   rw [hsz, show w.heap.size + 4 + 1 = w.heap.size + 5 from rfl]
   refine (UP.out (.loop (R .ready)) (.loop RD) ?_ W1 hLU).mono ?_
   · intro cur g V hV
     rw [hsz] at hR hRD
     subst hR
     subst hRD
     refine (round_ret (R := fun b W' => b = !(g == top) ∧ LU w pb top cur (!b) (bif b then _ else _) W') hV.2.2.2.2.2.2.2 (by rfl) ?_)
     gi_wp2
     generalize Obj.loop (Rg.recOf fn _ _ _ _ (w.heap.size + 4) LoopState.ready) = Rr at *
     generalize Obj.loop (Rg.recOf fn _ _ _ _ (w.heap.size + 4) LoopState.busy) = Rb at *
     generalize Obj.loop (recD fn _ _ _ _ (w.heap.size + 4)) = Rd at *
     refine ⟨hV.2.2.2.2.2.2.2, ?_⟩
     have hV2 := hV.rec Rb
     have c0 := cell_box hV2.2.2.1
     have c1 := cell_box hV2.2.2.2.1
     have f1 := frozen_box hV2.2.2.2.1
     have HV2 := hid hV2
     clear hV hV2 hLU hD1 hL1
     generalize V.putObj (w.heap.size + 5) Rb = V2 at *
     by_cases q : g = top
     · have qB : (g == top) = true := by rw [q]; simp
       have HV3 := hid (HV2.out.res true)
       clear q
       gi_wp2
       first | exact ⟨HV3.out.2.2.2.2.2.2.2, HV3.out.rec _⟩ | exact ⟨HV3.out.2.2.2.2.2.2.2, .inr ⟨rfl, by rw [qB]; rfl, HV3.out.rec _⟩⟩
     · have qB : (g == top) = false := beq_eq_false_iff_ne.2 q
       gi_wp2
       first | exact ⟨HV2.out.2.2.2.2.2.2.2, HV2.out.rec _⟩ | exact ⟨HV2.out.2.2.2.2.2.2.2, .inl ⟨rfl, by rw [qB]; rfl, HV2.out.rec _⟩⟩
   · rintro e V ⟨he, cur, hV⟩
     refine ⟨he, hV.2.2.2.2.2.2.1, ?_⟩
     cases hb : leadB G n top f0 with
     | true => rw [hb] at hV; exact .inr ⟨hV.2.2.2.2.2.2.2, rfl, cur, _, hV⟩
     | false => rw [hb] at hV; exact .inl ⟨hV.2.2.2.2.2.2.2, rfl, cur, _, hV⟩
 · rintro W' o ⟨hb, cur, R, hV⟩ hD hl
   rw [hsz, show w.heap.size + 4 + 1 = w.heap.size + 5 from rfl]
   have hV2 := hV.rec o
   have c1 := cell_box hV2.2.2.2.1
   have f1 := frozen_box hV2.2.2.2.1
   have HV3 := hid (hV2.res false)
   clear hV hV2 hD hl
   generalize W'.putObj (w.heap.size + 5) o = W2 at *
   gi_wp2
   have hV3 := HV3.out
   generalize W2.setCell ⟨w.heap.size + 1, 0, none⟩ (.bool false) = W3 at *
   have c3 : (W3.putObj (w.heap.size + 4) (.deferred none)).cell? ⟨w.heap.size + 1, 0, none⟩ = some (.bool false) := cell_box ((World.putObj_heap_other (by omega)).trans hV3.2.2.2.1)
   have hB3 : Below w.heap.size w (W3.putObj (w.heap.size + 4) (.deferred none)) := hV3.1.trans ⟨rfl, rfl, rfl, by simp, fun q hq => World.putObj_heap_other (by omega)⟩
   refine ⟨by simp, .inl ⟨_, _, rfl, run_takeDeferred hV3.2.2.2.2.2.2.1, ?_⟩⟩
   exact ⟨.bool false, by simp [results, Tryz.results52, go_sem, c3], by rw [hb], hB3⟩
 · rintro W' o ⟨hb, cur, R, hV⟩ hD hl
   rw [hsz, show w.heap.size + 4 + 1 = w.heap.size + 5 from rfl]
   have hV3 := hV.rec o
   generalize W'.putObj (w.heap.size + 5) o = W3 at *
   have c3 : (W3.putObj (w.heap.size + 4) (.deferred none)).cell? ⟨w.heap.size + 1, 0, none⟩ = some (.bool true) := cell_box ((World.putObj_heap_other (by omega)).trans hV3.2.2.2.1)
   have hB3 : Below w.heap.size w (W3.putObj (w.heap.size + 4) (.deferred none)) := hV3.1.trans ⟨rfl, rfl, rfl, by simp, fun q hq => World.putObj_heap_other (by omega)⟩
   refine ⟨by simp, .inl ⟨_, _, rfl, run_takeDeferred hV3.2.2.2.2.2.2.1, ?_⟩⟩
   exact ⟨.bool true, by simp [results, Tryz.results52, go_sem, c3], by rw [hb], hB3⟩
end Go.Proofs.YtkokjkaclcjnjaaGreatDoor
namespace Go.Proofs.YtkokjkaclcjnjaaGreatDoor
open Go.RowKit Go.ChangeShapes Go.WideShapes Go.ChangeAt Go.Maps
set_option linter.unusedVariables false
set_option linter.unusedSimpArgs false
set_option maxRecDepth 100000
def litI : Lit → Int
 | .int _ i => i
 | _ => 0
theorem IsFm.list {α : Type} {E : Enc α} {w : World} {b m : Nat} {f : Int → Option α} (h : IsFm E w b m f) : ∃ ks : List Int, ks.Pairwise (· ≠ ·) ∧ (∀ i, i ∈ ks ↔ (f i).isSome = true) ∧ ks.length = m := by
 obtain ⟨D, ho, hs, hf⟩ := h
 obtain ⟨es, e, hp, hsh⟩ := entriesF E ho
 subst e
 refine ⟨es.map fun p => litI p.1, ?_, fun i => ?_, ?_⟩
 · rw [List.pairwise_map]
   refine hp.imp_of_mem (fun {p q} hp1 hq1 hne e => hne ?_)
   obtain ⟨i, s, rfl, _⟩ := hsh p hp1
   obtain ⟨j, t, rfl, _⟩ := hsh q hq1
   simp only [litI, kyF] at e ⊢
   rw [e]
 · rw [hf i, ← Maps.has_eq_look_of (E := E) ho i, Maps.has_eq, List.any_eq_true, List.mem_map]
   constructor
   · rintro ⟨p, hp1, rfl⟩
     refine ⟨p, hp1, ?_⟩
     obtain ⟨j, s, rfl, _⟩ := hsh p hp1
     simp [litI, kyF, Lit.sameKey]
   · rintro ⟨p, hp1, hp2⟩
     refine ⟨p, hp1, ?_⟩
     obtain ⟨j, s, rfl, _⟩ := hsh p hp1
     rw [same_kyF] at hp2
     simpa [litI, kyF] using hp2
 · rw [List.length_map, ← hs]; rfl
theorem nodup_len : ∀ {a b : List Int}, a.Pairwise (· ≠ ·) → (∀ i, i ∈ a → i ∈ b) → a.length ≤ b.length
 | [], b, _, _ => Nat.zero_le _
 | x :: a, b, hp, h => by
   rw [List.pairwise_cons] at hp
   have hx := h x (by simp)
   have hl : (b.erase x).length + 1 = b.length := by
     have := List.length_erase_of_mem hx
     have h2 : 0 < b.length := List.length_pos_of_mem hx
     omega
   have := nodup_len (a := a) (b := b.erase x) hp.2 (fun i hi => (List.mem_erase_of_ne (fun e => hp.1 i hi e.symm)).2 (h i (by simp [hi])))
   rw [List.length_cons]
   omega
theorem nodup_same {a b : List Int} (ha : a.Pairwise (· ≠ ·)) (hb : b.Pairwise (· ≠ ·)) (h : ∀ i, i ∈ a ↔ i ∈ b) : a.length = b.length :=
 Nat.le_antisymm (nodup_len ha (fun i hi => (h i).1 hi)) (nodup_len hb (fun i hi => (h i).2 hi))
def RingN (N : Tab) : Prop := ∃ (G : Int → Option Int) (ks : List Int) (f p : Int), ks.Pairwise (· ≠ ·) ∧ (∀ i, i ∈ ks ↔ (G i).isSome = true) ∧ IsPar N G ∧ G f = some p ∧ leadB G ks.length f p = true
theorem ring_of {N : Tab} {G : Int → Option Int} {n : Nat} {ks : List Int} (h1 : ks.Pairwise (· ≠ ·)) (h2 : ∀ i, i ∈ ks ↔ (G i).isSome = true) (h3 : ks.length = n) (hP : IsPar N G) : RingN N ↔ ∃ f p, G f = some p ∧ leadB G n f p = true := by
 constructor
 · rintro ⟨G', ks', f, p, q1, q2, q3, q4, q5⟩
   have e : G' = G := by
     funext g
     cases hg : G g with
     | none =>
       cases hg' : G' g with
       | none => rfl
       | some x => have := (hP x g).2 ((q3 x g).1 hg'); rw [hg] at this; cases this
     | some x => exact (q3 x g).2 ((hP x g).1 hg)
   subst e
   rw [nodup_same q1 h1 (fun i => (q2 i).trans (h2 i).symm), h3] at q5
   exact ⟨f, p, q4, q5⟩
 · rintro ⟨f, p, q4, q5⟩
   exact ⟨G, ks, f, p, h1, h2, hP, q4, by rw [h3]; exact q5⟩
theorem below_grown0 {w w' : World} (h : Below w.heap.size w w') : w.grownBy w' none := ⟨h.os, h.tape, h.output, h.size, fun i hi _ => h.block i hi⟩
def RingP (N : Tab) (w : World) (e : Ending) (w' : World) : Prop := ∃ b, e = .returned (.bool b) ∧ (b = true ↔ RingN N) ∧ Below w.heap.size w w'
set_option maxHeartbeats 2000000 in
theorem holdRing_c (tb m0 : Nat) (N : Tab) (w : World) (hT : IsTab w tb m0 N) (hm0 : m0 ≤ 60) (hW : Whole6 N) (hU : OneUp N) :
   Calls Tryz.prog 30 #[.map (some tb)] w fun e w' => RingP N w e w' := by
 have HK : Hid (∀ f p x, N f = some (p, x) → 0 ≤ f ∧ f < 4294967296) := hid (fun f p x e => hT.1.keys (i := f) (s := some p) (by unfold Tab.ptr; rw [e]; rfl))
 have PC := hid (parents_c tb m0 N w hT hm0 hW hU)
 clear hT hW hU hm0
 go_enter Tryz.func30, Tryz.ntmps30
 go_wp2_with (first
   | (go_at_call 51; refine PC.out.mono ?_; rintro _ w1 ⟨rfl, ⟨c, G, hF, hc, hP⟩, hb1⟩
      have HF := hid hF
      have HP := hid hP
      have HC := hid hc
      have HB1 := hid hb1
      obtain ⟨D, ho, hsz, hlk⟩ := hF
      have HO := hid ho
      have HSZ := hid hsz
      have HLK := hid hlk
      clear ho hsz hlk hP hc hb1)
   | (at_range; refine wpList_range_own _ rfl _ 97 rfl 31 31 lawF ht_par fdE.rd w.heap.size c D rfl HO.out ?_; intro w0 hrg0 hg0 hs0))
 go_frame
 have R0 := hid hrg0
 have B0 := hid (grown_below hg0)
 obtain ⟨r, hr⟩ : ∃ r, r = w1.heap.size := ⟨_, rfl⟩
 rw [← hr] at R0 ⊢
 have HRr := hid hr
 have GB : Hid (∀ g p, G g = some p → 0 ≤ p ∧ p < 4294967296) := hid (fun g p e => by
   obtain ⟨pp, x, i, h1, _⟩ := (HP.out p g).1 e
   exact HK.out p pp x h1)
 obtain ⟨ks, k1, k2, k3⟩ := HF.out.list
 have RO := hid (ring_of k1 k2 k3 HP.out)
 have GK : Hid (∀ g p, G g = some p → 0 ≤ g ∧ g < 4294967296) := hid (fun g p e => HF.out.keys e)
 clear hrg0 hg0 hs0 hr k1 k2 k3 ks PC HK
 go_loopg [4] (Maps.size D) (fun gk v wr => Hid (Below w1.heap.size w1 wr) ∧ Hid (r < wr.heap.size) ∧ Hid (∃ left, wr.ranges Tryz.prog 31 fdE.rd w.heap.size r c D left gk ∧ ∀ f p, G f = some p → left (kyF f) = false → leadB G c f p = false))
 case atStart =>
   refine ⟨B0, hid R0.out.lt, hid ⟨_, R0.out, fun f p e hl => ?_⟩⟩
   have e1 := (look_atF fdE HO.out f 0).2.1
   rw [e1, ← HLK.out f, e] at hl
   cases hl
 case round =>
   clear R0 B0
   obtain ⟨HB, HS, HI⟩ := hrel
   obtain ⟨left, hrg, hlead⟩ := HI.out
   have HRG := hid hrg
   have HL := hid hlead
   clear HI hrg hlead
   go_wp2_with (at_next; refine next_F fdE _ rfl _ rfl w.heap.size r c D left gk rfl HRG.out ?_ ?_)
   · intro hc0 hl0
     have FIN : Hid (RingP N w (.returned (.bool false)) wr) := hid ⟨false, rfl, ⟨(fun h => by cases h), fun h => by
       obtain ⟨f, p, e1, e2⟩ := RO.out.1 h
       rw [HL.out f p e1 (hl0 f)] at e2
       cases e2⟩, HB1.out.trans (HB.out.mono HB1.out.size)⟩
     go_wp2
     go_ret
     exact FIN.out
   · intro f p w2 cnt1 hf0 hf1 hlf hlD hrg1 hlt hg1 hs1 hen
     rw [show fdE.enc p = .int .u32 p from rfl] at hen ⊢
     rw [← HLK.out f] at hlD
     have hB2 : Below w1.heap.size w1 w2 := HB.out.trans ((grown_ou hg1).below HB.out.size (fun k e => by have := HRr.out; omega))
     have HB2 := hid hB2
     have hp := GB.out f p hlD
     have LC := hid (leadUpTo_c w.heap.size c G w2 (HF.out.out (Ou.of (S := fun _ => False) hB2) (fun e => e)) (by have := HC.out; omega) GB.out f p hp.1 hp.2)
     have HG := hid hlD
     have HRG1 := hid hrg1
     have HS2 : Hid (r < w2.heap.size) := hid (by rw [hs1]; exact HS.out)
     clear hlD hB2 hrg1 hg1 hs1 hp hlf HB HRG HS
     cases hq : leadB G c f p with
     | true =>
       rw [hq] at LC
       have RT : Hid (RingN N) := hid (RO.out.2 ⟨f, p, HG.out, hq⟩)
       clear hq
       go_wp2_with (go_at_call 52; refine LC.out.mono ?_; rintro _ w3 ⟨rfl, hb3⟩)
       go_ret
       exact ⟨true, rfl, ⟨fun _ => RT.out, fun _ => rfl⟩, HB1.out.trans ((HB2.out.trans (hb3.mono HB2.out.size)).mono HB1.out.size)⟩
     | false =>
       rw [hq] at LC
       have HQ := hid hq
       clear hq
       go_wp2_with (go_at_call 52; refine LC.out.mono ?_; rintro _ w3 ⟨rfl, hb3⟩)
       have HB3 := hid (HB2.out.trans (hb3.mono HB2.out.size))
       have HS3 : Hid (r < w3.heap.size) := hid (Nat.lt_of_lt_of_le HS2.out hb3.size)
       have HI3 : Hid (∃ left, w3.ranges Tryz.prog 31 fdE.rd w.heap.size r c D left cnt1 ∧ ∀ f p, G f = some p → left (kyF f) = false → leadB G c f p = false) := hid (by
         refine ⟨_, HRG1.out.kept (below_grown0 hb3) (by simp) (by simp), fun f' p' e hl => ?_⟩
         by_cases q : f' = f
         · subst q
           rw [HG.out] at e
           cases e
           exact HQ.out
         · refine HL.out f' p' e ?_
           simp only [same_kyF, decide_eq_false q, Bool.not_false, Bool.and_true] at hl
           exact hl)
       clear hb3
       go_roundg cnt1
       case measure => exact hlt
       case rel => exact ⟨HB3, HS3, HI3⟩
end Go.Proofs.YtkokjkaclcjnjaaGreatDoor
