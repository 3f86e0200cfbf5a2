/-
  
-/
import Derived.Test.YtfmghbennahlfaaGreatCnAg
namespace Go.Proofs.YtfmghbennahlfaaGreat
open Go.RowKit Go.ChangeShapes Go.WideShapes Go.ChangeAt Go.Shelf Go.Maps
attribute [local go_sem] Oper.semAt_some
set_option linter.unusedVariables false
set_option linter.unusedSimpArgs false
set_option maxRecDepth 100000
set_option maxHeartbeats 400000 in
theorem upward_c (pb : Nat) (f : Int) (w : World) :
   Calls Tryz.prog 243 #[.map (some pb), .int .u32 f] w fun e w' => e = .returned (.func (.func 301) #[] #[.pointer (some ⟨w.heap.size + 1, 0, none⟩), .pointer (some ⟨w.heap.size, 0, none⟩)]) ∧ w' = (w.alloc (.cells #[.map (some pb)] 280)).alloc (.cells #[.int .u32 f] 35) := by
 go_enter Tryz.func243, Tryz.ntmps243
 go_wp2
 go_ret
 exact ⟨rfl, rfl⟩
set_option maxHeartbeats 2000000 in
theorem leadUpTo_c (pb n : Nat) (G : Int → Option Int) (w : World) (hF : IsFm fdE w pb n G) (hn : n ≤ 1000) (hG : ∀ g p, G g = some p → 0 ≤ p ∧ p < 4294967296) (top f0 : Int) (h0 : 0 ≤ f0) (h1 : f0 < 4294967296) :
   Calls Tryz.prog 184 #[.map (some pb), .int .u32 top, .int .u32 f0] w fun e w' => e = .returned (.bool (leadB G n top f0)) ∧ Below w.heap.size w w' := by
 have UP := hid (fun Rr Rd => upward1_in w pb n G hF hn hG top f0 h0 h1 Rr Rd)
 clear hF hn hG h0 h1
 refine (callsIn_wide (n := 3)).1 ?_
 refine callsIn_of_wp_marks Tryz.func184 rfl trivial ?_ rfl
 simp only [Tryz.ntmps184, List.size_toArray, List.length_cons, List.length_nil, Nat.reduceAdd, Nat.reduceSub, Array.replicate_succ, Array.replicate_zero, List.push_toArray, List.append_toArray, List.nil_append, List.cons_append]
 gi_wp2_with fail
 refine ⟨trivial, (callsIn_wide.2 (upward_c _ _ _)).mono ?_⟩
 rintro _ _ ⟨rfl, rfl⟩
 gi_wp2_with fail
 have b1 := below_1 w (.cells #[.int .u32 top] 35)
 have x1 := heap_alloc_new w (.cells #[.int .u32 top] 35)
 have b2 := below_1 (w.alloc (.cells #[.int .u32 top] 35)) (.cells #[.bool false] 4)
 have x2 := heap_alloc_new (w.alloc (.cells #[.int .u32 top] 35)) (.cells #[.bool false] 4)
 have b3 := below_1 ((w.alloc (.cells #[.int .u32 top] 35)).alloc (.cells #[.bool false] 4)) (.cells #[.map (some pb)] 280)
 have x3 := heap_alloc_new ((w.alloc (.cells #[.int .u32 top] 35)).alloc (.cells #[.bool false] 4)) (.cells #[.map (some pb)] 280)
 have b4 := below_1 (((w.alloc (.cells #[.int .u32 top] 35)).alloc (.cells #[.bool false] 4)).alloc (.cells #[.map (some pb)] 280)) (.cells #[.int .u32 f0] 35)
 have x4 := heap_alloc_new (((w.alloc (.cells #[.int .u32 top] 35)).alloc (.cells #[.bool false] 4)).alloc (.cells #[.map (some pb)] 280)) (.cells #[.int .u32 f0] 35)
 have s1 : (w.alloc (.cells #[.int .u32 top] 35)).heap.size = w.heap.size + 1 := by simp
 have s2 : ((w.alloc (.cells #[.int .u32 top] 35)).alloc (.cells #[.bool false] 4)).heap.size = w.heap.size + 2 := by simp
 have s3 : (((w.alloc (.cells #[.int .u32 top] 35)).alloc (.cells #[.bool false] 4)).alloc (.cells #[.map (some pb)] 280)).heap.size = w.heap.size + 3 := by simp
 have hsz : ((((w.alloc (.cells #[.int .u32 top] 35)).alloc (.cells #[.bool false] 4)).alloc (.cells #[.map (some pb)] 280)).alloc (.cells #[.int .u32 f0] 35)).heap.size = w.heap.size + 4 := by simp
 rw [s1] at b2 x2
 rw [s2] at b3 x3
 rw [s3] at b4 x4
 have q3 := (b4.block _ (by omega)).trans x3
 have q2 := (b4.block _ (by omega)).trans ((b3.block _ (by omega)).trans x2)
 have q1 := (b4.block _ (by omega)).trans ((b3.block _ (by omega)).trans ((b2.block _ (by omega)).trans x1))
 have hA0 := ((b1.trans (b2.mono (by omega))).trans (b3.mono (by omega))).trans (b4.mono (by omega))
 have q4 := x4
 clear b1 b2 b3 b4 x1 x2 x3 x4 s1 s2 s3
 generalize ((((w.alloc (.cells #[.int .u32 top] 35)).alloc (.cells #[.bool false] 4)).alloc (.cells #[.map (some pb)] 280)).alloc (.cells #[.int .u32 f0] 35)) = W at *
 refine range_ret (gf := 301) (lb := #[.pointer (some ⟨w.heap.size + 3, 0, none⟩), .pointer (some ⟨w.heap.size + 2, 0, none⟩)]) (by first | rfl | simp) (enters_of Tryz.func301 (by kernel_rfl) rfl) (fun W' => leadB G n top f0 = false ∧ ∃ cur R, LU w pb top cur false R W') (fun W' => leadB G n top f0 = true ∧ ∃ cur R, LU w pb top cur true R W') ?_ ?_ ?_
 · intro fn
   generalize hR : Rg.recOf fn _ _ _ _ _ = R
   generalize hRD : recD fn _ _ _ _ _ = RD
   have h5 : W.heap.size + 1 = w.heap.size + 5 := by omega
   have hD1 : ((W.alloc (.deferred (some []))).alloc (.loop (R .ready))).heap[w.heap.size + 4]? = some (.deferred (some [])) := by
     rw [Below.heap_alloc _ _ _ (by simp; omega), ← hsz]; exact heap_alloc_new W _
   have hL1 : ((W.alloc (.deferred (some []))).alloc (.loop (R .ready))).heap[w.heap.size + 5]? = some (.loop (R .ready)) := by
     have := heap_alloc_new (W.alloc (.deferred (some []))) (.loop (R .ready)); rw [World.size_alloc, h5] at this; exact this
   have hB1 : Below W.heap.size W ((W.alloc (.deferred (some []))).alloc (.loop (R .ready))) := ((Below.refl _ _).alloc (Nat.le_refl _) _).alloc (by simp) _
   have hz1 : ((W.alloc (.deferred (some []))).alloc (.loop (R .ready))).heap.size = w.heap.size + 6 := by simp; omega
   generalize ((W.alloc (.deferred (some []))).alloc (.loop (R .ready))) = W1 at *
   have hLU : LU w pb top f0 false (.loop (R .ready)) W1 := ⟨hA0.trans (hB1.mono hA0.size), hz1, (hB1.block _ (by omega)).trans q1, (hB1.block _ (by omega)).trans q2, (hB1.block _ (by omega)).trans q3, (hB1.block _ (by omega)).trans q4, hD1, hL1⟩
   rw [hsz, show w.heap.size + 4 + 1 = w.heap.size + 5 from rfl]
   refine (UP.out (.loop (R .ready)) (.loop RD) ?_ W1 hLU).mono ?_
   · intro cur g V hV
     rw [hsz] at hR hRD
     subst hR
     subst hRD
     refine (round_ret (R := fun b W' => b = !(g == top) ∧ LU w pb top cur (!b) (bif b then _ else _) W') hV.2.2.2.2.2.2.2 (by rfl) ?_)
     gi_wp2
     generalize Obj.loop (Rg.recOf fn _ _ _ _ (w.heap.size + 4) LoopState.ready) = Rr at *
     generalize Obj.loop (Rg.recOf fn _ _ _ _ (w.heap.size + 4) LoopState.busy) = Rb at *
     generalize Obj.loop (recD fn _ _ _ _ (w.heap.size + 4)) = Rd at *
     refine ⟨hV.2.2.2.2.2.2.2, ?_⟩
     have hV2 := hV.rec Rb
     have c0 := cell_box hV2.2.2.1
     have c1 := cell_box hV2.2.2.2.1
     have f1 := frozen_box hV2.2.2.2.1
     have HV2 := hid hV2
     clear hV hV2 hLU hD1 hL1
     generalize V.putObj (w.heap.size + 5) Rb = V2 at *
     by_cases q : g = top
     · have qB : (g == top) = true := by rw [q]; simp
       have HV3 := hid (HV2.out.res true)
       clear q
       gi_wp2
       first | exact ⟨HV3.out.2.2.2.2.2.2.2, HV3.out.rec _⟩ | exact ⟨HV3.out.2.2.2.2.2.2.2, .inr ⟨rfl, by rw [qB]; rfl, HV3.out.rec _⟩⟩
     · have qB : (g == top) = false := beq_eq_false_iff_ne.2 q
       gi_wp2
       first | exact ⟨HV2.out.2.2.2.2.2.2.2, HV2.out.rec _⟩ | exact ⟨HV2.out.2.2.2.2.2.2.2, .inl ⟨rfl, by rw [qB]; rfl, HV2.out.rec _⟩⟩
   · rintro e V ⟨he, cur, hV⟩
     refine ⟨he, hV.2.2.2.2.2.2.1, ?_⟩
     cases hb : leadB G n top f0 with
     | true => rw [hb] at hV; exact .inr ⟨hV.2.2.2.2.2.2.2, rfl, cur, _, hV⟩
     | false => rw [hb] at hV; exact .inl ⟨hV.2.2.2.2.2.2.2, rfl, cur, _, hV⟩
 · rintro W' o ⟨hb, cur, R, hV⟩ hD hl
   rw [hsz, show w.heap.size + 4 + 1 = w.heap.size + 5 from rfl]
   have hV2 := hV.rec o
   have c1 := cell_box hV2.2.2.2.1
   have f1 := frozen_box hV2.2.2.2.1
   have HV3 := hid (hV2.res false)
   clear hV hV2 hD hl
   generalize W'.putObj (w.heap.size + 5) o = W2 at *
   gi_wp2
   have hV3 := HV3.out
   generalize W2.setCell ⟨w.heap.size + 1, 0, none⟩ (.bool false) = W3 at *
   have c3 : (W3.putObj (w.heap.size + 4) (.deferred none)).cell? ⟨w.heap.size + 1, 0, none⟩ = some (.bool false) := cell_box ((World.putObj_heap_other (by omega)).trans hV3.2.2.2.1)
   have hB3 : Below w.heap.size w (W3.putObj (w.heap.size + 4) (.deferred none)) := hV3.1.trans ⟨rfl, rfl, rfl, by simp, fun q hq => World.putObj_heap_other (by omega)⟩
   refine ⟨by simp, .inl ⟨_, _, rfl, run_takeDeferred hV3.2.2.2.2.2.2.1, ?_⟩⟩
   exact ⟨.bool false, by simp [results, Tryz.results184, go_sem, c3], by rw [hb], hB3⟩
 · rintro W' o ⟨hb, cur, R, hV⟩ hD hl
   rw [hsz, show w.heap.size + 4 + 1 = w.heap.size + 5 from rfl]
   have hV3 := hV.rec o
   generalize W'.putObj (w.heap.size + 5) o = W3 at *
   have c3 : (W3.putObj (w.heap.size + 4) (.deferred none)).cell? ⟨w.heap.size + 1, 0, none⟩ = some (.bool true) := cell_box ((World.putObj_heap_other (by omega)).trans hV3.2.2.2.1)
   have hB3 : Below w.heap.size w (W3.putObj (w.heap.size + 4) (.deferred none)) := hV3.1.trans ⟨rfl, rfl, rfl, by simp, fun q hq => World.putObj_heap_other (by omega)⟩
   refine ⟨by simp, .inl ⟨_, _, rfl, run_takeDeferred hV3.2.2.2.2.2.2.1, ?_⟩⟩
   exact ⟨.bool true, by simp [results, Tryz.results184, go_sem, c3], by rw [hb], hB3⟩
end Go.Proofs.YtfmghbennahlfaaGreat
namespace Go.Proofs.YtfmghbennahlfaaGreat
open Go.RowKit Go.ChangeShapes Go.WideShapes Go.ChangeAt Go.Maps
set_option linter.unusedVariables false
set_option linter.unusedSimpArgs false
set_option maxRecDepth 100000
def litI : Lit → Int
 | .int _ i => i
 | _ => 0
theorem IsFm.list {α : Type} {E : Enc α} {w : World} {b m : Nat} {f : Int → Option α} (h : IsFm E w b m f) : ∃ ks : List Int, ks.Pairwise (· ≠ ·) ∧ (∀ i, i ∈ ks ↔ (f i).isSome = true) ∧ ks.length = m := by
 obtain ⟨D, ho, hs, hf⟩ := h
 obtain ⟨es, e, hp, hsh⟩ := entriesF E ho
 subst e
 refine ⟨es.map fun p => litI p.1, ?_, fun i => ?_, ?_⟩
 · rw [List.pairwise_map]
   refine hp.imp_of_mem (fun {p q} hp1 hq1 hne e => hne ?_)
   obtain ⟨i, s, rfl, _⟩ := hsh p hp1
   obtain ⟨j, t, rfl, _⟩ := hsh q hq1
   simp only [litI, kyF] at e ⊢
   rw [e]
 · rw [hf i, ← Maps.has_eq_look_of (E := E) ho i, Maps.has_eq, List.any_eq_true, List.mem_map]
   constructor
   · rintro ⟨p, hp1, rfl⟩
     refine ⟨p, hp1, ?_⟩
     obtain ⟨j, s, rfl, _⟩ := hsh p hp1
     simp [litI, kyF, Lit.sameKey]
   · rintro ⟨p, hp1, hp2⟩
     refine ⟨p, hp1, ?_⟩
     obtain ⟨j, s, rfl, _⟩ := hsh p hp1
     rw [same_kyF] at hp2
     simpa [litI, kyF] using hp2
 · rw [List.length_map, ← hs]; rfl
theorem nodup_len : ∀ {a b : List Int}, a.Pairwise (· ≠ ·) → (∀ i, i ∈ a → i ∈ b) → a.length ≤ b.length
 | [], b, _, _ => Nat.zero_le _
 | x :: a, b, hp, h => by
   rw [List.pairwise_cons] at hp
   have hx := h x (by simp)
   have hl : (b.erase x).length + 1 = b.length := by
     have := List.length_erase_of_mem hx
     have h2 : 0 < b.length := List.length_pos_of_mem hx
     omega
   have := nodup_len (a := a) (b := b.erase x) hp.2 (fun i hi => (List.mem_erase_of_ne (fun e => hp.1 i hi e.symm)).2 (h i (by simp [hi])))
   rw [List.length_cons]
   omega
theorem nodup_same {a b : List Int} (ha : a.Pairwise (· ≠ ·)) (hb : b.Pairwise (· ≠ ·)) (h : ∀ i, i ∈ a ↔ i ∈ b) : a.length = b.length :=
 Nat.le_antisymm (nodup_len ha (fun i hi => (h i).1 hi)) (nodup_len hb (fun i hi => (h i).2 hi))
def RingN (N : Tab) : Prop := ∃ (G : Int → Option Int) (ks : List Int) (f p : Int), ks.Pairwise (· ≠ ·) ∧ (∀ i, i ∈ ks ↔ (G i).isSome = true) ∧ IsPar N G ∧ G f = some p ∧ leadB G ks.length f p = true
theorem ring_of {N : Tab} {G : Int → Option Int} {n : Nat} {ks : List Int} (h1 : ks.Pairwise (· ≠ ·)) (h2 : ∀ i, i ∈ ks ↔ (G i).isSome = true) (h3 : ks.length = n) (hP : IsPar N G) : RingN N ↔ ∃ f p, G f = some p ∧ leadB G n f p = true := by
 constructor
 · rintro ⟨G', ks', f, p, q1, q2, q3, q4, q5⟩
   have e : G' = G := by
     funext g
     cases hg : G g with
     | none =>
       cases hg' : G' g with
       | none => rfl
       | some x => have := (hP x g).2 ((q3 x g).1 hg'); rw [hg] at this; cases this
     | some x => exact (q3 x g).2 ((hP x g).1 hg)
   subst e
   rw [nodup_same q1 h1 (fun i => (q2 i).trans (h2 i).symm), h3] at q5
   exact ⟨f, p, q4, q5⟩
 · rintro ⟨f, p, q4, q5⟩
   exact ⟨G, ks, f, p, h1, h2, hP, q4, by rw [h3]; exact q5⟩
theorem below_grown0 {w w' : World} (h : Below w.heap.size w w') : w.grownBy w' none := ⟨h.os, h.tape, h.output, h.size, fun i hi _ => h.block i hi⟩
def RingP (N : Tab) (w : World) (e : Ending) (w' : World) : Prop := ∃ b, e = .returned (.bool b) ∧ (b = true ↔ RingN N) ∧ Below w.heap.size w w'
set_option maxHeartbeats 2000000 in
theorem holdRing_c (tb m0 : Nat) (N : Tab) (w : World) (hT : IsTab w tb m0 N) (hm0 : m0 ≤ 60) (hW : Whole6 N) (hU : OneUp N) :
   Calls Tryz.prog 120 #[.map (some tb)] w fun e w' => RingP N w e w' := by
 have HK : Hid (∀ f p x, N f = some (p, x) → 0 ≤ f ∧ f < 4294967296) := hid (fun f p x e => hT.1.keys (i := f) (s := some p) (by unfold Tab.ptr; rw [e]; rfl))
 have PC := hid (parents_c tb m0 N w hT hm0 hW hU)
 clear hT hW hU hm0
 go_enter Tryz.func120, Tryz.ntmps120
 go_wp2_with (first
   | (go_at_call 183; refine PC.out.mono ?_; rintro _ w1 ⟨rfl, ⟨c, G, hF, hc, hP⟩, hb1⟩
      have HF := hid hF
      have HP := hid hP
      have HC := hid hc
      have HB1 := hid hb1
      obtain ⟨D, ho, hsz, hlk⟩ := hF
      have HO := hid ho
      have HSZ := hid hsz
      have HLK := hid hlk
      clear ho hsz hlk hP hc hb1)
   | (at_range; refine wpList_range_own _ rfl _ 280 rfl 35 35 lawF ht_par fdE.rd w.heap.size c D rfl HO.out ?_; intro w0 hrg0 hg0 hs0))
 go_frame
 have R0 := hid hrg0
 have B0 := hid (grown_below hg0)
 obtain ⟨r, hr⟩ : ∃ r, r = w1.heap.size := ⟨_, rfl⟩
 rw [← hr] at R0 ⊢
 have HRr := hid hr
 have GB : Hid (∀ g p, G g = some p → 0 ≤ p ∧ p < 4294967296) := hid (fun g p e => by
   obtain ⟨pp, x, i, h1, _⟩ := (HP.out p g).1 e
   exact HK.out p pp x h1)
 obtain ⟨ks, k1, k2, k3⟩ := HF.out.list
 have RO := hid (ring_of k1 k2 k3 HP.out)
 have GK : Hid (∀ g p, G g = some p → 0 ≤ g ∧ g < 4294967296) := hid (fun g p e => HF.out.keys e)
 clear hrg0 hg0 hs0 hr k1 k2 k3 ks PC HK
 go_loopg [4] (Maps.size D) (fun gk v wr => Hid (Below w1.heap.size w1 wr) ∧ Hid (r < wr.heap.size) ∧ Hid (∃ left, wr.ranges Tryz.prog 35 fdE.rd w.heap.size r c D left gk ∧ ∀ f p, G f = some p → left (kyF f) = false → leadB G c f p = false))
 case atStart =>
   refine ⟨B0, hid R0.out.lt, hid ⟨_, R0.out, fun f p e hl => ?_⟩⟩
   have e1 := (look_atF fdE HO.out f 0).2.1
   rw [e1, ← HLK.out f, e] at hl
   cases hl
 case round =>
   clear R0 B0
   obtain ⟨HB, HS, HI⟩ := hrel
   obtain ⟨left, hrg, hlead⟩ := HI.out
   have HRG := hid hrg
   have HL := hid hlead
   clear HI hrg hlead
   go_wp2_with (at_next; refine next_F fdE _ rfl _ rfl w.heap.size r c D left gk rfl HRG.out ?_ ?_)
   · intro hc0 hl0
     have FIN : Hid (RingP N w (.returned (.bool false)) wr) := hid ⟨false, rfl, ⟨(fun h => by cases h), fun h => by
       obtain ⟨f, p, e1, e2⟩ := RO.out.1 h
       rw [HL.out f p e1 (hl0 f)] at e2
       cases e2⟩, HB1.out.trans (HB.out.mono HB1.out.size)⟩
     go_wp2
     go_ret
     exact FIN.out
   · intro f p w2 cnt1 hf0 hf1 hlf hlD hrg1 hlt hg1 hs1 hen
     rw [show fdE.enc p = .int .u32 p from rfl] at hen ⊢
     rw [← HLK.out f] at hlD
     have hB2 : Below w1.heap.size w1 w2 := HB.out.trans ((grown_ou hg1).below HB.out.size (fun k e => by have := HRr.out; omega))
     have HB2 := hid hB2
     have hp := GB.out f p hlD
     have LC := hid (leadUpTo_c w.heap.size c G w2 (HF.out.out (Ou.of (S := fun _ => False) hB2) (fun e => e)) (by have := HC.out; omega) GB.out f p hp.1 hp.2)
     have HG := hid hlD
     have HRG1 := hid hrg1
     have HS2 : Hid (r < w2.heap.size) := hid (by rw [hs1]; exact HS.out)
     clear hlD hB2 hrg1 hg1 hs1 hp hlf HB HRG HS
     cases hq : leadB G c f p with
     | true =>
       rw [hq] at LC
       have RT : Hid (RingN N) := hid (RO.out.2 ⟨f, p, HG.out, hq⟩)
       clear hq
       go_wp2_with (go_at_call 184; refine LC.out.mono ?_; rintro _ w3 ⟨rfl, hb3⟩)
       go_ret
       exact ⟨true, rfl, ⟨fun _ => RT.out, fun _ => rfl⟩, HB1.out.trans ((HB2.out.trans (hb3.mono HB2.out.size)).mono HB1.out.size)⟩
     | false =>
       rw [hq] at LC
       have HQ := hid hq
       clear hq
       go_wp2_with (go_at_call 184; refine LC.out.mono ?_; rintro _ w3 ⟨rfl, hb3⟩)
       have HB3 := hid (HB2.out.trans (hb3.mono HB2.out.size))
       have HS3 : Hid (r < w3.heap.size) := hid (Nat.lt_of_lt_of_le HS2.out hb3.size)
       have HI3 : Hid (∃ left, w3.ranges Tryz.prog 35 fdE.rd w.heap.size r c D left cnt1 ∧ ∀ f p, G f = some p → left (kyF f) = false → leadB G c f p = false) := hid (by
         refine ⟨_, HRG1.out.kept (below_grown0 hb3) (by simp) (by simp), fun f' p' e hl => ?_⟩
         by_cases q : f' = f
         · subst q
           rw [HG.out] at e
           cases e
           exact HQ.out
         · refine HL.out f' p' e ?_
           simp only [same_kyF, decide_eq_false q, Bool.not_false, Bool.and_true] at hl
           exact hl)
       clear hb3
       go_roundg cnt1
       case measure => exact hlt
       case rel => exact ⟨HB3, HS3, HI3⟩
def N0 (l : List Nd) : Tab := ndF none l l.length
def RightP (l : List Nd) : Prop := l.length ≤ 40 ∧ fidsUp l = true ∧ isDirT (N0 l) 1 = true ∧ (∀ x ∈ l, aloneB x = true ∧ haveB (N0 l) x.ks = true) ∧ linksB l = true ∧ ¬ RingN (N0 l)
theorem nd_isSome (a : Option Addr) (l : List Nd) (m : Nat) (f : Int) : (ndF a l m f).isSome = (ndF none l m f).isSome := by
 unfold ndF
 cases plTo l m f <;> rfl
theorem dir_any (a : Option Addr) (l : List Nd) (m : Nat) (g : Int) : isDirT (ndF a l m) g = isDirT (ndF none l m) g := by
 unfold isDirT ndF
 cases plTo l m g <;> rfl
theorem edge_any (a : Option Addr) (l : List Nd) (m : Nat) (f g : Int) : Edge (ndF a l m) f g ↔ Edge (ndF none l m) f g := by
 have key : ∀ a b : Option Addr, Edge (ndF a l m) f g → Edge (ndF b l m) f g := fun a b h => by
   obtain ⟨p, x, i, h1, h2, h3, h4⟩ := h
   rw [dir_any] at h4
   unfold ndF at h1
   cases hp : plTo l m f with
   | none => rw [hp] at h1; cases h1
   | some j =>
     rw [hp] at h1
     cases h1
     refine ⟨⟨(b.getD ⟨0, 0, none⟩).block, (b.getD ⟨0, 0, none⟩).off + j * 6, none⟩, l.getD j Nd.no, i, ?_, h2, h3, by rw [dir_any]; exact h4⟩
     unfold ndF
     rw [hp]; rfl
 exact ⟨key _ _, key _ _⟩
theorem ring_any (a : Option Addr) (l : List Nd) (m : Nat) : RingN (ndF a l m) ↔ RingN (ndF none l m) := by
 have e : ∀ G, IsPar (ndF a l m) G ↔ IsPar (ndF none l m) G := fun G => by
   unfold IsPar
   constructor
   · intro h f g; rw [h f g, edge_any]
   · intro h f g; rw [h f g, edge_any a]
 unfold RingN
 simp only [e]
theorem haveTo_any (a : Option Addr) (l : List Nd) (m : Nat) (ks : List Kd) : ∀ n, haveTo (ndF a l m) ks n = haveTo (ndF none l m) ks n
 | 0 => rfl
 | n + 1 => by simp only [haveTo, haveTo_any a l m ks n, nd_isSome a]
theorem haveB_any (a : Option Addr) (l : List Nd) (m : Nat) (ks : List Kd) : haveB (ndF a l m) ks = haveB (ndF none l m) ks := haveTo_any a l m ks _
theorem alone_few {x : Nd} (h : aloneB x = true) : x.ks.length ≤ 12 := by
 unfold aloneB at h
 cases q : (x.k == 1 || x.k == 3) with
 | true =>
   rw [q] at h
   simp only [cond_true, Bool.and_eq_true, decide_eq_true_eq] at h
   omega
 | false =>
   rw [q] at h
   cases q2 : (x.k == 2) with
   | true =>
     rw [q2] at h
     simp only [cond_false, cond_true, Bool.and_eq_true, decide_eq_true_eq] at h
     exact h.2.1
   | false => rw [q2] at h; cases h
theorem linksTo_all {P : List Int} {l : List Nd} : ∀ {m : Nat}, linksTo P l m = true → ∀ i, i < m → linkB P (l.getD i Nd.no) = true
 | 0, _, i, hi => by omega
 | m + 1, h, i, hi => by
   unfold linksTo at h
   rw [Bool.and_eq_true] at h
   by_cases e : i = m
   · subst e; exact h.2
   · exact linksTo_all h.1 i (by omega)
theorem kfs_mem {l : List Nd} {i j : Nat} {g : Int} (hi : i < l.length) (hj : j < (l.getD i Nd.no).ks.length) (hg : ((l.getD i Nd.no).ks.getD j Kd.no).fid = g) : g ∈ kfs l := by
 unfold kfs
 rw [List.mem_flatMap]
 refine ⟨_, getD_mem l Nd.no hi, ?_⟩
 rw [List.mem_map]
 exact ⟨_, getD_mem _ Kd.no hj, hg⟩
theorem kfs_two {l : List Nd} {i i' j j' : Nat} {g : Int} (hlt : i < i') (hi' : i' < l.length) (hj : j < (l.getD i Nd.no).ks.length) (hg : ((l.getD i Nd.no).ks.getD j Kd.no).fid = g) (hj' : j' < (l.getD i' Nd.no).ks.length) (hg' : ((l.getD i' Nd.no).ks.getD j' Kd.no).fid = g) : 2 ≤ (kfs l).count g := by
 have e0 : l = l.take (i' + 1) ++ l.drop (i' + 1) := (List.take_append_drop _ _).symm
 have e1 : kfs l = kfs (l.take (i' + 1)) ++ kfs (l.drop (i' + 1)) := by
   unfold kfs
   rw [← List.flatMap_append, ← e0]
 rw [e1, kfs_take hi', List.count_append, List.count_append]
 have h1 : 0 < (kfs (l.take i')).count g := by
   rw [List.count_pos_iff]
   have et : (l.take i').getD i Nd.no = l.getD i Nd.no := by simp [List.getD, List.getElem?_take, hlt]
   refine kfs_mem (l := l.take i') (i := i) (j := j) (by rw [List.length_take]; omega) (by rw [et]; exact hj) (by rw [et]; exact hg)
 have h2 : 0 < ((l.getD i' Nd.no).ks.map (·.fid)).count g := by
   rw [List.count_pos_iff, List.mem_map]
   exact ⟨_, getD_mem _ Kd.no hj', hg'⟩
 omega
theorem one_up {a : Option Addr} {l : List Nd} (hL : linksB l = true) (hH : ∀ x ∈ l, haveB (ndF a l l.length) x.ks = true) : OneUp (ndF a l l.length) := by
 intro f f' g h h'
 obtain ⟨p, x, j, h1, h2, h3, h4⟩ := h
 obtain ⟨p', x', j', h1', h2', h3', _⟩ := h'
 unfold ndF at h1 h1'
 cases hp : plTo l l.length f with
 | none => rw [hp] at h1; cases h1
 | some i =>
   cases hp' : plTo l l.length f' with
   | none => rw [hp'] at h1'; cases h1'
   | some i' =>
     rw [hp] at h1
     rw [hp'] at h1'
     cases h1
     cases h1'
     obtain ⟨li, ei⟩ := plTo_lt l _ hp
     obtain ⟨li', ei'⟩ := plTo_lt l _ hp'
     have hc : (kfs l).count g ≤ 1 := by
       unfold isDirT ndF at h4
       cases hg : plTo l l.length g with
       | none => rw [hg] at h4; cases h4
       | some k =>
         rw [hg] at h4
         simp only [Option.map_some] at h4
         obtain ⟨lk, ek⟩ := plTo_lt l _ hg
         have hb := linksTo_all hL k lk
         have hne : g ≠ 1 := by
           have := (haveTo_all (hH _ (getD_mem l Nd.no li)) j h2).1
           rw [h3] at this
           exact this
         unfold linkB at hb
         rw [ek, h4] at hb
         have hne2 : (g == 1) = false := beq_eq_false_iff_ne.2 hne
         rw [hne2] at hb
         simp only [Bool.false_or, Bool.true_and, Bool.and_eq_true, Bool.not_eq_true', Bool.or_eq_false_iff, decide_eq_false_iff_not] at hb
         omega
     rcases Nat.lt_trichotomy i i' with q | q | q
     · have := kfs_two q li' h2 h3 h2' h3'; omega
     · subst q; rw [← ei, ← ei']
     · have := kfs_two q li h2' h3' h2 h3; omega
theorem whole_6 {a : Option Addr} {l : List Nd} (hA : ∀ x ∈ l, aloneB x = true) (hH : ∀ x ∈ l, haveB (ndF a l l.length) x.ks = true) : Whole6 (ndF a l l.length) := by
 intro f p x h
 unfold ndF at h
 cases hp : plTo l l.length f with
 | none => rw [hp] at h; cases h
 | some i =>
   rw [hp] at h
   cases h
   obtain ⟨li, _⟩ := plTo_lt l _ hp
   have hm := getD_mem l Nd.no li
   exact ⟨alone_few (hA _ hm), fun j hj => (haveTo_all (hH _ hm) j hj).2⟩
def RtP (l : List Nd) (w : World) (e : Ending) (w' : World) : Prop := ∃ b, e = .returned (.bool b) ∧ (b = true ↔ RightP l) ∧ Below w.heap.size w w'
theorem RtP.no {l : List Nd} {w w' : World} (h : ¬ RightP l) (hb : Below w.heap.size w w') : RtP l w (.returned (.bool false)) w' := ⟨false, rfl, ⟨(fun e => by cases e), fun e => absurd e h⟩, hb⟩
set_option maxHeartbeats 4000000 in
theorem right_c (a : Option Addr) (cap : Nat) (l : List Nd) (w : World) (h : IsNs w a l) (hm : l.length ≤ 100000) :
   Calls Tryz.prog 58 #[.slice a l.length cap] w fun e w' => RtP l w e w' := by
 have H := hid h
 have FC := hid (fidsRise_c a cap l w h hm)
 have TC := hid (fun (h4 : l.length ≤ 40) => tableOf_c a cap l w h (by omega))
 have ht := ht_tab
 clear h
 by_cases q40 : 40 < l.length
 · have qI : (40 : Int) < l.length := by omega
   have F : Hid (RtP l w (.returned (.bool false)) w) := hid (RtP.no (fun h => by have := h.1; omega) (Below.refl _ _))
   go_enter Tryz.func58, Tryz.ntmps58
   go_wp2
   go_ret
   exact F.out
 · have qI : ¬ (40 : Int) < l.length := by omega
   have TC2 := hid (TC.out (by omega))
   clear TC
   cases qu : fidsUp l with
   | false =>
     rw [qu] at FC
     have F : Hid (RtP l w (.returned (.bool false)) w) := hid (RtP.no (fun h => by have := h.2.1; rw [qu] at this; cases this) (Below.refl _ _))
     clear qu
     go_enter Tryz.func58, Tryz.ntmps58
     go_wp2_with (go_at_call 116; refine FC.out.mono ?_; rintro _ w0 ⟨rfl, hw0⟩; have hw1 := hw0.symm; clear hw0; subst hw1)
     go_ret
     exact F.out
   | true =>
     rw [qu] at FC
     have HU := hid qu
     clear qu
     obtain ⟨N, hN⟩ : ∃ N, N = ndF a l l.length := ⟨_, rfl⟩
     rw [← hN] at TC2
     have HN := hid hN
     have hd1 := dir_any a l l.length 1
     rw [← hN] at hd1
     have HD1 := hid hd1
     have HHV : Hid (∀ ks, haveB N ks = haveB (N0 l) ks) := hid (fun ks => by rw [hN]; exact haveB_any a l l.length ks)
     have HRG : Hid (RingN N ↔ RingN (N0 l)) := hid (by rw [hN]; exact ring_any a l l.length)
     have HW6 : Hid ((∀ x ∈ l, aloneB x = true) → (∀ x ∈ l, haveB N x.ks = true) → Whole6 N) := hid (fun h1 h2 => by rw [hN] at h2 ⊢; exact whole_6 h1 h2)
     have HO6 : Hid (linksB l = true → (∀ x ∈ l, haveB N x.ks = true) → OneUp N) := hid (fun h1 h2 => by rw [hN] at h2 ⊢; exact one_up h1 h2)
     have HPL := hid (plN_le l l.length)
     clear hN hd1 HN
     cases qd : isDirT N 1 with
     | false =>
       have ND : Hid (¬ RightP l) := hid (fun h => by have := h.2.2.1; unfold N0 at this; rw [← HD1.out, qd] at this; cases this)
       unfold isDirT at qd
       cases q1 : N 1 with
       | none =>
         clear qd
         go_enter Tryz.func58, Tryz.ntmps58
         go_wp2_with (first
           | (go_at_call 108; refine TC2.out.mono ?_; rintro _ w1 ⟨rfl, hT, hb1⟩
              have LK := hT.1.look ht zeroPt (i := 1) (by omega) (by omega)
              unfold Tab.ptr at LK
              rw [q1, show ptE.enc ((Option.map (fun p : Addr × Nd => some p.1) none).getD none) = .pointer none from rfl] at LK
              have HB := hid hb1
              clear hT hb1)
           | (go_at_call 116; refine FC.out.mono ?_; rintro _ w0 ⟨rfl, hw0⟩; have hw1 := hw0.symm; clear hw0; subst hw1))
         go_ret
         exact RtP.no ND.out HB.out
       | some z =>
         obtain ⟨p, x⟩ := z
         rw [q1] at qd
         simp only at qd
         have qk : (x.k != 2) = true := by rw [bne, qd]; rfl
         have qk2 : ¬ x.k = 2 := by rwa [beq_eq_false_iff_ne] at qd
         go_enter Tryz.func58, Tryz.ntmps58
         go_wp2_with (first
           | (go_at_call 108; refine TC2.out.mono ?_; rintro _ w1 ⟨rfl, hT, hb1⟩
              have LK := hT.1.look ht zeroPt (i := 1) (by omega) (by omega)
              unfold Tab.ptr at LK
              rw [q1, show ptE.enc ((Option.map (fun p : Addr × Nd => some p.1) (some (p, x))).getD none) = .pointer (some p) from rfl] at LK
              obtain ⟨hps, hnc, _, _⟩ := hT.2 1 p x q1
              obtain ⟨pb, po, ps⟩ := p
              simp only at hps
              subst hps
              have c1 := hnc.all.2.1
              simp only at c1
              have HB := hid hb1
              clear hT hb1 hnc)
           | (go_at_call 116; refine FC.out.mono ?_; rintro _ w0 ⟨rfl, hw0⟩; have hw1 := hw0.symm; clear hw0; subst hw1))
         go_ret
         exact RtP.no ND.out HB.out
     | true =>
       have HDT : Hid (isDirT (N0 l) 1 = true) := hid (by unfold N0; rw [← HD1.out]; exact qd)
       clear HD1
       unfold isDirT at qd
       cases q1 : N 1 with
       | none => rw [q1] at qd; cases qd
       | some z =>
         obtain ⟨p, x⟩ := z
         rw [q1] at qd
         simp only at qd
         have qk : x.k = 2 := by simpa using qd
         clear qd
         obtain ⟨xf, xk, xm, xl, xda, xdc, xzs, xka, xkc, xks⟩ := x
         simp only at qk
         subst qk
         obtain ⟨n, hn⟩ : ∃ n, n = l.length := ⟨_, rfl⟩
         have HNL := hid hn
         rw [← hn] at FC TC2 q40 qI HPL
         go_enter Tryz.func58, Tryz.ntmps58
         rw [← hn]
         clear hn
         go_wp2_with (first
           | (go_at_call 108; refine TC2.out.mono ?_; rintro _ w1 ⟨rfl, hT, hb1⟩
              have LK := hT.1.look ht zeroPt (i := 1) (by omega) (by omega)
              unfold Tab.ptr at LK
              rw [q1, show ptE.enc ((Option.map (fun p : Addr × Nd => some p.1) (some (p, (⟨xf, 2, xm, xl, xda, xdc, xzs, xka, xkc, xks⟩ : Nd)))).getD none) = .pointer (some p) from rfl] at LK
              obtain ⟨hps, hnc, _, _⟩ := hT.2 1 p _ q1
              obtain ⟨pb, po, ps⟩ := p
              simp only at hps
              subst hps
              have c1 := hnc.all.2.1
              simp only at c1
              have HB := hid hb1
              have HT := hid hT
              clear hT hb1 hnc)
           | (go_at_call 116; refine FC.out.mono ?_; rintro _ w0 ⟨rfl, hw0⟩; have hw1 := hw0.symm; clear hw0; subst hw1))
         clear FC TC2 LK c1 q1
         go_loopg [29] n (fun gk i wr => ∃ m : Nat, m + gk = n ∧ i = .int .i64 m ∧ Hid (Below w1.heap.size w1 wr) ∧ Hid (∀ i, i < m → aloneB (l.getD i Nd.no) = true ∧ haveB N (l.getD i Nd.no).ks = true))
         case atStart => exact ⟨0, by omega, rfl, hid (Below.refl _ _), hid (fun i hi => by omega)⟩
         case round =>
           obtain ⟨m, hm2, rfl, HB2, HI⟩ := hrel
           have HBW := hid (HB.out.trans (HB2.out.mono HB.out.size))
           by_cases hlt : m < n
           · have hltI : (m : Int) < n := by omega
             have hln : m < l.length := by rw [← HNL.out]; exact hlt
             obtain ⟨b, off, rfl, _⟩ := H.out.2.2 (by omega)
             have hI := H.out.later HBW.out
             have hC := hI.at (i := m) hln
             have hO := hI.ok (i := m) hln
             have hmem := getD_mem l Nd.no hln
             have AC := hid (rightAlone_c b (off + m * 6) _ wr hC hO)
             cases qa : aloneB (l.getD m Nd.no) with
             | false =>
               rw [qa] at AC
               have ND : Hid (¬ RightP l) := hid (fun h => by have := (h.2.2.2.1 _ hmem).1; rw [qa] at this; cases this)
               clear hI hC hO hmem qa hln
               go_wp2_with (go_at_call 117; refine AC.out.mono ?_; rintro _ w3 ⟨rfl, hb3⟩)
               go_ret
               exact RtP.no ND.out (HBW.out.trans (hb3.mono HBW.out.size))
             | true =>
               rw [qa] at AC
               have KC := hid (fun W (hW : Below wr.heap.size wr W) => haveKidsOf_c w.heap.size _ N b (off + m * 6) _ W (HT.out.later (HB2.out.trans (hW.mono HB2.out.size))) (hC.later hW) (hO.later hW) (by have := alone_few qa; omega))
               cases qh : haveB N (l.getD m Nd.no).ks with
               | false =>
                 rw [qh] at KC
                 have ND : Hid (¬ RightP l) := hid (fun h => by have := (h.2.2.2.1 _ hmem).2; rw [← HHV.out, qh] at this; cases this)
                 clear hI hC hO hmem qa hln qh
                 go_wp2_with (first
                   | (go_at_call 118; refine (KC.out _ B3.out).mono ?_; rintro _ w4 ⟨rfl, hb4⟩)
                   | (go_at_call 117; refine AC.out.mono ?_; rintro _ w3 ⟨rfl, hb3⟩; have B3 := hid hb3; clear hb3))
                 go_ret
                 exact RtP.no ND.out (HBW.out.trans ((B3.out.trans (hb4.mono B3.out.size)).mono HBW.out.size))
               | true =>
                 rw [qh] at KC
                 have HI2 : Hid (∀ i, i < m + 1 → aloneB (l.getD i Nd.no) = true ∧ haveB N (l.getD i Nd.no).ks = true) := hid (fun i hi => by
                   by_cases e : i = m
                   · subst e; exact ⟨qa, qh⟩
                   · exact HI.out i (by omega))
                 clear hI hC hO hmem qa hln qh HI
                 go_wp2_with (first
                   | (go_at_call 118; refine (KC.out _ B3.out).mono ?_; rintro _ w4 ⟨rfl, hb4⟩)
                   | (go_at_call 117; refine AC.out.mono ?_; rintro _ w3 ⟨rfl, hb3⟩; have B3 := hid hb3; clear hb3))
                 have HB4 := hid (HB2.out.trans ((B3.out.trans (hb4.mono B3.out.size)).mono HB2.out.size))
                 clear hb4
                 go_roundg (gk - 1)
                 case measure => omega
                 case rel => exact ⟨m + 1, by omega, by go_num, HB4, HI2⟩
           · have hge : ¬ (m : Int) < n := by omega
             have ALL : Hid (∀ x ∈ l, aloneB x = true ∧ haveB N x.ks = true) := hid (fun x hx => by
               obtain ⟨i, hi, rfl⟩ := List.getElem_of_mem hx
               have := HI.out i (by have := HNL.out; omega)
               simpa [List.getD, hi] using this)
             clear HI
             have A1 := hid (fun x hx => (ALL.out x hx).1)
             have A2 := hid (fun x hx => (ALL.out x hx).2)
             have RL := hid (rightLinks_c a cap l wr (H.out.later HBW.out) (by have := HNL.out; omega) (fun x hx => alone_few (A1.out x hx)))
             rw [← HNL.out] at RL
             cases ql : linksB l with
             | false =>
               rw [ql] at RL
               have ND : Hid (¬ RightP l) := hid (fun h => by have := h.2.2.2.2.1; rw [ql] at this; cases this)
               clear ql
               go_wp2_with (go_at_call 119; refine RL.out.mono ?_; rintro _ w3 ⟨rfl, hb3⟩)
               go_ret
               exact RtP.no ND.out (HBW.out.trans (hb3.mono HBW.out.size))
             | true =>
               rw [ql] at RL
               have HC := hid (fun W (hW : Below wr.heap.size wr W) => holdRing_c w.heap.size _ N W (HT.out.later (HB2.out.trans (hW.mono HB2.out.size))) (by have h1 := HPL.out; have h2 := HNL.out; omega) (HW6.out A1.out A2.out) (HO6.out ql A2.out))
               have FIN : Hid (∀ b, (b = true ↔ RingN N) → ((!b) = true ↔ RightP l)) := hid (fun b hb => by
                 constructor
                 · intro e
                   refine ⟨by have := HNL.out; omega, HU.out, HDT.out, fun x hx => ⟨A1.out x hx, by rw [← HHV.out]; exact A2.out x hx⟩, ql, fun hr => ?_⟩
                   rw [hb.2 (HRG.out.2 hr)] at e
                   cases e
                 · intro h
                   cases b with
                   | false => rfl
                   | true => exact absurd (HRG.out.1 (hb.1 rfl)) h.2.2.2.2.2)
               unfold RingP at HC
               clear ql
               go_wp2_with (first
                 | (go_at_call 120; refine (HC.out _ B3.out).mono ?_; rintro _ w4 ⟨b4, rfl, hq4, hb4⟩; have Q4 := hid hq4; clear hq4)
                 | (go_at_call 119; refine RL.out.mono ?_; rintro _ w3 ⟨rfl, hb3⟩; have B3 := hid hb3; clear hb3))
               go_ret
               exact ⟨_, rfl, FIN.out b4 Q4.out, HBW.out.trans ((B3.out.trans (hb4.mono B3.out.size)).mono HBW.out.size)⟩
end Go.Proofs.YtfmghbennahlfaaGreat
