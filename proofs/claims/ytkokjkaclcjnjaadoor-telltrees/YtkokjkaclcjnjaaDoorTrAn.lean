/-
  Which nodes are a tree: holdRing, Right of the package tree.
-/
import Derived.Test.YtkokjkaclcjnjaaDoorTrAm
namespace Go.Proofs.YtkokjkaclcjnjaaDoor
open Go.RowKit Go.ChangeShapes Go.WideShapes Go.ChangeAt Go.Maps
set_option linter.unusedVariables false
set_option linter.unusedSimpArgs false
set_option maxRecDepth 100000
def litI : Lit → Int
 | .int _ i => i
 | _ => 0
theorem IsFm.list {α : Type} {E : Enc α} {w : World} {b m : Nat} {f : Int → Option α} (h : IsFm E w b m f) : ∃ ks : List Int, ks.Pairwise (· ≠ ·) ∧ (∀ i, i ∈ ks ↔ (f i).isSome = true) ∧ ks.length = m := by
 obtain ⟨D, ho, hs, hf⟩ := h
 obtain ⟨es, e, hp, hsh⟩ := entriesF E ho
 subst e
 refine ⟨es.map fun p => litI p.1, ?_, fun i => ?_, ?_⟩
 · rw [List.pairwise_map]
   refine hp.imp_of_mem (fun {p q} hp1 hq1 hne e => hne ?_)
   obtain ⟨i, s, rfl, _⟩ := hsh p hp1
   obtain ⟨j, t, rfl, _⟩ := hsh q hq1
   simp only [litI, kyF] at e ⊢
   rw [e]
 · rw [hf i, ← Maps.has_eq_look_of (E := E) ho i, Maps.has_eq, List.any_eq_true, List.mem_map]
   constructor
   · rintro ⟨p, hp1, rfl⟩
     refine ⟨p, hp1, ?_⟩
     obtain ⟨j, s, rfl, _⟩ := hsh p hp1
     simp [litI, kyF, Lit.sameKey]
   · rintro ⟨p, hp1, hp2⟩
     refine ⟨p, hp1, ?_⟩
     obtain ⟨j, s, rfl, _⟩ := hsh p hp1
     rw [same_kyF] at hp2
     simpa [litI, kyF] using hp2
 · rw [List.length_map, ← hs]; rfl
theorem nodup_len : ∀ {a b : List Int}, a.Pairwise (· ≠ ·) → (∀ i, i ∈ a → i ∈ b) → a.length ≤ b.length
 | [], b, _, _ => Nat.zero_le _
 | x :: a, b, hp, h => by
   rw [List.pairwise_cons] at hp
   have hx := h x (by simp)
   have hl : (b.erase x).length + 1 = b.length := by
     have := List.length_erase_of_mem hx
     have h2 : 0 < b.length := List.length_pos_of_mem hx
     omega
   have := nodup_len (a := a) (b := b.erase x) hp.2 (fun i hi => (List.mem_erase_of_ne (fun e => hp.1 i hi e.symm)).2 (h i (by simp [hi])))
   rw [List.length_cons]
   omega
theorem nodup_same {a b : List Int} (ha : a.Pairwise (· ≠ ·)) (hb : b.Pairwise (· ≠ ·)) (h : ∀ i, i ∈ a ↔ i ∈ b) : a.length = b.length :=
 Nat.le_antisymm (nodup_len ha (fun i hi => (h i).1 hi)) (nodup_len hb (fun i hi => (h i).2 hi))
def RingN (N : Tab) : Prop := ∃ (G : Int → Option Int) (ks : List Int) (f p : Int), ks.Pairwise (· ≠ ·) ∧ (∀ i, i ∈ ks ↔ (G i).isSome = true) ∧ IsPar N G ∧ G f = some p ∧ leadB G ks.length f p = true
theorem ring_of {N : Tab} {G : Int → Option Int} {n : Nat} {ks : List Int} (h1 : ks.Pairwise (· ≠ ·)) (h2 : ∀ i, i ∈ ks ↔ (G i).isSome = true) (h3 : ks.length = n) (hP : IsPar N G) : RingN N ↔ ∃ f p, G f = some p ∧ leadB G n f p = true := by
 constructor
 · rintro ⟨G', ks', f, p, q1, q2, q3, q4, q5⟩
   have e : G' = G := by
     funext g
     cases hg : G g with
     | none =>
       cases hg' : G' g with
       | none => rfl
       | some x => have := (hP x g).2 ((q3 x g).1 hg'); rw [hg] at this; cases this
     | some x => exact (q3 x g).2 ((hP x g).1 hg)
   subst e
   rw [nodup_same q1 h1 (fun i => (q2 i).trans (h2 i).symm), h3] at q5
   exact ⟨f, p, q4, q5⟩
 · rintro ⟨f, p, q4, q5⟩
   exact ⟨G, ks, f, p, h1, h2, hP, q4, by rw [h3]; exact q5⟩
theorem below_grown0 {w w' : World} (h : Below w.heap.size w w') : w.grownBy w' none := ⟨h.os, h.tape, h.output, h.size, fun i hi _ => h.block i hi⟩
def RingP (N : Tab) (w : World) (e : Ending) (w' : World) : Prop := ∃ b, e = .returned (.bool b) ∧ (b = true ↔ RingN N) ∧ Below w.heap.size w w'
set_option maxHeartbeats 2000000 in
theorem holdRing_c (tb m0 : Nat) (N : Tab) (w : World) (hT : IsTab w tb m0 N) (hm0 : m0 ≤ 60) (hW : Whole6 N) (hU : OneUp N) :
   Calls Tryd.prog 65 #[.map (some tb)] w fun e w' => RingP N w e w' := by
 have HK : Hid (∀ f p x, N f = some (p, x) → 0 ≤ f ∧ f < 4294967296) := hid (fun f p x e => hT.1.keys (i := f) (s := some p) (by unfold Tab.ptr; rw [e]; rfl))
 have PC := hid (parents_c tb m0 N w hT hm0 hW hU)
 clear hT hW hU hm0
 go_enter Tryd.func65, Tryd.ntmps65
 go_wp2_with (first
   | (go_at_call 92; refine PC.out.mono ?_; rintro _ w1 ⟨rfl, ⟨c, G, hF, hc, hP⟩, hb1⟩
      have HF := hid hF
      have HP := hid hP
      have HC := hid hc
      have HB1 := hid hb1
      obtain ⟨D, ho, hsz, hlk⟩ := hF
      have HO := hid ho
      have HSZ := hid hsz
      have HLK := hid hlk
      clear ho hsz hlk hP hc hb1)
   | (at_range; refine wpList_range_own _ rfl _ 129 rfl 29 29 lawF ht_par fdE.rd w.heap.size c D rfl HO.out ?_; intro w0 hrg0 hg0 hs0))
 go_frame
 have R0 := hid hrg0
 have B0 := hid (grown_below hg0)
 obtain ⟨r, hr⟩ : ∃ r, r = w1.heap.size := ⟨_, rfl⟩
 rw [← hr] at R0 ⊢
 have HRr := hid hr
 have GB : Hid (∀ g p, G g = some p → 0 ≤ p ∧ p < 4294967296) := hid (fun g p e => by
   obtain ⟨pp, x, i, h1, _⟩ := (HP.out p g).1 e
   exact HK.out p pp x h1)
 obtain ⟨ks, k1, k2, k3⟩ := HF.out.list
 have RO := hid (ring_of k1 k2 k3 HP.out)
 have GK : Hid (∀ g p, G g = some p → 0 ≤ g ∧ g < 4294967296) := hid (fun g p e => HF.out.keys e)
 clear hrg0 hg0 hs0 hr k1 k2 k3 ks PC HK
 go_loopg [4] (Maps.size D) (fun gk v wr => Hid (Below w1.heap.size w1 wr) ∧ Hid (r < wr.heap.size) ∧ Hid (∃ left, wr.ranges Tryd.prog 29 fdE.rd w.heap.size r c D left gk ∧ ∀ f p, G f = some p → left (kyF f) = false → leadB G c f p = false))
 case atStart =>
   refine ⟨B0, hid R0.out.lt, hid ⟨_, R0.out, fun f p e hl => ?_⟩⟩
   have e1 := (look_atF fdE HO.out f 0).2.1
   rw [e1, ← HLK.out f, e] at hl
   cases hl
 case round =>
   clear R0 B0
   obtain ⟨HB, HS, HI⟩ := hrel
   obtain ⟨left, hrg, hlead⟩ := HI.out
   have HRG := hid hrg
   have HL := hid hlead
   clear HI hrg hlead
   go_wp2_with (at_next; refine next_F fdE _ rfl _ rfl w.heap.size r c D left gk rfl HRG.out ?_ ?_)
   · intro hc0 hl0
     have FIN : Hid (RingP N w (.returned (.bool false)) wr) := hid ⟨false, rfl, ⟨(fun h => by cases h), fun h => by
       obtain ⟨f, p, e1, e2⟩ := RO.out.1 h
       rw [HL.out f p e1 (hl0 f)] at e2
       cases e2⟩, HB1.out.trans (HB.out.mono HB1.out.size)⟩
     go_wp2
     go_ret
     exact FIN.out
   · intro f p w2 cnt1 hf0 hf1 hlf hlD hrg1 hlt hg1 hs1 hen
     rw [show fdE.enc p = .int .u32 p from rfl] at hen ⊢
     rw [← HLK.out f] at hlD
     have hB2 : Below w1.heap.size w1 w2 := HB.out.trans ((grown_ou hg1).below HB.out.size (fun k e => by have := HRr.out; omega))
     have HB2 := hid hB2
     have hp := GB.out f p hlD
     have LC := hid (leadUpTo_c w.heap.size c G w2 (HF.out.out (Ou.of (S := fun _ => False) hB2) (fun e => e)) (by have := HC.out; omega) GB.out f p hp.1 hp.2)
     have HG := hid hlD
     have HRG1 := hid hrg1
     have HS2 : Hid (r < w2.heap.size) := hid (by rw [hs1]; exact HS.out)
     clear hlD hB2 hrg1 hg1 hs1 hp hlf HB HRG HS
     cases hq : leadB G c f p with
     | true =>
       rw [hq] at LC
       have RT : Hid (RingN N) := hid (RO.out.2 ⟨f, p, HG.out, hq⟩)
       clear hq
       go_wp2_with (go_at_call 93; refine LC.out.mono ?_; rintro _ w3 ⟨rfl, hb3⟩)
       go_ret
       exact ⟨true, rfl, ⟨fun _ => RT.out, fun _ => rfl⟩, HB1.out.trans ((HB2.out.trans (hb3.mono HB2.out.size)).mono HB1.out.size)⟩
     | false =>
       rw [hq] at LC
       have HQ := hid hq
       clear hq
       go_wp2_with (go_at_call 93; refine LC.out.mono ?_; rintro _ w3 ⟨rfl, hb3⟩)
       have HB3 := hid (HB2.out.trans (hb3.mono HB2.out.size))
       have HS3 : Hid (r < w3.heap.size) := hid (Nat.lt_of_lt_of_le HS2.out hb3.size)
       have HI3 : Hid (∃ left, w3.ranges Tryd.prog 29 fdE.rd w.heap.size r c D left cnt1 ∧ ∀ f p, G f = some p → left (kyF f) = false → leadB G c f p = false) := hid (by
         refine ⟨_, HRG1.out.kept (below_grown0 hb3) (by simp) (by simp), fun f' p' e hl => ?_⟩
         by_cases q : f' = f
         · subst q
           rw [HG.out] at e
           cases e
           exact HQ.out
         · refine HL.out f' p' e ?_
           simp only [same_kyF, decide_eq_false q, Bool.not_false, Bool.and_true] at hl
           exact hl)
       clear hb3
       go_roundg cnt1
       case measure => exact hlt
       case rel => exact ⟨HB3, HS3, HI3⟩
end Go.Proofs.YtkokjkaclcjnjaaDoor
