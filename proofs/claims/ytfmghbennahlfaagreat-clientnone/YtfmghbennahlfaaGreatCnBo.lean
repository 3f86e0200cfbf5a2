/-
  
-/
import Derived.Test.YtfmghbennahlfaaGreatCnBn
namespace Go.Proofs.YtfmghbennahlfaaGreat
open Go.RowKit Go.ChangeShapes Go.WideShapes Go.ChangeAt
set_option linter.unusedVariables false
set_option linter.unusedSimpArgs false
def IsS (w : World) (v : Value) (ss : List (List UInt8)) : Prop :=
 ∃ a cap, v = .slice a ss.length cap ∧ ss.length ≤ cap ∧ cap ≤ maxLen ∧ (0 < ss.length → ∃ b off, a = some ⟨b, off, none⟩ ∧ ∀ i (h : i < ss.length), w.cell? ⟨b, off + i, none⟩ = some (strV ss[i])) ∧ ∀ p ∈ ss, p.length ≤ maxLen
theorem isS_of_owns {w : World} {base : Nat} {v : Value} {ss : List (List UInt8)} (h : w.ownsRow base 9 1 v ss.length (ss.map strV)) (hl : ∀ p ∈ ss, p.length ≤ maxLen) : IsS w v ss := by
 rcases h.2 with ⟨rfl, hn⟩ | ⟨g, cap, cur, rfl, _, _, hn, hc, _⟩
 · exact ⟨none, 0, by rw [hn], by omega, Nat.zero_le _, fun hp => absurd hp (by omega), hl⟩
 · refine ⟨some ⟨g, 0, none⟩, cap, rfl, hn, hc, fun hp => ⟨g, 0, rfl, fun i hi => ?_⟩, hl⟩
   have h1 := h.cells rfl i (strV ss[i]) (by rw [List.getElem?_map, List.getElem?_eq_getElem hi]; rfl)
   have h2 : (⟨g, 0, none⟩ : Addr).add i = ⟨g, 0 + i, none⟩ := by rcases i with _ | i <;> simp [Addr.add]
   rw [h2] at h1; exact h1
theorem IsS.front {w : World} {a : Option Addr} {n cap : Nat} {ss : List (List UInt8)} (h : IsS w (.slice a n cap) ss) (m : Nat) (hm : m ≤ ss.length) : IsS w (.slice a m cap) (ss.take m) := by
 obtain ⟨a', cap', h1, h2, h3, h4, h5⟩ := h
 cases h1
 have hlen : (ss.take m).length = m := by rw [List.length_take]; omega
 refine ⟨a, cap, by rw [hlen], by omega, h3, fun hp => ?_, fun p hp => h5 p (List.mem_of_mem_take hp)⟩
 obtain ⟨b, off, e, hc⟩ := h4 (by omega)
 exact ⟨b, off, e, fun i hi => by rw [hc i (by omega)]; simp⟩
theorem slash_data (text x : ByteArray) : (text ++ ((⟨#[47]⟩ : ByteArray) ++ x)).data.toList = text.data.toList ++ 47 :: x.data.toList := by
 simp [ByteArray.data_append]
theorem slash_size (text x : ByteArray) : (text ++ ((⟨#[47]⟩ : ByteArray) ++ x)).size = text.size + 1 + x.size := by
 have h := congrArg List.length (slash_data text x)
 have h1 : ∀ y : ByteArray, y.data.toList.length = y.size := fun _ => rfl
 rw [List.length_append, List.length_cons, h1, h1, h1] at h
 omega
def JoinPost (ns : List (List UInt8)) (w : World) (e : Ending) (w' : World) : Prop :=
 ((∃ t, Pa.joinF ns = some t ∧ e = .returned (.tuple #[strV t, .int .i64 0])) ∨ (Pa.joinF ns = none ∧ e = .returned (.tuple #[strV [], .int .i64 3]))) ∧ Below w.heap.size w w'
set_option maxRecDepth 100000 in
set_option maxHeartbeats 2000000 in
theorem join_c (v : Value) (ns : List (List UInt8)) (w : World) (hv : IsS w v ns) :
   Calls Tryz.prog 247 #[v] w (JoinPost ns w) := by
 obtain ⟨a, cap, rfl, hc1, hc2, hcell, hlen⟩ := hv
 unfold maxLen at hc2
 by_cases h0 : ns.length = 0
 · have h9 : ns = [] := List.eq_nil_of_length_eq_zero h0
   subst h9
   have hb0 : ((([] : List (List UInt8)).length : Int) == 0) = true := rfl
   clear hcell hlen h0
   go_enter Tryz.func247, Tryz.ntmps247
   go_wp2
   go_ret2
   exact ⟨.inl ⟨[47], rfl, rfl⟩, Below.refl _ _⟩
 · have hb0 : ((ns.length : Int) == 0) = false := beq_eq_false_iff_ne.2 (by omega)
   have HN : Hid (Pa.joinF ns = Pa.joinG [] ns) := by
     show _ = _
     unfold Pa.joinF; rw [if_neg]
     intro e; rw [e] at h0; exact h0 rfl
   obtain ⟨b, off, rfl, hcl⟩ := hcell (by omega)
   have HC := hid' hcl
   have HLen := hid' hlen
   clear hcl hlen hcell
   go_enter Tryz.func247, Tryz.ntmps247
   go_wp2
   go_loopw [4, 6, 12] (fun t p i wr => ∃ (k : Nat) (text : ByteArray), k ≤ ns.length ∧ i = .int .i64 k ∧ t = .string text ∧ text.size ≤ 120 ∧ Below w.heap.size w wr ∧ Hid (Pa.joinG text.data.toList (ns.drop k) = Pa.joinG [] ns)) (fun _ _ i _ => ((ns.length : Int) - intOf i).toNat)
   case atStart => exact ⟨0, ⟨#[]⟩, by omega, rfl, rfl, Nat.zero_le _, Below.refl _ _, rfl⟩
   case round =>
     obtain ⟨k, text, hk, rfl, rfl, htx, hbw, HS⟩ := hrel
     by_cases hlt : k < ns.length
     · have HAt : Hid _ := Pa.joinG_at text.data.toList ns k hlt
       obtain ⟨x, hx⟩ : ∃ x : ByteArray, x.data.toList = ns[k] := ⟨⟨ns[k].toArray⟩, rfl⟩
       have hcell : wr.cell? ⟨b, off + k, none⟩ = some (.string x) := by
         rw [cell_later hbw (HC.out k hlt), ← hx]; rfl
       have HX := hid' hx
       have hxs : x.size ≤ maxLen := by
         have h1 := HLen.out ns[k] (List.getElem_mem hlt)
         rw [← hx] at h1; exact h1
       clear hx
       cases hD : Pa.nameB x.data.toList with
       | true =>
         have hn := Pa.name_len _ hD
         have hxl : x.data.toList.length = x.size := rfl
         rw [hxl] at hn
         clear hxs
         by_cases hsum : text.size + 1 + x.size ≤ 120
         · have HT : Hid (Pa.joinG (text.data.toList ++ 47 :: ns[k]) (ns.drop (k + 1)) = Pa.joinG [] ns) := by
             have h1 := HAt.out
             rw [if_pos ⟨by rw [← HX.out]; exact hD, by rw [← HX.out]; exact hsum⟩] at h1
             exact h1.symm.trans HS.out
           go_wp2_with (go_at_call 114; refine (name_c _ _ (by unfold maxLen; omega)).mono ?_; rintro e w3 ⟨rfl, hb3⟩; rw [hD])
           go_roundw
           case rel =>
             refine ⟨k + 1, _, by omega, by go_num, rfl, ?_, hbw.trans (hb3.mono hbw.size), ?_⟩
             · have h8 := slash_size text x
               omega
             · show _ = _
               rw [slash_data, HX.out]; exact HT.out
           case measure => simp [intOf]; omega
         · have HE : Hid (Pa.joinF ns = none) := by
             have h1 := HAt.out
             rw [if_neg (by rintro ⟨_, h2⟩; rw [← HX.out] at h2; exact hsum h2)] at h1
             show _ = _
             rw [HN.out, ← HS.out, h1]
           have hg : (120 : Int) < (text.size : Int) + 1 + (x.size : Int) := by omega
           go_wp2_with (go_at_call 114; refine (name_c _ _ (by unfold maxLen; omega)).mono ?_; rintro e w3 ⟨rfl, hb3⟩; rw [hD])
           go_ret2
           exact ⟨.inr ⟨HE.out, rfl⟩, hbw.trans (hb3.mono hbw.size)⟩
       | false =>
         have HE : Hid (Pa.joinF ns = none) := by
           have h1 := HAt.out
           rw [if_neg (by rw [← HX.out, hD]; simp)] at h1
           show _ = _
           rw [HN.out, ← HS.out, h1]
         go_wp2_with (go_at_call 114; refine (name_c _ _ hxs).mono ?_; rintro e w3 ⟨rfl, hb3⟩; rw [hD])
         go_ret2
         exact ⟨.inr ⟨HE.out, rfl⟩, hbw.trans (hb3.mono hbw.size)⟩
     · have HE : Hid (Pa.joinF ns = some text.data.toList) := by
         show _ = _
         rw [HN.out, ← HS.out, List.drop_of_length_le (by omega)]; rfl
       go_wp2
       go_ret2
       exact ⟨.inl ⟨_, HE.out, by rw [strV_self]; rfl⟩, hbw⟩
theorem names_short {l : List UInt8} {ns : List (List UInt8)} (h : Pa.splitF l = some ns) : ∀ p ∈ ns, p.length ≤ maxLen := fun p hp => by
 have := Pa.name_len p (Pa.split_names h p hp)
 unfold maxLen; omega
def TextPost (r : Option (List UInt8)) (w : World) (e : Ending) (w' : World) : Prop :=
 ((∃ t, r = some t ∧ e = .returned (.tuple #[strV t, .int .i64 0])) ∨ (r = none ∧ e = .returned (.tuple #[strV [], .int .i64 3]))) ∧ Below w.heap.size w w'
def SomePost (l : List UInt8) (w : World) (e : Ending) (w' : World) : Prop :=
 ((∃ ns v, Pa.someF l = some ns ∧ ns ≠ [] ∧ Pa.splitF l = some ns ∧ e = .returned (.tuple #[v, .int .i64 0]) ∧ IsS w' v ns) ∨ (Pa.someF l = none ∧ e = .returned (.tuple #[.slice none 0 0, .int .i64 3]))) ∧ Below w.heap.size w w'
set_option maxHeartbeats 400000 in
theorem someNames_c (s : ByteArray) (w : World) (hs : s.size ≤ maxLen) :
   Calls Tryz.prog 246 #[.string s] w (SomePost s.data.toList w) := by
 go_enter Tryz.func246, Tryz.ntmps246
 go_wp2_with fail
 refine (split_c s w hs).mono ?_
 rintro e w1 ⟨⟨ns, v, hsp, rfl, hown⟩ | ⟨hsp, rfl⟩, hb1⟩
 · have HI := isS_of_owns hown (names_short hsp)
   have HS := hid' hsp
   clear hsp hown
   obtain ⟨a, cap, hv, r1, r2, r3⟩ := HI
   have HI : Hid (IsS w1 v ns) := ⟨a, cap, hv, r1, r2, r3⟩
   subst hv
   clear r2 r3
   by_cases h0 : ns.length = 0
   · have h9 : ns = [] := List.eq_nil_of_length_eq_zero h0
     subst h9
     have hb0 : ((([] : List (List UInt8)).length : Int) == 0) = true := rfl
     clear h0
     go_wp2
     go_ret2
     exact ⟨.inr ⟨by unfold Pa.someF; rw [HS.out]; rfl, rfl⟩, hb1⟩
   · have hb0 : ((ns.length : Int) == 0) = false := beq_eq_false_iff_ne.2 (by omega)
     have hne : ns ≠ [] := fun e => h0 (by rw [e]; rfl)
     have HN := hid' hne
     clear hne h0
     go_wp2
     go_ret2
     exact ⟨.inl ⟨ns, _, by unfold Pa.someF; rw [HS.out]; exact if_neg HN.out, HN.out, HS.out, rfl, HI.out⟩, hb1⟩
 · have HS := hid' hsp
   clear hsp
   go_wp2
   go_ret2
   exact ⟨.inr ⟨by unfold Pa.someF; rw [HS.out]; rfl, rfl⟩, hb1⟩
set_option maxHeartbeats 400000 in
theorem dir_c (s : ByteArray) (w : World) (hs : s.size ≤ maxLen) :
   Calls Tryz.prog 196 #[.string s] w (TextPost (Pa.dirF s.data.toList) w) := by
 go_enter Tryz.func196, Tryz.ntmps196
 go_wp2_with fail
 refine (someNames_c s w hs).mono ?_
 rintro e w1 ⟨⟨ns, v, hsp, hne, hsp2, rfl, hI⟩ | ⟨hsp, rfl⟩, hb1⟩
 · have HS := hid' hsp
   have hl : 1 ≤ ns.length := by
     cases ns with
     | nil => exact absurd rfl hne
     | cons c r => simp
   have hIc := hI
   obtain ⟨a, cap, rfl, r1, r2, r3, r4⟩ := hIc
   obtain ⟨b, off, rfl, -⟩ := r3 (by omega)
   have HI := hid' (hI.front (ns.length - 1) (by omega))
   unfold maxLen at r2
   clear hsp hsp2 hne hI r3 r4
   go_wp2_with fail
   refine (join_c _ (ns.take (ns.length - 1)) _ HI.out).mono ?_
   rintro e w2 ⟨⟨t, hj, rfl⟩ | ⟨hj, rfl⟩, hb2⟩
   · have HJ := hid' hj
     clear hj
     go_wp2
     go_ret2
     exact ⟨.inl ⟨t, by unfold Pa.dirF; rw [HS.out]; show Pa.joinF ns.dropLast = _; rw [List.dropLast_eq_take]; exact HJ.out, rfl⟩, hb1.trans (hb2.mono hb1.size)⟩
   · have HJ := hid' hj
     clear hj
     go_wp2
     go_ret2
     exact ⟨.inr ⟨by unfold Pa.dirF; rw [HS.out]; show Pa.joinF ns.dropLast = _; rw [List.dropLast_eq_take]; exact HJ.out, rfl⟩, hb1.trans (hb2.mono hb1.size)⟩
 · have HS := hid' hsp
   clear hsp
   go_wp2
   go_ret2
   exact ⟨.inr ⟨by unfold Pa.dirF; rw [HS.out]; rfl, rfl⟩, hb1⟩
set_option maxHeartbeats 400000 in
theorem base_c (s : ByteArray) (w : World) (hs : s.size ≤ maxLen) :
   Calls Tryz.prog 197 #[.string s] w (TextPost (Pa.baseF s.data.toList) w) := by
 go_enter Tryz.func197, Tryz.ntmps197
 go_wp2_with fail
 refine (someNames_c s w hs).mono ?_
 rintro e w1 ⟨⟨ns, v, hsp, hne, hsp2, rfl, hI⟩ | ⟨hsp, rfl⟩, hb1⟩
 · have HS := hid' hsp
   have hl : 1 ≤ ns.length := by
     cases ns with
     | nil => exact absurd rfl hne
     | cons c r => simp
   have hIc := hI
   obtain ⟨a, cap, rfl, r1, r2, r3, r4⟩ := hIc
   obtain ⟨b, off, rfl, hc⟩ := r3 (by omega)
   have hcell := hc (ns.length - 1) (by omega)
   have HG : Hid (Pa.baseF s.data.toList = some (ns[ns.length - 1]'(by omega))) := by
     show _ = _
     unfold Pa.baseF; rw [HS.out]; show ns.getLast? = _
     rw [List.getLast?_eq_getElem?, List.getElem?_eq_getElem]
   generalize hlast : ns[ns.length - 1]'(by omega) = last at *
   have HH := hid' hlast
   unfold maxLen at r2
   unfold strV at hcell
   clear hsp hsp2 hne hI r3 r4 hc hlast
   go_wp2
   go_ret2
   exact ⟨.inl ⟨last, HG.out, rfl⟩, hb1⟩
 · have HS := hid' hsp
   clear hsp
   go_wp2
   go_ret2
   exact ⟨.inr ⟨by unfold Pa.baseF; rw [HS.out]; rfl, rfl⟩, hb1⟩
theorem text_yes {e : Ending} {w w' : World} {r : Option (List UInt8)} {t : List UInt8} (h : r = some t) (hp : TextPost r w e w') : e = .returned (.tuple #[.string ⟨t.toArray⟩, .int .i64 0]) ∧ Below w.heap.size w w' := by
 obtain ⟨hp, hb⟩ := hp
 rcases hp with ⟨t', h', rfl⟩ | ⟨h', rfl⟩
 · rw [h] at h'; cases h'
   exact ⟨rfl, hb⟩
 · rw [h] at h'; cases h'
end Go.Proofs.YtfmghbennahlfaaGreat
