/-
  readLine of the package tell.
-/
import Derived.Test.YtkokjkaclcjnjaaDoorRdBn
import Derived.Test.YtkokjkaclcjnjaaDoorRdBo
namespace Go.Proofs.YtkokjkaclcjnjaaDoor
open Go.RowKit Go.ChangeShapes Go.WideShapes Go.ChangeAt
set_option linter.unusedVariables false
set_option linter.unusedSimpArgs false
set_option maxRecDepth 100000
def NdB (w : World) (base : Nat) (x : Nd) : Prop := x.In ∧ (x.zs.length ≤ 10000000 ∧ x.ks.length ≤ 10000000 ∧ ∀ q ∈ x.ks, q.nm.size ≤ 10000000) ∧ x.Nil ∧ RowAt w base 5 x.da (x.zs.map u8V) ∧ RowAt w base 71 x.ka (kcells x.ks)
theorem NdB.later {w w' : World} {base : Nat} {x : Nd} (h : NdB w base x) (hb : Below w.heap.size w w') : NdB w' base x := ⟨h.1, h.2.1, h.2.2.1, h.2.2.2.1.later hb, h.2.2.2.2.later hb⟩
theorem NdB.low {w : World} {base b : Nat} {x : Nd} (h : NdB w base x) (hb : b ≤ base) : NdB w b x := ⟨h.1, h.2.1, h.2.2.1, h.2.2.2.1.lowR hb, h.2.2.2.2.lowR hb⟩
theorem NdB.grown {w w' : World} {base b : Nat} {x : Nd} {v : Value} {L : List Nd} (h : NdB w base x) (hown : OwN w b v L) (hg : w.grownBy w' v.ownBlock) : NdB w' base x :=
 ⟨h.1, h.2.1, h.2.2.1, h.2.2.2.1.grown hown (by decide) hg, h.2.2.2.2.grown hown (by decide) hg⟩
theorem In.inB {x : Nd} (h : x.In) : InB x.zs := fun i => by
 by_cases hi : i < x.zs.length
 · rw [List.getD, List.getElem?_eq_getElem hi]
   exact h.2.2.2.2.1 _ (List.getElem_mem hi)
 · rw [List.getD, List.getElem?_eq_none (by omega)]
   exact ⟨by decide, by decide⟩
theorem NdB.ok {w : World} {base : Nat} {x : Nd} (h : NdB w base x) : x.Ok w := by
 obtain ⟨hI, ⟨z1, z2, z3⟩, _, hd, hk⟩ := h
 obtain ⟨h1, h2, h3, h4, h5, h6⟩ := id hI
 refine ⟨h1, h2, h3, h4, ⟨rfl, by unfold maxLen; omega, fun hp => ?_, In.inB hI⟩, ⟨by unfold maxLen; omega, fun q hq => ⟨by have := z3 q hq; unfold maxLen; omega, h6 q hq⟩, fun hp => ?_⟩⟩
 · rcases hd with hd | ⟨g, cs, fr, e1, e2, e3, e4⟩
   · have := congrArg List.length hd
     simp at this
     rw [this] at hp
     exact absurd hp (by simp)
   · refine ⟨g, 0, e1, fun i hi => ?_⟩
     rw [cell_of_row w g _ _ _ fr e3]
     refine e4 (0 + i) _ ?_
     simp [List.getElem?_map, List.getD, hi, u8V]
 · rcases hk with hk | ⟨g, cs, fr, e1, e2, e3, e4⟩
   · have := congrArg List.length hk
     rw [kcells_len] at this
     simp only [List.length_nil] at this
     omega
   · refine ⟨g, 0, e1, fun i hi => ?_⟩
     have key : ∀ j, j < 2 → ∀ u, (x.ks.getD i Kd.no).cells[j]? = some u → w.cell? ⟨g, 0 + i * 2 + j, none⟩ = some u := fun j hj u hu => by
       rw [cell_of_row w g _ _ _ fr e3]
       refine e4 (0 + i * 2 + j) _ ?_
       rw [Nat.zero_add, kcells_get x.ks i j hi hj]
       exact hu
     exact ⟨key 0 (by omega) _ rfl, key 1 (by omega) _ rfl⟩
theorem join_mem {c : UInt8} {a : List UInt8} : ∀ {l : List (List UInt8)}, a ∈ l → a.length ≤ (joinL c l).length
 | [], h => by cases h
 | [b], h => by rw [List.mem_singleton.1 h]; exact Nat.le_refl _
 | b :: d :: t, h => by
   rw [joinL, List.length_append, List.length_cons]
   rcases List.mem_cons.1 h with e | e
   · rw [e]; omega
   · have := join_mem (c := c) e
     omega
theorem inP_small {k : Int} {e : List UInt8} {i : List UInt8 × List Kd} (h : inP k e = some i) : i.1.length ≤ e.length ∧ i.2.length ≤ 12 ∧ ∀ q ∈ i.2, q.nm.size ≤ e.length := by
 unfold inP at h
 split at h
 · cases hp : kidsP e with
   | none => rw [hp] at h; cases h
   | some l =>
     rw [hp] at h
     cases h
     obtain ⟨h1, h2, h3⟩ := kidsP_back hp
     refine ⟨Nat.zero_le _, h2, fun q hq => ?_⟩
     have hne : l ≠ [] := fun e => by rw [e] at hq; cases hq
     unfold kidsT at h1
     rw [if_neg hne] at h1
     have := join_mem (c := 44) (List.mem_map.2 ⟨q, hq, rfl⟩ : (kidT q).data.toList ∈ l.map fun k => (kidT k).data.toList)
     rw [h1, kid_text, List.length_append] at this
     have e1 : q.nm.data.toList.length = q.nm.size := rfl
     omega
 · cases hp : unqL e with
   | none => rw [hp] at h; cases h
   | some o =>
     rw [hp] at h
     cases h
     have h1 := congrArg List.length (unq_back hp)
     have h2 := (quote_len o).1
     exact ⟨by show o.length ≤ _; omega, Nat.zero_le _, fun q hq => by cases hq⟩
theorem InP.any {r : Option (List UInt8 × List Kd)} {w w' : World} {e : Ending} (h : InP r w e w') : ∃ a n c b m d, e = .returned (.tuple #[.slice a n c, .slice b m d, .bool r.isSome]) ∧ (∀ i, r = some i → n = (Fr.bs ⟨i.1.toArray⟩).length ∧ m = i.2.length ∧ (a = none → c = 0) ∧ (b = none → d = 0) ∧ RowAt w' w.heap.size 5 a ((Fr.bs ⟨i.1.toArray⟩).map u8V) ∧ RowAt w' w.heap.size 71 b (kcells i.2)) ∧ Below w.heap.size w w' := by
 obtain ⟨h1, h2⟩ := h
 cases r with
 | none => exact ⟨none, 0, 0, none, 0, 0, h1, (fun i hi => by cases hi), h2⟩
 | some i =>
   obtain ⟨a, n, c, b, m, d, rfl, q⟩ := h1
   exact ⟨a, n, c, b, m, d, rfl, (fun j hj => by cases hj; exact q), h2⟩
theorem partP_fail {a b c d e : List UInt8} (h : (readD 4294967295 a).isSome = false ∨ (kindP b != 0) = false ∨ (readD 65535 c).isSome = false ∨ (readD 65535 d).isSome = false ∨ (inP (kindP b) e).isSome = false) : partP a b c d e = none := by
 unfold partP
 cases e1 : readD 4294967295 a with
 | none => rfl
 | some f =>
   cases e2 : readD 65535 c with
   | none => rfl
   | some m =>
     cases e3 : readD 65535 d with
     | none => rfl
     | some n =>
       cases e4 : inP (kindP b) e with
       | none => rfl
       | some i =>
         rw [e1, e2, e3, e4] at h
         simp only [Option.isSome_some, reduceCtorEq, Bool.true_eq_false, false_or, or_false] at h
         simp only
         rw [if_pos (by simpa using h)]
def LiP (r : Option Nd) (w : World) (e : Ending) (w' : World) : Prop := (match r with
 | none => e = .returned (.tuple #[Nd.no.val, .bool false])
 | some x => ∃ y : Nd, e = .returned (.tuple #[y.val, .bool true]) ∧ y.er = x ∧ NdB w' w.heap.size y) ∧ Below w.heap.size w w'
theorem LiP.no {r : Option Nd} {w w' : World} (h : r = none) (hb : Below w.heap.size w w') : LiP r w (.returned (.tuple #[Nd.no.val, .bool false])) w' := ⟨by rw [h], hb⟩
theorem NdB.setLow {w : World} {base : Nat} {x : Nd} (h : NdB w base x) {g o : Nat} {v : Value} (hg : g < base) : NdB (w.setCell ⟨g, o, none⟩ v) base x := ⟨h.1, h.2.1, h.2.2.1, h.2.2.2.1.setLow hg, h.2.2.2.2.setLow hg⟩
theorem five {l : List (List UInt8)} (h : l.length = 5) : ∃ a b c d e, l = [a, b, c, d, e] := by
 match l, h with
 | [a, b, c, d, e], _ => exact ⟨a, b, c, d, e, rfl⟩
theorem lineP_len {l : List UInt8} (h : (splN 32 4 l).length ≠ 5) : lineP l = none := by
 unfold lineP
 split
 · rename_i e; rw [e] at h; exact absurd rfl h
 · rfl
theorem pt_cells {w : World} {g n : Nat} {a b c d e : List UInt8} (h : PtW w g n [a, b, c, d, e]) : w.cell? ⟨g, 0, none⟩ = some (.string (tB a)) ∧ w.cell? ⟨g, 1, none⟩ = some (.string (tB b)) ∧ w.cell? ⟨g, 2, none⟩ = some (.string (tB c)) ∧ w.cell? ⟨g, 3, none⟩ = some (.string (tB d)) ∧ w.cell? ⟨g, 4, none⟩ = some (.string (tB e)) :=
 ⟨h.2 0 a rfl, h.2 1 b rfl, h.2 2 c rfl, h.2 3 d rfl, h.2 4 e rfl⟩
theorem five_key {o1 o2 o3 o4 o5 : Bool} (good : ¬ (o1 = true ∧ o2 = true ∧ o3 = true ∧ o4 = true ∧ o5 = true)) : o1 = false ∨ (o1 = true ∧ o2 = false) ∨ (o1 = true ∧ o2 = true ∧ o3 = false) ∨ (o1 = true ∧ o2 = true ∧ o3 = true ∧ o4 = false) ∨ (o1 = true ∧ o2 = true ∧ o3 = true ∧ o4 = true ∧ o5 = false) := by
 revert good
 cases o1 <;> cases o2 <;> cases o3 <;> cases o4 <;> cases o5 <;> simp
set_option maxHeartbeats 8000000 in
theorem readLine_c (s : ByteArray) (w : World) (hs : s.size ≤ 10000000) (hm : MxW w) :
   Calls Tryd.prog 44 #[.string s] w (LiP (lineP s.data.toList) w) := by
 have b0 := below_1 w (.cells Nd.no.cells.toArray 35)
 have h0 := heap_alloc_new w (.cells Nd.no.cells.toArray 35)
 have hsz : w.heap.size < (w.alloc (.cells Nd.no.cells.toArray 35)).heap.size := lt_blkR h0
 have hmV := hm.later b0
 have SC := hid (splN5_c s (w.alloc (.cells Nd.no.cells.toArray 35)) (by omega) hmV)
 obtain ⟨R, hR⟩ : ∃ R, R = lineP s.data.toList := ⟨_, rfl⟩
 rw [← hR]
 have H0 := hid h0
 have B0 := hid b0
 have HM := hid hmV
 clear h0 b0 hm hmV
 by_cases q5 : (splN 32 4 s.data.toList).length = 5
 · obtain ⟨a, b, c, d, e, hP⟩ := five q5
   have hRP : R = partP a b c d e := by rw [hR]; unfold lineP; rw [hP]
   have hel : e.length ≤ 10000000 := by
     have h1 := join_mem (c := 32) (a := e) (l := [a, b, c, d, e]) (by simp)
     have h2 := join_spl 32 4 s.data.toList
     rw [hP] at h2
     rw [h2] at h1
     have h3 : s.data.toList.length = s.size := rfl
     omega
   have hal : ∀ x ∈ [a, b, c, d, e], x.length ≤ 10000000 := fun x hx => by
     have h1 := join_mem (c := 32) hx
     have h2 := join_spl 32 4 s.data.toList
     rw [hP] at h2
     rw [h2] at h1
     have h3 : s.data.toList.length = s.size := rfl
     omega
   rw [hP] at SC
   clear hR q5 hP
   have D1 := hid (fun W => readD_c (tB a) 4294967295 (by omega) W (by rw [tB_size]; have := hal a (by simp); unfold maxLen; omega))
   have D2 := hid (fun W => readD_c (tB c) 65535 (by omega) W (by rw [tB_size]; have := hal c (by simp); unfold maxLen; omega))
   have D3 := hid (fun W => readD_c (tB d) 65535 (by omega) W (by rw [tB_size]; have := hal d (by simp); unfold maxLen; omega))
   have KC := hid (fun W => kindOf_c (tB b) W)
   have IC := hid (fun W (hW : MxW W) => readInside_c (kindP b) (tB e) W (by rw [tB_size]; exact hel) hW)
   rw [tB_data] at D1 D2 D3 KC IC
   have FAIL := hid (fun h => hRP.trans (partP_fail (a := a) (b := b) (c := c) (d := d) (e := e) h))
   have GOOD := hid (fun f m n i h1 h2 h3 h4 h5 => hRP.trans (partP_some (a := a) (b := b) (c := c) (d := d) (e := e) (f := f) (m := m) (n := n) (i := i) h1 h2 h3 h4 h5))
   have BACK := hid (fun x (h : R = some x) => partP_back (hRP.symm.trans h))
   have SMALL := hid (fun i (h : inP (kindP b) e = some i) => inP_small h)
   have m1 := hid (fun n h => (read_back (most := 65535) (n := n) (s := c) h).2)
   have m2 := hid (fun n h => (read_back (most := 65535) (n := n) (s := d) h).2)
   unfold RdD at D1 D2 D3
   clear hRP hal
   generalize readD 4294967295 a = r1 at *
   generalize readD 65535 c = r2 at *
   generalize readD 65535 d = r3 at *
   generalize inP (kindP b) e = r5 at *
   generalize kindP b = k at *
   have IC2 := hid (fun W hW => (IC.out W hW).mono (fun _ _ h => h.any))
   clear IC
   simp only [List.length_cons, List.length_nil, Nat.zero_add, Nat.reduceAdd] at SC
   by_cases good : r1.isSome = true ∧ (k != 0) = true ∧ r2.isSome = true ∧ r3.isSome = true ∧ r5.isSome = true
   · obtain ⟨g1, g2, g3, g4, g5⟩ := good
     obtain ⟨f, rfl⟩ := Option.isSome_iff_exists.1 g1
     obtain ⟨m, rfl⟩ := Option.isSome_iff_exists.1 g3
     obtain ⟨n, rfl⟩ := Option.isSome_iff_exists.1 g4
     obtain ⟨i, rfl⟩ := Option.isSome_iff_exists.1 g5
     have GD := hid (GOOD.out f m n i rfl rfl rfl rfl (by rw [bne_iff_ne] at g2; exact g2))
     have BK := hid (BACK.out _ GD.out)
     have SM := hid (SMALL.out i rfl)
     have hm1 := m1.out m rfl
     have hm2 := m2.out n rfl
     have wm : IntKind.u16.wrap (m : Int) = m := by rw [IntKind.wrap_u16]; omega
     have wn : IntKind.u16.wrap (n : Int) = n := by rw [IntKind.wrap_u16]; omega
     clear FAIL GOOD BACK SMALL m1 m2 g1 g3 g4 g5
     simp only [Option.getD_some, Option.isSome_some] at D1 D2 D3 IC2
     rw [g2] at KC
     clear g2
     go_enter Tryd.func44, Tryd.ntmps44
     go_upto_region 1 with fail
     change Code.wp _ _ _ _ (w.alloc (.cells Nd.no.cells.toArray 35))
     generalize (w.alloc (.cells Nd.no.cells.toArray 35)) = V at *
     go_wp2_with (first
       | (go_at_call 75; refine (IC2.out _ (HM.out.later C4.out)).mono ?_; rintro _ w5 ⟨a5, n5, c5, b5, m5, d5, rfl, hi5, hb5⟩; have I5 := hid hi5; have C5 := hid (C4.out.trans (hb5.mono C4.out.size)); have h3 := (C5.out.block _ hsz).trans H0.out; have fz : ∀ i, w5.frozen? ⟨w.heap.size, i, none⟩ = false := (fun i => by simp [World.frozen?, h3]); obtain ⟨y0, y1, y2, y3, y4, y5⟩ := nd_cells h3; simp only [Nd.no, List.length_nil] at y0 y1 y2 y3 y4 y5; clear hb5 hi5 h3)
       | (have _q := T3.out; clear _q T3; go_at_call 73; refine (D3.out _).mono ?_; rintro _ w4 ⟨rfl, hb4⟩; have C4 := hid (C3.out.trans (hb4.mono C3.out.size)); have P4 := hid (P3.out.later hb4); obtain ⟨p0, p1, p2, p3, p4⟩ := pt_cells P4.out; clear hb4)
       | (have _q := T2.out; clear _q T2; go_at_call 73; refine (D2.out _).mono ?_; rintro _ w3 ⟨rfl, hb3⟩; have C3 := hid (C2.out.trans (hb3.mono C2.out.size)); have P3 := hid (P2.out.later hb3); obtain ⟨p0, p1, p2, p3, p4⟩ := pt_cells P3.out; have T3 := hid True.intro; clear hb3)
       | (go_at_call 74; refine (KC.out _).mono ?_; rintro _ wk ⟨rfl, rfl⟩; have T2 := hid True.intro)
       | (have _q := T1.out; clear _q T1; go_at_call 73; refine (D1.out _).mono ?_; rintro _ w2 ⟨rfl, hb2⟩; have C2 := hid (C1.out.trans (hb2.mono C1.out.size)); have P2 := hid (P1.out.later hb2); obtain ⟨p0, p1, p2, p3, p4⟩ := pt_cells P2.out; clear hb2)
       | (go_at_call 72; refine SC.out.mono ?_; rintro _ w1 ⟨N1, rfl, hp1, hb1⟩; have C1 := hid hb1; have P1 := hid hp1; obtain ⟨p0, p1, p2, p3, p4⟩ := pt_cells P1.out; have T1 := hid True.intro; clear hb1 hp1))
     have hI := I5.out i rfl
     obtain ⟨rfl, rfl, hna, hnb, hra, hrb⟩ := hI
     have hs1 : w.heap.size < V.heap.size := hsz
     have B9 : Below w.heap.size w w5 := B0.out.trans (C5.out.mono B0.out.size)
     have hlo : w.heap.size ≤ w4.heap.size := Nat.le_trans B0.out.size C4.out.size
     have hlt : w.heap.size < w4.heap.size := Nat.lt_of_lt_of_le hsz C4.out.size
     have N5 : NdB w5 w4.heap.size ⟨(f : Int), k, (m : Int), (n : Int), a5, c5, Fr.bs ⟨i.1.toArray⟩, b5, d5, i.2⟩ := by
       obtain ⟨q1, q2, q3⟩ := SM.out
       obtain ⟨_, hin, _⟩ := BK.out
       exact ⟨hin, ⟨by rw [bs_len, ba_size]; omega, by show i.2.length ≤ _; omega, fun q hq => by have := q3 q hq; omega⟩, ⟨hna, hnb⟩, hra, hrb⟩
     refine bodyPost_ret (v := .tuple #[(⟨(f : Int), k, (m : Int), (n : Int), a5, c5, Fr.bs ⟨i.1.toArray⟩, b5, d5, i.2⟩ : Nd).val, .bool true]) (by simp [results, Tryd.results44, go_sem, Nd.val, y0, y1, y2, y3, y4, y5]) rfl ⟨?_, ?_⟩
     · rw [GD.out]
       exact ⟨_, rfl, rfl, ((((((N5.setLow hlt).setLow hlt).setLow hlt).setLow hlt).setLow hlt).setLow hlt).low hlo⟩
     · exact (((((B9.setCell (p := ⟨w.heap.size, 0, none⟩) (Nat.le_refl _) _).setCell (p := ⟨w.heap.size, 1, none⟩) (Nat.le_refl _) _).setCell (p := ⟨w.heap.size, 2, none⟩) (Nat.le_refl _) _).setCell (p := ⟨w.heap.size, 3, none⟩) (Nat.le_refl _) _).setCell (p := ⟨w.heap.size, 4, none⟩) (Nat.le_refl _) _).setCell (p := ⟨w.heap.size, 5, none⟩) (Nat.le_refl _) _
   · have N : Hid (R = none) := hid (FAIL.out (by
       cases q1 : r1.isSome with
       | false => exact .inl rfl
       | true =>
         cases q2 : (k != 0) with
         | false => exact .inr (.inl rfl)
         | true =>
           cases q3 : r2.isSome with
           | false => exact .inr (.inr (.inl rfl))
           | true =>
             cases q4 : r3.isSome with
             | false => exact .inr (.inr (.inr (.inl rfl)))
             | true =>
               cases q5 : r5.isSome with
               | false => exact .inr (.inr (.inr (.inr rfl)))
               | true => exact absurd ⟨q1, q2, q3, q4, q5⟩ good))
     clear FAIL GOOD BACK SMALL m1 m2
     generalize r1.isSome = o1 at *
     generalize r2.isSome = o3 at *
     generalize r3.isSome = o4 at *
     generalize r5.isSome = o5 at *
     generalize ho2 : (k != 0) = o2 at *
     generalize ((r1.getD 0 : Nat) : Int) = f1 at *
     generalize ((r2.getD 0 : Nat) : Int) = f2 at *
     generalize ((r3.getD 0 : Nat) : Int) = f3 at *
     have key := five_key good
     clear good ho2
     rcases key with rfl | ⟨rfl, rfl⟩ | ⟨rfl, rfl, rfl⟩ | ⟨rfl, rfl, rfl, rfl⟩ | ⟨rfl, rfl, rfl, rfl, rfl⟩
     all_goals
       go_enter Tryd.func44, Tryd.ntmps44
       go_upto_region 1 with fail
       change Code.wp _ _ _ _ (w.alloc (.cells Nd.no.cells.toArray 35))
       generalize (w.alloc (.cells Nd.no.cells.toArray 35)) = V at *
       go_wp2_with (first
         | (go_at_call 75; refine (IC2.out _ (HM.out.later C4.out)).mono ?_; rintro _ w5 ⟨a5, n5, c5, b5, m5, d5, rfl, hi5, hb5⟩; have I5 := hid hi5; have C5 := hid (C4.out.trans (hb5.mono C4.out.size)); have h3 := (C5.out.block _ hsz).trans H0.out; have fz : ∀ i, w5.frozen? ⟨w.heap.size, i, none⟩ = false := (fun i => by simp [World.frozen?, h3]); obtain ⟨y0, y1, y2, y3, y4, y5⟩ := nd_cells h3; simp only [Nd.no, List.length_nil] at y0 y1 y2 y3 y4 y5; clear hb5 hi5 h3)
         | (have _q := T3.out; clear _q T3; go_at_call 73; refine (D3.out _).mono ?_; rintro _ w4 ⟨rfl, hb4⟩; have C4 := hid (C3.out.trans (hb4.mono C3.out.size)); have P4 := hid (P3.out.later hb4); obtain ⟨p0, p1, p2, p3, p4⟩ := pt_cells P4.out; clear hb4)
         | (have _q := T2.out; clear _q T2; go_at_call 73; refine (D2.out _).mono ?_; rintro _ w3 ⟨rfl, hb3⟩; have C3 := hid (C2.out.trans (hb3.mono C2.out.size)); have P3 := hid (P2.out.later hb3); obtain ⟨p0, p1, p2, p3, p4⟩ := pt_cells P3.out; have T3 := hid True.intro; clear hb3)
         | (go_at_call 74; refine (KC.out _).mono ?_; rintro _ wk ⟨rfl, rfl⟩; have T2 := hid True.intro)
         | (have _q := T1.out; clear _q T1; go_at_call 73; refine (D1.out _).mono ?_; rintro _ w2 ⟨rfl, hb2⟩; have C2 := hid (C1.out.trans (hb2.mono C1.out.size)); have P2 := hid (P1.out.later hb2); obtain ⟨p0, p1, p2, p3, p4⟩ := pt_cells P2.out; clear hb2)
         | (go_at_call 72; refine SC.out.mono ?_; rintro _ w1 ⟨N1, rfl, hp1, hb1⟩; have C1 := hid hb1; have P1 := hid hp1; obtain ⟨p0, p1, p2, p3, p4⟩ := pt_cells P1.out; have T1 := hid True.intro; clear hb1 hp1))
       have B9 : Below w.heap.size w w5 := B0.out.trans (C5.out.mono B0.out.size)
       refine bodyPost_ret (v := .tuple #[Nd.no.val, .bool false]) (by simp [results, Tryd.results44, go_sem, Nd.val, Nd.no, y0, y1, y2, y3, y4, y5]) rfl (LiP.no N.out ?_)
       exact (((((B9.setCell (p := ⟨w.heap.size, 0, none⟩) (Nat.le_refl _) _).setCell (p := ⟨w.heap.size, 1, none⟩) (Nat.le_refl _) _).setCell (p := ⟨w.heap.size, 2, none⟩) (Nat.le_refl _) _).setCell (p := ⟨w.heap.size, 3, none⟩) (Nat.le_refl _) _).setCell (p := ⟨w.heap.size, 4, none⟩) (Nat.le_refl _) _).setCell (p := ⟨w.heap.size, 5, none⟩) (Nat.le_refl _) _
 · have N : Hid (R = none) := hid (by rw [hR]; exact lineP_len q5)
   have q5I : (((splN 32 4 s.data.toList).length : Int) == 5) = false := by rw [beq_eq_false_iff_ne]; omega
   clear hR q5
   generalize splN 32 4 s.data.toList = P at *
   generalize P.length = n5 at *
   go_enter Tryd.func44, Tryd.ntmps44
   go_upto_region 1 with fail
   change Code.wp _ _ _ _ (w.alloc (.cells Nd.no.cells.toArray 35))
   generalize (w.alloc (.cells Nd.no.cells.toArray 35)) = V at *
   go_wp2_with (go_at_call 72; refine SC.out.mono ?_; rintro _ w1 ⟨N1, rfl, _, hb1⟩; have B1 := hid hb1; have h3 := (B1.out.block _ hsz).trans H0.out; have fz : ∀ i, w1.frozen? ⟨w.heap.size, i, none⟩ = false := (fun i => by simp [World.frozen?, h3]); obtain ⟨y0, y1, y2, y3, y4, y5⟩ := nd_cells h3; simp only [Nd.no, List.length_nil] at y0 y1 y2 y3 y4 y5; clear hb1 h3)
   have B3 : Below w.heap.size w w1 := B0.out.trans (B1.out.mono B0.out.size)
   refine bodyPost_ret (v := .tuple #[Nd.no.val, .bool false]) (by simp [results, Tryd.results44, go_sem, Nd.val, Nd.no, y0, y1, y2, y3, y4, y5]) rfl (LiP.no N.out ?_)
   exact (((((B3.setCell (p := ⟨w.heap.size, 0, none⟩) (Nat.le_refl _) _).setCell (p := ⟨w.heap.size, 1, none⟩) (Nat.le_refl _) _).setCell (p := ⟨w.heap.size, 2, none⟩) (Nat.le_refl _) _).setCell (p := ⟨w.heap.size, 3, none⟩) (Nat.le_refl _) _).setCell (p := ⟨w.heap.size, 4, none⟩) (Nat.le_refl _) _).setCell (p := ⟨w.heap.size, 5, none⟩) (Nat.le_refl _) _
end Go.Proofs.YtkokjkaclcjnjaaDoor
