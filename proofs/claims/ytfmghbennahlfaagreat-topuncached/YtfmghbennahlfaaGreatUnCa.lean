/-
  What Walk of a cache answers.
  Hoard of the root, of a linked client.
  What is not at hand is not to be had without a link, and what is dear is: both ways.
-/
import Derived.Test.YtfmghbennahlfaaGreatUnBz
import Derived.Maps.RangeWalk
import Derived.Deep.AppendLies
import Derived.Test.YtfmghbennahlfaaGreatUnBy
import Derived.Test.YtfmghbennahlfaaGreatUnBx
namespace Go.Proofs.YtfmghbennahlfaaGreat
open Go.RowKit Go.ChangeShapes Go.WideShapes Go.ChangeAt Go.Maps Go.Shelf
set_option linter.unusedVariables false
set_option linter.unusedSimpArgs false
set_option maxRecDepth 100000
def WalkL (c : Ca) (ss : List Int) : Prop := ss.Pairwise (fun a b => c.rank a < c.rank b) ∧ ∀ x, x ∈ ss ↔ ((c.d x).isSome = true ∧ c.has x = false)
def RdF (w : World) (base : Nat) (v : Value) (us : List Int) : Prop :=
 ∃ a cap, v = .slice a us.length cap ∧ us.length ≤ cap ∧ (0 < us.length → ∃ g off cur, a = some ⟨g, off, none⟩ ∧ base ≤ g ∧ w.heap[g]? = some (.cells cur 35 (0, 0)) ∧ ∀ j, j < us.length → cur[off + j]? = some (.int .u32 (us.getD j 0)))
theorem range_getD (n : Nat) (f : Nat → Int) {j : Nat} (hj : j < n) : ((List.range n).map f).getD j 0 = f j := by
 simp [List.getD, List.getElem?_map, List.getElem?_range hj]
theorem RdF.of_fids {w : World} {base R n cap : Nat} {f : Nat → Int} (h : FidsAt w R n f) (hb : base ≤ R) (hc : n ≤ cap) : RdF w base (.slice (some ⟨R, 0, none⟩) n cap) ((List.range n).map f) := by
 obtain ⟨cs, h1, h2, h3⟩ := h
 have hl : ((List.range n).map f).length = n := by simp
 refine ⟨_, cap, by rw [hl], by omega, fun _ => ⟨R, 0, cs, rfl, hb, h1, fun j hj => ?_⟩⟩
 rw [hl] at hj
 rw [Nat.zero_add, range_getD n f hj]
 exact h3 j hj
theorem own_shapeW {w : World} {base e size n : Nat} {v : Value} {xs : List Value} (h : w.ownsRow base e size v n xs) : ∃ a cap, v = .slice a n cap ∧ n ≤ cap := by
 rcases h.2 with ⟨hv, hn⟩ | ⟨g, cap, cur, hv, _, _, hc, _⟩
 · exact ⟨_, _, by rw [hv, hn], by omega⟩
 · exact ⟨_, _, hv, hc⟩
theorem own_outW {S : Nat → Prop} {w w' : World} {base e size n : Nat} {v : Value} {xs : List Value} (h : w.ownsRow base e size v n xs) (ho : Ou S w w') (hS : ∀ k, v.ownBlock = some k → ¬ S k) : w'.ownsRow base e size v n xs := by
 refine ⟨h.1, ?_⟩
 rcases h.2 with h | ⟨g, cap, cur, e1, e2, e3, e4⟩
 · exact .inl h
 · exact .inr ⟨g, cap, cur, e1, e2, by rw [ho.block g (lt_blkC e3) (hS g (by rw [e1]; rfl))]; exact e3, e4⟩
theorem one_news {w : World} {g : Nat} {u : Value} {t : TypeId} (hb : w.heap[g]? = some (.cells #[u] t (0, 0))) : ∀ j x, [u][j]? = some x → w.cell? ((⟨g, 0, none⟩ : Addr).add j) = some x := World.news_of_block hb
theorem own_eqW {w : World} {base : Nat} {a : Option Addr} {k cap : Nat} {us : List Int} (h : w.ownsRow base 35 1 (.slice a k cap) us.length (us.map encF)) : k = us.length ∧ us.length ≤ cap ∧ (0 < us.length → ∃ R, a = some ⟨R, 0, none⟩ ∧ base ≤ R ∧ FidsAt w R us.length (fun j => us.getD j 0)) := by
 rcases h.2 with ⟨e, e0⟩ | ⟨g, cap', cur, e, hb, hg, h1, h2, h3, h4⟩
 · cases e
   exact ⟨e0.symm, by omega, fun q => by omega⟩
 · cases e
   refine ⟨rfl, h1, fun _ => ⟨g, rfl, hb, cur, hg, by omega, fun j hj => ?_⟩⟩
   have hx : (cur.toList.take (us.length * 1))[j]? = (us.map encF)[j]? := by rw [h4]
   rw [List.getElem?_take_of_lt (by omega), List.getElem?_map] at hx
   rw [← Array.getElem?_toList, hx, List.getElem?_eq_getElem hj]
   simp [encF, List.getD, List.getElem?_eq_getElem hj]
theorem cranges_out {H : Type} {P : Program} {k : TypeId} {R : Value → Option (DataW H × List MemPlace)} {w w' : World} {b r n : Nat} {D : DataW H} {left : Lit → Bool} {cnt : Nat} {S : Nat → Prop} (h : w.ranges P k R b r n D left cnt) (ho : Ou S w w') (hb : ¬ S b) (hr : ¬ S r) : w'.ranges P k R b r n D left cnt := by
 obtain ⟨es, clock, since, seen, c0, h1, h2, h3, h4, h5, h6⟩ := h
 exact ⟨es, clock, since, seen, c0, by rw [ho.block b (lt_blkC h1) hb]; exact h1, h2, h3, h4, by rw [ho.block r (lt_blkC h5) hr]; exact h5, h6⟩
def outS (c : Ca) (ss : List Int) : List Int := ss.filter (fun x => !c.has x)
theorem outS_snoc (c : Ca) (ss : List Int) (x : Int) : outS c (ss ++ [x]) = if c.has x = true then outS c ss else outS c ss ++ [x] := by
 unfold outS
 rw [List.filter_append]
 cases hx : c.has x with
 | true => simp [hx]
 | false => simp [hx]
theorem nodup_inj {l : List Int} (h : l.Nodup) {a b : Nat} (ha : a < l.length) (hb : b < l.length) (e : l[a] = l[b]) : a = b := by
 have nd := List.pairwise_iff_getElem.1 h
 rcases Nat.lt_trichotomy a b with q | q | q
 · exact absurd e (nd a b ha hb q)
 · exact q
 · exact absurd e.symm (nd b a hb ha q)
theorem outS_le (c : Ca) (ss : List Int) : (outS c ss).length ≤ ss.length := List.length_filter_le _ _
theorem walkL_of {c : Ca} {ss : List Int} (hA : AllF c.d ss) {n : Nat} {f0 f : Nat → Int} (hn : n = (outS c ss).length) (h0 : ∀ j, j < n → f0 j = (outS c ss).getD j 0) (hs : SameF n f0 f) (hg : Rg32 n f) (hu : UpF n (fun k => c.rank (f k))) (hinj : ∀ x y, 0 ≤ x → x < 4294967296 → 0 ≤ y → y < 4294967296 → c.rank x = c.rank y → x = y) : WalkL c ((List.range n).map f) := by
 refine ⟨?_, fun x => ?_⟩
 · rw [List.pairwise_map]
   refine List.Pairwise.imp_of_mem (fun {a b} ha hb hab => ?_) (List.pairwise_lt_range (n := n))
   simp at ha hb
   have h1 := hu a b hab hb
   have h2 : f a ≠ f b := fun e => by have := hs.2 a b ha hb e; omega
   have h3 : c.rank (f a) ≠ c.rank (f b) := fun e => h2 (hinj _ _ (hg a ha).1 (hg a ha).2 (hg b hb).1 (hg b hb).2 e)
   simp only at h1
   omega
 · have e1 : x ∈ (List.range n).map f ↔ ∃ k, k < n ∧ f k = x := by simp
   have e2 : x ∈ outS c ss ↔ ∃ k, k < n ∧ f0 k = x := by
     constructor
     · intro hx
       obtain ⟨j, hj, e⟩ := List.getElem_of_mem hx
       exact ⟨j, by omega, by rw [h0 j (by omega)]; simp [List.getD, List.getElem?_eq_getElem hj, e]⟩
     · rintro ⟨k, hk, rfl⟩
       rw [h0 k hk]
       have : k < (outS c ss).length := by omega
       simp only [List.getD, List.getElem?_eq_getElem this]
       exact List.getElem_mem this
   rw [e1, ← hs.1 x, ← e2]
   unfold outS
   rw [List.mem_filter, hA.2 x]
   simp
theorem rank_inj {c : Ca} {x y : Int} (h0 : 0 ≤ x) (h1 : x < 4294967296) (h2 : 0 ≤ y) (h3 : y < 4294967296) (h : c.rank x = c.rank y) : x = y := by
 unfold Ca.rank at h
 omega
theorem info_fidW : ∃ i : TypeInfo, Tryz.prog.info? 35 = some i ∧ i.zero = some (.int .u32 0) ∧ i.size = 1 ∧ i.bytes = 4 := info_fidJ
def WalkP (c : Ca) (w : World) (e : Ending) (w' : World) : Prop := ∃ v ss, e = .returned v ∧ WalkL c ss ∧ ss.length ≤ 8 ∧ RdF w' w.heap.size v ss ∧ Below w.heap.size w w'
set_option maxHeartbeats 8000000 in
theorem walk_c {w : World} {g b1 b2 : Nat} {c : Ca} (h : IsCa w g b1 b2 c) (hk : c.k ≤ 8) : Calls Tryz.prog 84 #[pA g] w (WalkP c w) := by
 obtain ⟨_, _, _, _, _, lg, l1, l2, n1, n2, n3⟩ := h.cells
 have hV : Below w.heap.size w (w.alloc (.cells #[pA g] 70)) := (Below.refl _ _).alloc (Nat.le_refl _) _
 have hX : (w.alloc (.cells #[pA g] 70)).heap[w.heap.size]? = some (.cells #[pA g] 70 (0, 0)) := heap_alloc_new w _
 have hz : (w.alloc (.cells #[pA g] 70)).heap.size = w.heap.size + 1 := by simp
 obtain ⟨V, hVe⟩ : ∃ V, V = w.alloc (.cells #[pA g] 70) := ⟨_, rfl⟩
 rw [← hVe] at hV hX hz
 have hC := h.later hV
 obtain ⟨D, hown, hsD, hfD⟩ := hC.2.2.1
 have HF : Hid (∀ ss, (ss.Nodup ∧ ∀ i, i ∈ ss ↔ Maps.has D (kyF i) = true) → AllF c.d ss) := hid (fun ss q => ⟨q.1, fun i => by rw [q.2, Maps.has_eq_look_of (E := numE) hown i, hfD i]⟩)
 have HKR : Hid (∀ x, (c.d x).isSome = true → 0 ≤ x ∧ x < 4294967296) := hid (fun x hx => by
   obtain ⟨ob, eob⟩ := Option.isSome_iff_exists.1 hx
   exact hC.2.2.1.keys eob)
 have HHD : Hid (∀ x, Maps.has D (kyF x) = true → (c.d x).isSome = true) := hid (fun x hx => by rw [hfD x, ← Maps.has_eq_look_of (E := numE) hown x]; exact hx)
 have HC := hid hC
 have HO := hid hown
 have HS := hid hsD
 have BV := hid hV
 obtain ⟨v0, v1, v2, v3, _⟩ := hC.cells
 have x0 : V.cell? ⟨w.heap.size, 0, none⟩ = some (pA g) := by simp [World.cell?, hX]
 have HX := hid hX
 obtain ⟨i0, hi0, hz0, hz1, hz2⟩ := info_fidW
 clear h hC hown hsD hfD hX
 go_enter Tryz.func84, Tryz.ntmps84
 subst hVe
 go_wp2_with (at_range; refine wpList_range_own _ rfl _ 156 rfl 35 3 lawF Tryz.underlying156 numE.rd b2 c.k D rfl HO.out ?_; intro w0 hrg0 hg0 hs0)
 generalize w.alloc (.cells #[pA g] 70) = V at *
 have O0 : Ou (fun _ => False) V w0 := Ou.grew hg0 (fun k e => by cases e)
 have C0 := hid (HC.out.out O0 id id id)
 have X0 : Hid (w0.heap[w.heap.size]? = some (.cells #[pA g] 70 (0, 0))) := hid (by rw [O0.block w.heap.size (by omega) id]; exact HX.out)
 have B0 := hid (BV.out.trans (O0.below (B := w.heap.size) (by omega) (fun k e => e.elim)))
 have R0 := hid hrg0
 have Z0 : Hid (w.heap.size + 2 ≤ w0.heap.size) := hid (by have := hrg0.lt; omega)
 go_frame
 have HZ1 := hid hz
 clear hrg0 hg0 O0 hz hs0 hV
 go_loopw [3, 4] (fun v3 _ wr => ∃ (left : Lit → Bool) (cnt : Nat) (ss : List Int), Hid (wr.ranges Tryz.prog 35 numE.rd b2 V.heap.size c.k D left cnt) ∧ Hid (ss.length + cnt ≤ c.k) ∧ Hid (Col D left ss) ∧ Hid (wr.ownsRow (w.heap.size + 2) 35 1 v3 (outS c ss).length ((outS c ss).map encF)) ∧ Hid (IsCa wr g b1 b2 c) ∧ Hid (wr.heap[w.heap.size]? = some (.cells #[pA g] 70 (0, 0))) ∧ Hid (w.heap.size + 2 ≤ wr.heap.size) ∧ Hid (Below w.heap.size w wr)) (fun _ _ wr => wr.rangeLeft b2 V.heap.size)
 case atStart => exact ⟨_, _, [], R0, hid (by have := HS.out; simp [this]), hid (Col.start D), hid (World.ownsRow_nil _ _ _ _), C0, X0, Z0, B0⟩
 case round =>
   obtain ⟨left, cnt, ss, HR, HN, HCl, HW, HC', HX', HZ, HB⟩ := hrel
   obtain ⟨va, vn, vc, rfl⟩ : ∃ a k cap, _ = Value.slice a k cap := by
     obtain ⟨a, cap, e, _⟩ := own_shapeW HW.out
     exact ⟨a, _, cap, e⟩
   go_wp2_with (at_next; refine wpList_next_ranges _ rfl _ rfl 35 lawF numE.rd encF numE.enc (fun key kl hk => by obtain ⟨x, hx, _⟩ := keyF_inv hk; exact ⟨x, hx⟩) (fun v y hv => by obtain ⟨a, e, _⟩ := numE.inv hv; exact ⟨a, e⟩) b2 V.heap.size c.k _ _ _ rfl HR.out ?_ ?_)
   · intro hc0 hl0
     have AL := hid (HF.out ss (HCl.out.all hl0))
     have hle : (outS c ss).length ≤ 8 := by have h1 := outS_le c ss; have h2 := HN.out; omega
     have hx1 : wr.cell? ⟨w.heap.size, 0, none⟩ = some (pA g) := by simp [World.cell?, HX'.out]
     obtain ⟨e1, e2, e3⟩ := own_eqW HW.out
     subst e1
     clear hc0 hl0
     by_cases hn0 : (outS c ss).length = 0
     · have hW0 : WalkL c [] := ⟨List.Pairwise.nil, fun x => by
         have : outS c ss = [] := List.eq_nil_of_length_eq_zero hn0
         constructor
         · intro q; simp at q
         · rintro ⟨q1, q2⟩
           have : x ∈ outS c ss := by unfold outS; rw [List.mem_filter]; exact ⟨(AL.out.2 x).2 q1, by simp [q2]⟩
           rw [‹outS c ss = []›] at this
           simp at this⟩
       have W0 := hid hW0
       rw [hn0]
       clear hn0 hW0
       go_wp2_with (go_at_call 152; refine (sortW_nil _ _ _ _).mono ?_; rintro _ w5 ⟨rfl, h5⟩; rw [h5]; clear h5)
       go_ret
       exact ⟨_, [], rfl, W0.out, Nat.zero_le _, ⟨va, vc, rfl, Nat.zero_le _, fun q => by simp at q⟩, HB.out⟩
     · obtain ⟨R, rfl, hRb, F0⟩ := e3 (by omega)
       obtain ⟨_, _, _, _, _, k0, k1, k2, _⟩ := HC'.out.cells
       have SC := hid (sortW_c R (outS c ss).length vc w.heap.size g b1 b2 c (fun j => (outS c ss).getD j 0) wr F0 (fun a b ha hb hab => by
           have nd : (outS c ss).Nodup := List.Pairwise.filter _ AL.out.1
           have ea : (outS c ss).getD a 0 = (outS c ss)[a] := by simp [List.getD, List.getElem?_eq_getElem ha]
           have eb : (outS c ss).getD b 0 = (outS c ss)[b] := by simp [List.getD, List.getElem?_eq_getElem hb]
           have hab' : (outS c ss).getD a 0 = (outS c ss).getD b 0 := hab
           rw [ea, eb] at hab'
           exact nodup_inj nd ha hb hab') (fun k hk => by
           have ek : (outS c ss).getD k 0 = (outS c ss)[k] := by simp [List.getD, List.getElem?_eq_getElem hk]
           have hm : (outS c ss)[k] ∈ outS c ss := List.getElem_mem hk
           have hm2 : (outS c ss)[k] ∈ ss := (List.mem_filter.1 hm).1
           show 0 ≤ (outS c ss).getD k 0 ∧ (outS c ss).getD k 0 < 4294967296
           rw [ek]
           exact HKR.out _ ((AL.out.2 _).1 hm2)) (by omega) e2 hx1 (by have := HZ.out; omega) HC'.out (by omega))
       have hnI : ((outS c ss).length : Int) ≤ 8 := by omega
       generalize hN : (outS c ss).length = n at *
       have HNN := hid hN
       clear F0 e3 hN
       go_wp2_with (go_at_call 152; refine SC.out.mono ?_; rintro _ w5 ⟨rfl, f, q1, q2, q3, q4, q5⟩; (have Q1 := hid q1); (have Q2 := hid q2); (have Q3 := hid q3); (have Q4 := hid q4); (have Q5 := hid q5); clear q1 q2 q3 q4 q5)
       go_ret
       refine ⟨_, (List.range n).map f, rfl, walkL_of AL.out HNN.out.symm (fun j _ => rfl) Q2.out Q3.out Q4.out (fun x y => rank_inj), by simp; omega, RdF.of_fids Q1.out (by omega) e2, HB.out.trans (Q5.out.below HB.out.size (fun k e => by omega))⟩
   · intro x cx kl yd yp w2 cnt2 hkey hlk hv hat hrg2 hlt hg2 hs2 hen
     obtain ⟨x', ex, rfl⟩ := keyF_inv hkey
     obtain rfl : x = x' := by unfold encF at ex; cases ex; rfl
     have hh : Maps.has D (kyF x) = true := Maps.has_true_of_atKey hat
     obtain ⟨r0, r1⟩ := HKR.out x (HHD.out x hh)
     have hz := HZ1.out
     have o2 : Ou (fun k => k = V.heap.size) wr w2 := Ou.grew hg2 (fun k e => by cases e; rfl)
     have C2 := hid (HC'.out.out o2 (by omega) (by omega) (by omega))
     have X2 : Hid (w2.heap[w.heap.size]? = some (.cells #[pA g] 70 (0, 0))) := hid (by rw [o2.block w.heap.size (by have := HZ.out; omega) (by omega)]; exact HX'.out)
     have x2 : w2.cell? ⟨w.heap.size, 0, none⟩ = some (pA g) := by simp [World.cell?, X2.out]
     have W2 := hid (own_outW HW.out o2 (fun k hk e => by have := (HW.out.lt k hk).1; omega))
     have Z2 : Hid (w.heap.size + 2 ≤ w2.heap.size) := hid (Nat.le_trans HZ.out o2.size)
     have B2 := hid (HB.out.trans (o2.below HB.out.size (fun k e => by omega)))
     have R2 := hid hrg2
     have CL2 := hid (HCl.out.step hlk hh)
     have LT2 : Hid (cnt2 < cnt) := hid hlt
     have SN := hid (outS_snoc c ss x)
     have HC9 := hid (has_c C2.out r0 r1)
     have NN : Hid ((ss ++ [x]).length + cnt2 ≤ c.k) := hid (by have h1 := HN.out; simp; omega)
     have hle : (outS c ss).length ≤ 8 := by have h1 := outS_le c ss; have h2 := HN.out; omega
     unfold encF at hen
     clear hkey hlk hv hat hrg2 hlt hg2 hs2 ex hh o2 hz
     cases hx : c.has x with
     | true =>
       rw [hx] at HC9
       rw [hx, if_pos rfl] at SN
       clear hx
       go_wp2_with (go_at_call 151; refine HC9.out.mono ?_; rintro _ w3 ⟨rfl, hb3⟩; (have B3 := hid hb3); clear hb3)
       have R3 := hid (cranges_out (S := fun _ => False) R2.out (Ou.of B3.out) id id)
       go_roundw
       case rel => exact ⟨_, cnt2, ss ++ [x], R3, NN, CL2, hid (by rw [SN.out]; exact own_outW W2.out (Ou.of (S := fun _ => False) B3.out) (fun _ _ => id)), hid (C2.out.later B3.out), hid (by rw [B3.out.block w.heap.size (by have := Z2.out; omega)]; exact X2.out), hid (Nat.le_trans Z2.out B3.out.size), hid (B2.out.trans (B3.out.mono B2.out.size))⟩
       case measure => rw [R3.out.left_eq, HR.out.left_eq]; exact LT2.out
     | false =>
       rw [hx] at HC9
       rw [hx, if_neg (by simp)] at SN
       clear hx
       go_wp2_with (first
         | (have _q := T3.out; clear _q T3; at_builtin; refine wpList_append_own _ rfl _ _ 149 rfl (w.heap.size + 2) 35 i0 (.int .u32 0) 1 4 Tryz.underlying149 hi0 hz0 hz1 hz2 (by rfl) (by decide) _ _ _ rfl (own_outW W3.out (Ou.of (S := fun _ => False) ((Below.refl _ _).alloc (Nat.le_refl _) _)) (fun _ _ => id)) ⟨w3.heap.size, 0, none⟩ 1 1 [.int .u32 x] rfl rfl (one_news (heap_alloc_new w3 _)) (fun u hu => by simp at hu; subst hu; rfl) (by unfold maxLen; omega) (by omega) (Nat.le_trans Z3.out (by simp)) ?_; intro v9 w9 hown9 hgrow9 hnil9; (have O9 := hid hown9); (have G9 := hid hgrow9); clear hown9 hgrow9 hnil9)
         | (go_at_call 151; refine HC9.out.mono ?_; rintro _ w3 ⟨rfl, hb3⟩; (have B3 := hid hb3); (have T3 := hid hb3); (have W3 := hid (own_outW W2.out (Ou.of (S := fun _ => False) hb3) (fun _ _ => id))); (have Z3 : Hid (w.heap.size + 2 ≤ w3.heap.size) := hid (Nat.le_trans Z2.out hb3.size)); clear hb3))
       have o9 : Ou (fun k => w.heap.size + 2 ≤ k) w2 w9 := (Ou.of B3.out).trans (((Ou.refl _ _).alloc _).trans (Ou.grew G9.out (fun k e => by have := (W3.out.lt k e).1; exact this)))
       have R9 := hid (cranges_out R2.out o9 (by omega) (by have := HZ1.out; omega))
       go_roundw
       case rel => exact ⟨_, cnt2, ss ++ [x], R9, NN, CL2, hid (by rw [SN.out, List.map_append, List.length_append]; exact O9.out), hid (C2.out.out o9 (by omega) (by omega) (by omega)), hid (by rw [o9.block w.heap.size (by have := Z2.out; omega) (by omega)]; exact X2.out), hid (Nat.le_trans Z2.out o9.size), hid (B2.out.trans (o9.below B2.out.size (fun k e => by omega)))⟩
       case measure => rw [R9.out.left_eq, HR.out.left_eq]; exact LT2.out
def caD (c : Ca) : Ca := c.dearS 1 9
def caH (c : Ca) : Ca := (caD c).useS 1
theorem fdear_c {base : Nat} {w : World} {c : Cv} (h : CvM base w c) (hlk : c.lk = true) (hk : CaK c.ca) (hf : ∀ i, c.ca.f i = none) (hm : c.ca.m = 0) (hd : ∀ x, (c.ca.d x).isSome = true ↔ x = 1) :
   Calls Tryz.prog 39 #[.pointer (some ⟨c.p, 2, none⟩)] w fun e w' => e = .returned (.tuple #[]) ∧ CvM base w' { c with ca := c.ca.useS 1 } ∧ Below base w w' := by
 obtain ⟨q1, q2, q3, q4, q5⟩ := hk
 have row := h.2.2.1
 have H := hid h
 have k2 : w.cell? ⟨c.p, 2, none⟩ = some (pA c.cb) := cell_of_row2 row 2 rfl
 have k3 : w.cell? ⟨c.p, 3, none⟩ = some (.bool true) := by have e : w.cell? ⟨c.p, 3, none⟩ = some (.bool c.lk) := cell_of_row2 row 3 rfl; rw [hlk] at e; exact e
 have WC : Hid (Calls Tryz.prog 84 #[pA c.cb] w fun e w' => ∃ g off cap, e = .returned (.slice (some ⟨g, off, none⟩) 1 cap) ∧ w'.cell? ⟨g, off, none⟩ = some (.int .u32 1) ∧ Below w.heap.size w w') := hid ((walk_c h.2.1 q4).mono (fun e w' q => by
   obtain ⟨v, ss, rfl, ⟨hs1, hs2⟩, _, hR, hb⟩ := q
   have hmem : ∀ x, x ∈ ss ↔ x = 1 := fun x => by
     rw [hs2, hd]
     constructor
     · exact fun e => e.1
     · intro e
       refine ⟨e, ?_⟩
       unfold Ca.has
       rw [hf]
       rfl
   have hss : ss = [1] := by
     cases ss with
     | nil => exact absurd ((hmem 1).2 rfl) (by simp)
     | cons x t =>
       have hx : x = 1 := (hmem x).1 (List.mem_cons_self ..)
       subst hx
       cases t with
       | nil => rfl
       | cons y t =>
         have hy : y = 1 := (hmem y).1 (List.mem_cons_of_mem _ (List.mem_cons_self ..))
         subst hy
         rw [List.pairwise_cons] at hs1
         have := hs1.1 1 (List.mem_cons_self ..)
         omega
   subst hss
   obtain ⟨a, cap, rfl, _, h3⟩ := hR
   obtain ⟨g, off, cur, rfl, _, e3, e4⟩ := h3 (by decide)
   exact ⟨g, off, cap, rfl, cell_of_row2 e3 off (by simpa using e4 0 (by decide)), hb⟩))
 have PC : Hid (∀ W, IsCa W c.cb c.cm c.ch c.ca → Calls Tryz.prog 85 #[pA c.cb, .int .u32 1] W fun e w' => e = .returned (.tuple #[.int .u32 0, .int .i64 0]) ∧ IsCa w' c.cb c.cm c.ch (c.ca.useS 1) ∧ Ou (Tri c.cb c.cm c.ch) W w') := hid (fun W hW => by
   have hr : RiseF c.ca.f [] := ⟨List.Pairwise.nil, fun x => by simp [hf x]⟩
   have hroom : c.ca.room 1 = true := by unfold Ca.room; rw [hm, q5]; simp
   have e2 : c.ca.putR 1 (c.ca.nextOf []) = (0, 0) := by unfold Ca.putR Ca.roomR; rw [if_neg (by decide), if_pos hroom]
   have e3 : c.ca.putS 1 (c.ca.nextOf []) = c.ca.useS 1 := by unfold Ca.putS Ca.roomR Ca.roomS; rw [if_neg (by decide), if_pos hroom, if_pos rfl, if_pos hroom]
   have := put_c hW q1 q2 (by omega) hr (i := 1) (by decide) (by decide)
   rw [e2, e3] at this
   exact this)
 have K2 : Hid (∀ W, CvM base W c → W.cell? ⟨c.p, 2, none⟩ = some (pA c.cb)) := hid (fun W hW => cell_of_row2 hW.2.2.1 2 rfl)
 clear h row hlk hf hm hd q1 q2 q3 q4 q5
 go_enter Tryz.func39, Tryz.ntmps39
 go_wp2_with (go_at_call 84; refine WC.out.mono ?_; rintro _ w1 ⟨g, off, cap, rfl, hc1, hb1⟩; have B1 := hid hb1; have C1 := hid (H.out.later hb1); have m2 := K2.out _ C1.out; clear hb1)
 refine wp_loop_rounds 2 ?_
 rw [rounds_succ]
 go_wp2_with (go_at_call 85; refine (PC.out _ C1.out.2.1).mono ?_; rintro _ w2 ⟨rfl, hc2, ho2⟩; have C2 := hid (C1.out.cache ho2 hc2); have B2 := hid ((B1.out.mono H.out.sz).trans (ho2.below C1.out.sz H.out.baseTri)); clear hc2 ho2)
 rw [rounds_succ]
 go_wp2
 exact body_end (by kernel_rfl) rfl ⟨rfl, C2.out, B2.out⟩
theorem choard_c {base : Nat} {w : World} {c : Cv} (h : CvM base w c) (hL : c.L = []) (hlk : c.lk = true) (hca : c.ca = ca0) :
   Calls Tryz.prog 12 #[.pointer (some ⟨c.p, 0, none⟩), .string ⟨#[47]⟩, .int .i64 9] w fun e w' => e = .returned (.int .i64 0) ∧ CvM base w' { c with ca := caH c.ca } ∧ Below base w w' := by
 have H := hid h
 have VC := hid (view_c h (.inl hL))
 have FC := hid (fun (W : World) (a : Option Addr) (cap : Nat) (l : List Nd) (ht : Tr W a l) (he : l.map Nd.er = vwL c.L) => find1_c a cap l W ht.1 (fd_ok he (.inl hL)))
 have HC : Hid (∀ W, CvM base W c → Calls Tryz.prog 38 #[pA c.cb, .int .u32 1, .int .i64 9] W fun e w' => e = .returned (.int .i64 0) ∧ IsCa w' c.cb c.cm c.ch (caD c.ca) ∧ Ou (Tri c.cb c.cm c.ch) W w') := hid (fun W hW => by
   have e1 : c.ca.hoardE 1 9 = 0 := by rw [hca]; decide
   have e2 : c.ca.hoardS 1 9 = caD c.ca := by unfold Ca.hoardS; rw [if_pos e1, if_neg (by decide)]; rfl
   have := hoard_c hW.2.1 (by rw [hca]; decide) (i := 1) (n := 9) (by decide) (by decide)
   rw [e1, e2] at this
   exact this)
 have FD := hid (fun (W : World) (hW : CvM base W { c with ca := caD c.ca }) => fdear_c hW hlk (by rw [show ({ c with ca := caD c.ca } : Cv).ca = caD ca0 by rw [← hca]]; exact ⟨by decide, by decide, by decide, by decide, rfl⟩) (by rw [show ({ c with ca := caD c.ca } : Cv).ca = caD ca0 by rw [← hca]]; exact fun i => rfl) (by rw [show ({ c with ca := caD c.ca } : Cv).ca = caD ca0 by rw [← hca]]; rfl) (by
   rw [show ({ c with ca := caD c.ca } : Cv).ca = caD ca0 by rw [← hca]]
   intro x
   show (updF (fun _ => none) 1 (some 9) x).isSome = true ↔ x = 1
   unfold updF
   by_cases hx : x = 1
   · rw [if_pos hx]; simp [hx]
   · rw [if_neg hx]; simp [hx]))
 have K2 : Hid (∀ W, CvM base W c → W.cell? ⟨c.p, 2, none⟩ = some (pA c.cb)) := hid (fun W hW => cell_of_row2 hW.2.2.1 2 rfl)
 clear h hL hlk hca
 go_enter Tryz.func12, Tryz.ntmps12
 go_wp2_with (first
   | (go_at_call 39; refine (FD.out _ C3.out).mono ?_; rintro _ w4 ⟨rfl, hc4, hb4⟩; have C4 := hid hc4; have B4 := hid (B3.out.trans hb4); clear hc4 hb4)
   | (go_at_call 38; refine (HC.out _ C2.out).mono ?_; rintro _ w3 ⟨rfl, hc3, ho3⟩; have C3 := hid (C2.out.cache ho3 hc3); have B3 := hid ((D2.out.mono H.out.sz).trans (ho3.below C2.out.sz H.out.baseTri)); clear hc3 ho3)
   | (go_at_call 26; refine (FC.out _ a c0 l T1.out E1.out).mono ?_; rintro _ w2 ⟨rfl, hb2⟩; have D2 := hid (D1.out.trans (hb2.mono D1.out.size)); have C2 := hid (H.out.later D2.out); have m2 := K2.out _ C2.out; clear hb2)
   | (go_at_call 25; refine VC.out.mono ?_; rintro _ w1 ⟨a, c0, l, rfl, ht1, he1, hb1⟩; have D1 := hid hb1; have T1 := hid ht1; have E1 := hid he1; clear ht1 he1 hb1))
 go_ret
 exact ⟨rfl, C4.out, B4.out⟩
end Go.Proofs.YtfmghbennahlfaaGreat
namespace Go.Proofs.YtfmghbennahlfaaGreat
open Go.ChangeShapes Go.WideShapes Go.ChangeAt Go.RowKit Go.Maps
set_option linter.unusedVariables false
set_option linter.unusedSimpArgs false
set_option maxRecDepth 100000
theorem caK_H : CaK (caH ca0) := ⟨by decide, by decide, by decide, by decide, rfl⟩
theorem caK_HU : CaK ((caH ca0).useS 1) := ⟨by decide, by decide, by decide, by decide, rfl⟩
theorem caK_HUU : CaK (((caH ca0).useS 1).useS 1) := ⟨by decide, by decide, by decide, by decide, rfl⟩
theorem caK_0 : CaK ca0 := ⟨by decide, by decide, by decide, by decide, rfl⟩
def fresh1 (p j d b1 b2 cb cm ch g s N : Nat) (lk : Bool) (ca : Ca) : Cv := ⟨p, j, d, b1, b2, cb, cm, ch, g, s, N, 0, lk, ca, .slice none 0 0, 0, 0, 1, []⟩
theorem rch_H (p j d b1 b2 cb cm ch g s N : Nat) (ca : Ca) (h : ca.has 1 = true) : rchB (fresh1 p j d b1 b2 cb cm ch g s N false ca) = true ∧ rchC (fresh1 p j d b1 b2 cb cm ch g s N false ca) = fresh1 p j d b1 b2 cb cm ch g s N false (ca.useS 1) := by
 have e : rchB (fresh1 p j d b1 b2 cb cm ch g s N false ca) = true := by show (ca.has 1 || false) = true; rw [h]; rfl
 exact ⟨e, by unfold rchC; rw [e]; rfl⟩
theorem idle1 (p j d b1 b2 cb cm ch g s N : Nat) (lk : Bool) (ca : Ca) (hN : 204 ≤ N) (hk : CaK ca) (hp : ca.has 1 = false → lk = true → (∀ i, ca.f i = none) ∧ ca.m = 0) : Idle (fresh1 p j d b1 b2 cb cm ch g s N lk ca) :=
 ⟨rfl, rfl, rfl, rfl, rfl, hN, by show (0 : Int) ≠ 4294967295; decide, hk, hp⟩
set_option maxHeartbeats 4000000 in
theorem unc_yes (w : World) : Calls Tryz.prog 4 #[.bool true] w fun e w' => e = .returned (.bool true) ∧ Below w.heap.size w w' := by
 have NC0 := new_c 700 w (by omega) (by omega)
 have NC := hid (show Calls Tryz.prog 24 #[.int .i64 700] w _ from NC0)
 have K1 := hid caK_H
 have K2 := hid caK_HU
 have K3 := hid caK_HUU
 clear NC0
 go_enter Tryz.func4, Tryz.ntmps4
 go_upto_region 4 with (first
   | (go_at_call 23; refine OC.out.mono ?_; rintro _ w2 ⟨p, j, d, b1, b2, cb, cm, ch, g, s, rfl, hc2, hb2⟩; have C2 := hid hc2; have B2 := hid (B1.out.trans (hb2.mono B1.out.size)); clear hc2 hb2)
   | (go_at_call 24; refine NC.out.mono ?_; rintro _ w1 ⟨rfl, hd1, hb1, hz1⟩; have OC := hid (openC_c hd1 (by omega)); have B1 := hid hb1; clear hd1 hb1 hz1))
 have BZ := hid B1.out.size
 generalize w1.heap.size = base at *
 go_upto_region 5 with (go_at_call 11; refine (clink_c C2.out true).mono ?_; rintro _ w3 ⟨rfl, hc3, hb3⟩; have C3 : Hid (CvM base w3 (fresh1 p j d b1 b2 cb cm ch g s 700 true ca0)) := hid hc3; have B3 := hid (B2.out.trans (hb3.mono BZ.out)); clear hc3 hb3)
 go_upto_region 7 with (go_at_call 12; refine (choard_c C3.out rfl rfl rfl).mono ?_; rintro _ w4 ⟨rfl, hc4, hb4⟩; have C4 : Hid (CvM base w4 (fresh1 p j d b1 b2 cb cm ch g s 700 true (caH ca0))) := hid hc4; have B4 := hid (B3.out.trans (hb4.mono BZ.out)); clear hc4 hb4)
 go_upto_region 8 with (go_at_call 11; refine (clink_c C4.out false).mono ?_; rintro _ w5 ⟨rfl, hc5, hb5⟩; have C5 : Hid (CvM base w5 (fresh1 p j d b1 b2 cb cm ch g s 700 false (caH ca0))) := hid hc5; have B5 := hid (B4.out.trans (hb5.mono BZ.out)); clear hc5 hb5)
 have RH := rch_H p j d b1 b2 cb cm ch g s 700 (caH ca0) rfl
 have L5 := hid (clistok_c C5.out rfl K1.out (fun e => by cases e) RH.1)
 rw [RH.2] at L5
 clear RH
 go_upto_region 9 with (go_at_call 6; refine L5.out.mono ?_; rintro _ w6 ⟨rfl, hc6, hb6⟩; have C6 := hid hc6; have B6 := hid (B5.out.trans (hb6.mono BZ.out)); clear hc6 hb6)
 have RU := rch_H p j d b1 b2 cb cm ch g s 700 ((caH ca0).useS 1) rfl
 have D6 := hid (cDook_c C6.out (idle1 p j d b1 b2 cb cm ch g s 700 false ((caH ca0).useS 1) (by decide) K2.out (fun e => by cases e)) RU.1 (by rw [RU.2]; exact K3.out))
 clear RU
 go_upto_region 10 with (go_at_call 9; refine D6.out.mono ?_; rintro _ w7 ⟨rfl, lb, lc, hc7, hb7⟩; have C7 := hid hc7; have B7 := hid (B6.out.trans (hb7.mono BZ.out)); clear hc7 hb7)
 have V7 := hid (cview1_c C7.out rfl)
 go_wp2_with (go_at_call 14; refine V7.out.mono ?_; rintro _ w8 ⟨va, vc, rfl, hb8⟩; have B8 := hid (B7.out.trans (hb8.mono B7.out.size)); clear hb8)
 go_ret
 exact ⟨rfl, B8.out⟩
set_option maxHeartbeats 4000000 in
theorem unc_no (w : World) : Calls Tryz.prog 4 #[.bool false] w fun e w' => e = .returned (.bool true) ∧ Below w.heap.size w w' := by
 have NC0 := new_c 700 w (by omega) (by omega)
 have NC := hid (show Calls Tryz.prog 24 #[.int .i64 700] w _ from NC0)
 have K0 := hid caK_0
 clear NC0
 go_enter Tryz.func4, Tryz.ntmps4
 go_upto_region 4 with (first
   | (go_at_call 23; refine OC.out.mono ?_; rintro _ w2 ⟨p, j, d, b1, b2, cb, cm, ch, g, s, rfl, hc2, hb2⟩; have C2 := hid hc2; have B2 := hid (B1.out.trans (hb2.mono B1.out.size)); clear hc2 hb2)
   | (go_at_call 24; refine NC.out.mono ?_; rintro _ w1 ⟨rfl, hd1, hb1, hz1⟩; have OC := hid (openC_c hd1 (by omega)); have B1 := hid hb1; clear hd1 hb1 hz1))
 have BZ := hid B1.out.size
 generalize w1.heap.size = base at *
 go_upto_region 5 with (go_at_call 11; refine (clink_c C2.out true).mono ?_; rintro _ w3 ⟨rfl, hc3, hb3⟩; have C3 : Hid (CvM base w3 (fresh1 p j d b1 b2 cb cm ch g s 700 true ca0)) := hid hc3; have B3 := hid (B2.out.trans (hb3.mono BZ.out)); clear hc3 hb3)
 go_upto_region 8 with (go_at_call 11; refine (clink_c C3.out false).mono ?_; rintro _ w5 ⟨rfl, hc5, hb5⟩; have C5 : Hid (CvM base w5 (fresh1 p j d b1 b2 cb cm ch g s 700 false ca0)) := hid hc5; have B5 := hid (B3.out.trans (hb5.mono BZ.out)); clear hc5 hb5)
 have L5 := hid (clistno_c C5.out rfl K0.out (fun _ e => by cases e) rfl)
 go_upto_region 9 with (go_at_call 6; refine L5.out.mono ?_; rintro _ w6 ⟨rfl, hc6, hb6⟩; have C6 := hid hc6; have B6 := hid (B5.out.trans (hb6.mono BZ.out)); clear hc6 hb6)
 have D6 := hid (cDono_c C6.out (idle1 p j d b1 b2 cb cm ch g s 700 false ca0 (by decide) K0.out (fun _ e => by cases e)) rfl)
 go_upto_region 10 with (go_at_call 9; refine D6.out.mono ?_; rintro _ w7 ⟨rfl, hc7, hb7⟩; have C7 := hid hc7; have B7 := hid (B6.out.trans (hb7.mono BZ.out)); clear hc7 hb7)
 have V7 := hid (cview0_c C7.out rfl)
 have L7 := hid (fun W (hW : Below w7.heap.size w7 W) => clog0_c (C7.out.later hW) rfl)
 clear L5 D6 C7 C6 C5 C3 C2 K0 NC
 go_wp2_with (first
   | (go_at_call 14; refine V7.out.mono ?_; rintro _ w8 ⟨va, vc, rfl, hb8⟩; have X8 := hid hb8; have B8 := hid (B7.out.trans (hb8.mono B7.out.size)); clear hb8)
   | (go_at_call 15; refine (L7.out _ X8.out).mono ?_; rintro _ w9 ⟨rfl, hb9⟩; have B9 := hid (B8.out.trans (hb9.mono B8.out.size)); clear hb9))
 go_ret
 exact ⟨rfl, B9.out⟩
end Go.Proofs.YtfmghbennahlfaaGreat
