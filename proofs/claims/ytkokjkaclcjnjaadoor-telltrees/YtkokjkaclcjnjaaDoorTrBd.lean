/-
  Nodes of an input, in memory.
  Get of the program's tree, its copy's place told.
-/
import Derived.Test.YtkokjkaclcjnjaaDoorTrBa
import Derived.Test.YtkokjkaclcjnjaaDoorTrBc
namespace Go.Proofs.YtkokjkaclcjnjaaDoor
open Go.RowKit Go.ChangeShapes Go.WideShapes Go.ChangeAt Go.Maps Go.Shelf
set_option linter.unusedVariables false
set_option linter.unusedSimpArgs false
set_option maxRecDepth 100000
theorem slice_nil {H : Type} {enc : TypeId × Value → H} {P : Program} {W : World} {t e : TypeId} {v : Value} {fuel : Nat} {y : DataW H × List MemPlace} {sp : Nat → Bool} {hd : Bool} {b0 : Nat} (ht : P.underlying t = some (.slice e))
   (hf : DataW.trod enc P W b0 sp hd fuel t [v] = some y) {a : Option Addr} {n c : Nat} (hv : v = .slice a n c) : a = none → c = 0 := by
 subst hv
 intro ha
 subst ha
 rcases DataW.trod_slice ht hf with ⟨hcs, _⟩ | ⟨x, len, c', elems, rest, n', _, hcs, _⟩
 · simp at hcs
   exact hcs.2
 · simp at hcs
theorem trod_nodeN {H : Type} {enc : TypeId × Value → H} {W : World} {cs : List Value} {fuel : Nat} {x : DataW H × List MemPlace} {sp : Nat → Bool} {hd : Bool} {b0 : Nat} (hf : DataW.trod enc Tryd.prog W b0 sp hd fuel 35 cs = some x) (hsp : ∀ k, sp k = true) :
   ∃ q : Nd, cs = q.cells ∧ q.Ok W ∧ q.Nil := by
 obtain ⟨xs, m, _, _, hlc, hlen, hel⟩ := DataW.trod_struct Tryd.underlying35 hf
 have hct : Tryd.prog.cellsOf 35 = 6 := by kernel_rfl
 have e1 : Tryd.prog.cellsOf 29 = 1 := by kernel_rfl
 have e2 : Tryd.prog.cellsOf 30 = 1 := by kernel_rfl
 have e3 : Tryd.prog.cellsOf 31 = 1 := by kernel_rfl
 have e4 : Tryd.prog.cellsOf 32 = 1 := by kernel_rfl
 have e5 : Tryd.prog.cellsOf 33 = 1 := by kernel_rfl
 rw [hct] at hlc
 match cs, hlc with
 | [c0, c1, c2, c3, c4, c5], _ =>
   match xs, hlen with
   | [x0, x1, x2, x3, x4, x5], _ =>
     have h0 := hel 0 _ rfl
     have h1 := hel 1 _ rfl
     have h2 := hel 2 _ rfl
     have h3 := hel 3 _ rfl
     have h4 := hel 4 _ rfl
     have h5 := hel 5 _ rfl
     simp [e1, e2, e3, e4, e5] at h0 h1 h2 h3 h4 h5
     obtain ⟨n0, q0, _, w0⟩ := DataW.trod_int Tryd.underlying29 h0
     obtain ⟨n1, q1, _, w1⟩ := DataW.trod_int Tryd.underlying30 h1
     obtain ⟨n2, q2, _, w2⟩ := DataW.trod_int Tryd.underlying31 h2
     obtain ⟨n3, q3, _, w3⟩ := DataW.trod_int Tryd.underlying31 h3
     obtain ⟨da, dc, zs, q4, hz⟩ := isB_trod Tryd.underlying32 Tryd.underlying5 (by kernel_rfl) h4 hsp
     obtain ⟨ka, kc, ks, q5, hk⟩ := isKs_trod Tryd.underlying33 h5 hsp
     have nd := slice_nil Tryd.underlying32 h4 q4
     have nk := slice_nil Tryd.underlying33 h5 q5
     simp at q0 q1 q2 q3
     subst q0 q1 q2 q3 q4 q5
     exact ⟨⟨n0, n1, n2, n3, da, dc, zs, ka, kc, ks⟩, rfl, ⟨bd_u32 w0, bd_u8 w1, bd_u16r w2, bd_u16r w3, hz, hk⟩, nd, nk⟩
theorem isNs_trodN {H : Type} {enc : TypeId × Value → H} {W : World} {t : TypeId} {v : Value} {fuel : Nat} {y : DataW H × List MemPlace} {sp : Nat → Bool} {hd : Bool} {b0 : Nat} (ht : Tryd.prog.underlying t = some (.slice 35))
   (hf : DataW.trod enc Tryd.prog W b0 sp hd fuel t [v] = some y) (hsp : ∀ k, sp k = true) : ∃ a cap, ∃ l : List Nd, v = .slice a l.length cap ∧ IsNs W a l ∧ (∀ x ∈ l, x.Nil) ∧ l.length ≤ cap := by
 have hct : Tryd.prog.cellsOf 35 = 6 := by kernel_rfl
 rcases DataW.trod_slice ht hf with ⟨hcs, _⟩ | ⟨x, len, c, elems, rest, n, _, hcs, _, hb, hl, hm, hlen, hel, _⟩
 · simp at hcs
   exact ⟨none, 0, [], hcs, ⟨Nat.zero_le _, (fun x hx => by cases hx), (fun h => absurd h (by simp))⟩, (fun x hx => by cases hx), by simp⟩
 · simp at hcs
   rw [hct] at hel
   have each : ∀ i, i < len → ∃ q : Nd, (∀ j, j < 6 → W.cell? ((x.add (i * 6)).add j) = (q.cells)[j]?) ∧ q.Ok W ∧ q.Nil := by
     intro i hi
     have h1 := hel i (by omega)
     have h2 : elems[i]? = some elems[i] := List.getElem?_eq_getElem (by omega)
     rw [h2, Option.bind_eq_some_iff] at h1
     obtain ⟨cs, hc, hy⟩ := h1
     obtain ⟨q, hq, hw⟩ := trod_nodeN hy hsp
     obtain ⟨_, hl6, hg⟩ := World.cells?_some hc
     refine ⟨q, fun j hj => ?_, hw⟩
     rw [hg j hj, hq]
   obtain ⟨f, hf'⟩ : ∃ f : Nat → Nd, ∀ i, i < len → (∀ j, j < 6 → W.cell? ((x.add (i * 6)).add j) = ((f i).cells)[j]?) ∧ (f i).Ok W ∧ (f i).Nil := by
     classical
     refine ⟨fun i => if h : i < len then (each i h).choose else Nd.no, fun i hi => ?_⟩
     simp only [hi, dif_pos]
     exact (each i hi).choose_spec
   refine ⟨some x, c, (List.range len).map f, by simpa using hcs, ⟨by simp; omega, fun q hq => ?_, fun hp => ?_⟩, fun q hq => ?_, by simp; omega⟩
   · obtain ⟨i, hi, rfl⟩ := List.mem_map.1 hq
     exact (hf' i (List.mem_range.1 hi)).2.1
   · rw [List.length_map, List.length_range] at hp
     obtain ⟨b, off, spot⟩ := x
     have hc0 := (hf' 0 hp).1 0 (by omega)
     have hspot : spot = none := by
       have e0 : ((f 0).cells)[0]? = some (.int .u32 (f 0).fid) := rfl
       rw [e0] at hc0
       simpa [Addr.add] using World.cell?_spot hc0
     subst hspot
     refine ⟨b, off, rfl, fun i hi => ?_⟩
     rw [List.length_map, List.length_range] at hi
     have hadd : ∀ j, ((⟨b, off, none⟩ : Addr).add (i * 6)).add j = ⟨b, off + i * 6 + j, none⟩ := fun j => by unfold Addr.add; split <;> split <;> simp_all <;> omega
     have key := (hf' i hi).1
     have g : ((List.range len).map f).getD i Nd.no = f i := by simp [List.getD, hi]
     rw [g]
     intro j u hu
     have hj : j < 6 := by
       have := (List.getElem?_eq_some_iff.1 hu).1
       simpa [Nd.cells] using this
     have kj := key j hj
     rw [hadd] at kj
     rw [kj]; exact hu
   · obtain ⟨i, hi, rfl⟩ := List.mem_map.1 hq
     exact (hf' i (List.mem_range.1 hi)).2.2
theorem isNs_of {H : Type} {enc : TypeId × Value → H} {W : World} {t : TypeId} {a : Option Addr} {len cap : Nat} {d : DataW H} {p : List MemPlace} (ht : Tryd.prog.underlying t = some (.slice 35))
   (h : DataW.Trod enc Tryd.prog W 0 (fun _ => true) true t (.slice a len cap) d p) : ∃ l : List Nd, l.length = len ∧ (IsNs W a l ∧ ∀ x ∈ l, x.Nil) ∧ len ≤ cap := by
 obtain ⟨fuel, hf⟩ := h
 obtain ⟨a', cap', l, hv, h1, h2, h3⟩ := isNs_trodN ht hf (fun _ => rfl)
 simp only [Value.slice.injEq] at hv
 obtain ⟨rfl, rfl, rfl⟩ := hv
 exact ⟨l, rfl, ⟨h1, h2⟩, h3⟩
end Go.Proofs.YtkokjkaclcjnjaaDoor
namespace Go.Proofs.YtkokjkaclcjnjaaDoor
open Go.RowKit Go.ChangeShapes Go.WideShapes Go.ChangeAt
set_option linter.unusedVariables false
set_option linter.unusedSimpArgs false
set_option maxRecDepth 100000
theorem pl_none {l : List Nd} {f : Int} (h : getF l f = none) : plI l f = -1 := by
 unfold plI
 have e : l.findIdx? (fun x => x.fid == f) = none := by
   rw [List.findIdx?_eq_none_iff]
   intro x hx
   unfold getF at h
   rw [List.find?_eq_none] at h
   have := h x hx
   simpa using this
 rw [e]
theorem pl_some {l : List Nd} {f : Int} {x : Nd} (h : getF l f = some x) : ∃ i : Nat, plI l f = (i : Int) ∧ i < l.length ∧ l.getD i Nd.no = x := by
 induction l with
 | nil => cases h
 | cons y t ih =>
   unfold getF at h
   rw [List.find?_cons] at h
   cases e : y.fid == f with
   | true =>
     rw [e] at h
     cases h
     refine ⟨0, ?_, by simp, rfl⟩
     unfold plI
     simp only [List.findIdx?_cons, e, if_true]
   | false =>
     rw [e] at h
     obtain ⟨i, h1, h2, h3⟩ := ih h
     refine ⟨i + 1, ?_, by simpa using h2, by simpa [List.getD] using h3⟩
     unfold plI at h1 ⊢
     rw [List.findIdx?_cons, e]
     cases q : t.findIdx? (fun x => x.fid == f) with
     | none => rw [q] at h1; simp only at h1; omega
     | some k => rw [q] at h1; simp only at h1 ⊢; simp; omega
theorem RowAt.setLow {w : World} {base : Nat} {t : TypeId} {p : Option Addr} {vs : List Value} (h : RowAt w base t p vs) {g o : Nat} {v : Value} (hg : g < base) : RowAt (w.setCell ⟨g, o, none⟩ v) base t p vs := by
 rcases h with h | ⟨k, cs, fr, h1, h2, h3, h4⟩
 · exact .inl h
 · exact .inr ⟨k, cs, fr, h1, h2, by rw [heap_setCell_other _ _ _ _ (by show k ≠ g; omega)]; exact h3, h4⟩
theorem NdR.setLow {w : World} {base : Nat} {x : Nd} (h : NdR w base x) {g o : Nat} {v : Value} (hg : g < base) : NdR (w.setCell ⟨g, o, none⟩ v) base x := ⟨h.1, h.2.1, h.2.2.1.setLow hg, h.2.2.2.setLow hg⟩
def GtQ (o : Option Nd) (w : World) (e : Ending) (w' : World) : Prop := (match o with
 | none => e = .returned (.tuple #[Nd.no.val, .bool false])
 | some x => ∃ y : Nd, e = .returned (.tuple #[y.val, .bool true]) ∧ y.er = x.er ∧ NdR w' w.heap.size y) ∧ Below w.heap.size w w'
set_option maxHeartbeats 2000000 in
theorem tGet_c (a : Option Addr) (cap : Nat) (l : List Nd) (f : Int) (w : World) (h : Tr w a l) (hm : l.length ≤ 100000) :
   Calls Tryd.prog 70 #[.slice a l.length cap, .int .u32 f] w (GtQ (getF l f) w) := by
 have b0 := below_1 w (.cells Nd.no.cells.toArray 35)
 have h0 := heap_alloc_new w (.cells Nd.no.cells.toArray 35)
 have hV := h.later b0
 have PC := hid (placeOf_c a cap l f _ hV.1 hm)
 have B0 := hid b0
 have H0 := hid h0
 have hsV : w.heap.size < (w.alloc (.cells Nd.no.cells.toArray 35)).heap.size := lt_blkR h0
 have H := hid hV
 clear b0 h0 h hV
 cases hx : getF l f with
 | none =>
   rw [pl_none hx] at PC
   clear H hx
   generalize l.length = n at *
   go_enter Tryd.func70, Tryd.ntmps70
   go_upto_region 1 with fail
   change Code.wp _ _ _ _ (w.alloc (.cells Nd.no.cells.toArray 35))
   generalize (w.alloc (.cells Nd.no.cells.toArray 35)) = V at *
   go_wp2_with (go_at_call 94; refine PC.out.mono ?_; rintro _ w1 ⟨rfl, hb1⟩; have h1 := (hb1.block _ hsV).trans H0.out; have fz : ∀ i, w1.frozen? ⟨w.heap.size, i, none⟩ = false := (fun i => by simp [World.frozen?, h1]); obtain ⟨q0, q1, q2, q3, q4, q5⟩ := nd_cells h1; simp only [Nd.no, List.length_nil] at q0 q1 q2 q3 q4 q5; have B1 := hid (B0.out.trans (hb1.mono B0.out.size)); clear hb1 h1)
   refine bodyPost_ret (v := .tuple #[Nd.no.val, .bool false]) (by simp [results, Tryd.results70, go_sem, Nd.val, Nd.no, q0, q1, q2, q3, q4, q5]) rfl ⟨rfl, ?_⟩
   exact (((((B1.out.setCell (p := ⟨w.heap.size, 0, none⟩) (Nat.le_refl _) _).setCell (p := ⟨w.heap.size, 1, none⟩) (Nat.le_refl _) _).setCell (p := ⟨w.heap.size, 2, none⟩) (Nat.le_refl _) _).setCell (p := ⟨w.heap.size, 3, none⟩) (Nat.le_refl _) _).setCell (p := ⟨w.heap.size, 4, none⟩) (Nat.le_refl _) _).setCell (p := ⟨w.heap.size, 5, none⟩) (Nat.le_refl _) _
 | some x =>
   obtain ⟨i, e1, e2, e3⟩ := pl_some hx
   rw [e1] at PC
   obtain ⟨b, off, rfl, _⟩ := H.out.1.2.2 (by omega)
   have hxm : x ∈ l := by rw [← e3]; exact getD_mem _ _ e2
   have NP := hid (H.out.nd hxm)
   have HA := hid (H.out.1.at (i := i) e2)
   rw [e3] at HA
   have e2I : (i : Int) < l.length := by omega
   clear H hx e1 e3 hxm
   generalize l.length = n at *
   go_enter Tryd.func70, Tryd.ntmps70
   go_upto_region 1 with fail
   change Code.wp _ _ _ _ (w.alloc (.cells Nd.no.cells.toArray 35))
   generalize (w.alloc (.cells Nd.no.cells.toArray 35)) = V at *
   obtain ⟨xf, xk, xm, xl, xda, xdc, xzs, xka, xkc, xks⟩ := x
   have CO : Hid (∀ W, Below V.heap.size V W → Calls Tryd.prog 95 #[.agg #[.int .u32 xf, .int .u8 xk, .int .u16 xm, .int .u16 xl, .slice xda xzs.length xdc, .slice xka xks.length xkc]] W fun e w' => ∃ da dc ka kc, e = .returned (.agg #[.int .u32 xf, .int .u8 xk, .int .u16 xm, .int .u16 xl, .slice da xzs.length dc, .slice ka xks.length kc]) ∧ NdW w' W.heap.size ⟨xf, xk, xm, xl, da, dc, xzs, ka, kc, xks⟩ ∧ Below W.heap.size W w') := hid (fun W hW => copyOf_c ⟨xf, xk, xm, xl, xda, xdc, xzs, xka, xkc, xks⟩ W (NP.out.later hW))
   have CC : Hid (∀ W, Below V.heap.size V W → NdC W b (off + i * 6) ⟨xf, xk, xm, xl, xda, xdc, xzs, xka, xkc, xks⟩) := hid (fun W hW => HA.out.later hW)
   clear NP HA
   go_wp2_with (first
     | (go_at_call 94; refine PC.out.mono ?_; rintro _ w1 ⟨rfl, hb1⟩; have B1 := hid hb1; clear hb1; obtain ⟨y0, y1, y2, y3, y4, y5⟩ := (CC.out w1 B1.out).all; have E1 := hid (CO.out w1 B1.out))
     | (go_at_call 95; refine E1.out.mono ?_; rintro _ w2 ⟨da, dc, ka, kc, rfl, hW2, hb2⟩; have B2 := hid (B1.out.trans (hb2.mono B1.out.size)); have W2 := hid hW2.r; clear hb2 hW2; have h1 := (B2.out.block _ hsV).trans H0.out; have fz : ∀ i, w2.frozen? ⟨w.heap.size, i, none⟩ = false := (fun i => by simp [World.frozen?, h1]); obtain ⟨q0, q1, q2, q3, q4, q5⟩ := nd_cells h1; simp only [Nd.no, List.length_nil] at q0 q1 q2 q3 q4 q5; clear h1))
   have hs1 : w.heap.size < w1.heap.size := Nat.lt_of_lt_of_le hsV B1.out.size
   have B0z : w.heap.size ≤ w1.heap.size := by omega
   have B3 : Below w.heap.size w w2 := B0.out.trans (B2.out.mono B0.out.size)
   refine bodyPost_ret (v := .tuple #[(⟨xf, xk, xm, xl, da, dc, xzs, ka, kc, xks⟩ : Nd).val, .bool true]) (by simp [results, Tryd.results70, go_sem, Nd.val, q0, q1, q2, q3, q4, q5]) rfl ⟨⟨⟨xf, xk, xm, xl, da, dc, xzs, ka, kc, xks⟩, rfl, rfl, ?_⟩, ?_⟩
   · exact ((((((W2.out.setLow hs1).setLow hs1).setLow hs1).setLow hs1).setLow hs1).setLow hs1).low B0z
   · exact (((((B3.setCell (p := ⟨w.heap.size, 0, none⟩) (Nat.le_refl _) _).setCell (p := ⟨w.heap.size, 1, none⟩) (Nat.le_refl _) _).setCell (p := ⟨w.heap.size, 2, none⟩) (Nat.le_refl _) _).setCell (p := ⟨w.heap.size, 3, none⟩) (Nat.le_refl _) _).setCell (p := ⟨w.heap.size, 4, none⟩) (Nat.le_refl _) _).setCell (p := ⟨w.heap.size, 5, none⟩) (Nat.le_refl _) _
end Go.Proofs.YtkokjkaclcjnjaaDoor
