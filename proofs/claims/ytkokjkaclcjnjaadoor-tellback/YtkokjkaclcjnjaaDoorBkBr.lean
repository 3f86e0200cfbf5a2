/-
  The document's tree: operations in memory; New, Fold.
  The package tree: copies of nodes (copyOf, slices.Clone), where a fid, an entry stands (placeOf, entryOf, slices.IndexFunc), New.
  The package tree: copyAll, placeOf, entryOf, New.
  Nodes of an input, in memory.
  Get of the program's tree, its copy's place told.
-/
import Derived.Test.YtkokjkaclcjnjaaDoorBkBn
import Derived.Laws.IdiomStrings
import Derived.Deep.RegionHeld3
import Derived.Lib.UnsafeStr
namespace Go.Proofs.YtkokjkaclcjnjaaDoor
open Go.RowKit Go.ChangeShapes Go.WideShapes Go.ChangeAt Go.Maps Go.Shelf
set_option linter.unusedVariables false
set_option linter.unusedSimpArgs false
set_option maxRecDepth 100000
def foldS (p : List Nd × List Int) (o : Rec) : List Nd × List Int := (if (ApplyL p.1 o).1 = 0 then (ApplyL p.1 o).2 else p.1, p.2 ++ [(ApplyL p.1 o).1])
def kb (x : Nd) : Option Nat := x.ka.map (·.block)
theorem slice_nil {H : Type} {enc : TypeId × Value → H} {P : Program} {W : World} {t e : TypeId} {v : Value} {fuel : Nat} {y : DataW H × List MemPlace} {sp : Nat → Bool} {hd : Bool} {b0 : Nat} (ht : P.underlying t = some (.slice e))
   (hf : DataW.trod enc P W b0 sp hd fuel t [v] = some y) {a : Option Addr} {n c : Nat} (hv : v = .slice a n c) : a = none → c = 0 := by
 subst hv
 intro ha
 subst ha
 rcases DataW.trod_slice ht hf with ⟨hcs, _⟩ | ⟨x, len, c', elems, rest, n', _, hcs, _⟩
 · simp at hcs
   exact hcs.2
 · simp at hcs
theorem trod_nodeN {H : Type} {enc : TypeId × Value → H} {W : World} {cs : List Value} {fuel : Nat} {x : DataW H × List MemPlace} {sp : Nat → Bool} {hd : Bool} {b0 : Nat} (hf : DataW.trod enc Tryd.prog W b0 sp hd fuel 35 cs = some x) (hsp : ∀ k, sp k = true) :
   ∃ q : Nd, cs = q.cells ∧ q.Ok W ∧ q.Nil := by
 obtain ⟨xs, m, _, _, hlc, hlen, hel⟩ := DataW.trod_struct Tryd.underlying35 hf
 have hct : Tryd.prog.cellsOf 35 = 6 := by kernel_rfl
 have e1 : Tryd.prog.cellsOf 29 = 1 := by kernel_rfl
 have e2 : Tryd.prog.cellsOf 30 = 1 := by kernel_rfl
 have e3 : Tryd.prog.cellsOf 31 = 1 := by kernel_rfl
 have e4 : Tryd.prog.cellsOf 32 = 1 := by kernel_rfl
 have e5 : Tryd.prog.cellsOf 33 = 1 := by kernel_rfl
 rw [hct] at hlc
 match cs, hlc with
 | [c0, c1, c2, c3, c4, c5], _ =>
   match xs, hlen with
   | [x0, x1, x2, x3, x4, x5], _ =>
     have h0 := hel 0 _ rfl
     have h1 := hel 1 _ rfl
     have h2 := hel 2 _ rfl
     have h3 := hel 3 _ rfl
     have h4 := hel 4 _ rfl
     have h5 := hel 5 _ rfl
     simp [e1, e2, e3, e4, e5] at h0 h1 h2 h3 h4 h5
     obtain ⟨n0, q0, _, w0⟩ := DataW.trod_int Tryd.underlying29 h0
     obtain ⟨n1, q1, _, w1⟩ := DataW.trod_int Tryd.underlying30 h1
     obtain ⟨n2, q2, _, w2⟩ := DataW.trod_int Tryd.underlying31 h2
     obtain ⟨n3, q3, _, w3⟩ := DataW.trod_int Tryd.underlying31 h3
     obtain ⟨da, dc, zs, q4, hz⟩ := isB_trod Tryd.underlying32 Tryd.underlying5 (by kernel_rfl) h4 hsp
     obtain ⟨ka, kc, ks, q5, hk⟩ := isKs_trod Tryd.underlying33 h5 hsp
     have nd := slice_nil Tryd.underlying32 h4 q4
     have nk := slice_nil Tryd.underlying33 h5 q5
     simp at q0 q1 q2 q3
     subst q0 q1 q2 q3 q4 q5
     exact ⟨⟨n0, n1, n2, n3, da, dc, zs, ka, kc, ks⟩, rfl, ⟨bd_u32 w0, bd_u8 w1, bd_u16r w2, bd_u16r w3, hz, hk⟩, nd, nk⟩
theorem isNs_trodN {H : Type} {enc : TypeId × Value → H} {W : World} {t : TypeId} {v : Value} {fuel : Nat} {y : DataW H × List MemPlace} {sp : Nat → Bool} {hd : Bool} {b0 : Nat} (ht : Tryd.prog.underlying t = some (.slice 35))
   (hf : DataW.trod enc Tryd.prog W b0 sp hd fuel t [v] = some y) (hsp : ∀ k, sp k = true) : ∃ a cap, ∃ l : List Nd, v = .slice a l.length cap ∧ IsNs W a l ∧ (∀ x ∈ l, x.Nil) ∧ l.length ≤ cap := by
 have hct : Tryd.prog.cellsOf 35 = 6 := by kernel_rfl
 rcases DataW.trod_slice ht hf with ⟨hcs, _⟩ | ⟨x, len, c, elems, rest, n, _, hcs, _, hb, hl, hm, hlen, hel, _⟩
 · simp at hcs
   exact ⟨none, 0, [], hcs, ⟨Nat.zero_le _, (fun x hx => by cases hx), (fun h => absurd h (by simp))⟩, (fun x hx => by cases hx), by simp⟩
 · simp at hcs
   rw [hct] at hel
   have each : ∀ i, i < len → ∃ q : Nd, (∀ j, j < 6 → W.cell? ((x.add (i * 6)).add j) = (q.cells)[j]?) ∧ q.Ok W ∧ q.Nil := by
     intro i hi
     have h1 := hel i (by omega)
     have h2 : elems[i]? = some elems[i] := List.getElem?_eq_getElem (by omega)
     rw [h2, Option.bind_eq_some_iff] at h1
     obtain ⟨cs, hc, hy⟩ := h1
     obtain ⟨q, hq, hw⟩ := trod_nodeN hy hsp
     obtain ⟨_, hl6, hg⟩ := World.cells?_some hc
     refine ⟨q, fun j hj => ?_, hw⟩
     rw [hg j hj, hq]
   obtain ⟨f, hf'⟩ : ∃ f : Nat → Nd, ∀ i, i < len → (∀ j, j < 6 → W.cell? ((x.add (i * 6)).add j) = ((f i).cells)[j]?) ∧ (f i).Ok W ∧ (f i).Nil := by
     classical
     refine ⟨fun i => if h : i < len then (each i h).choose else Nd.no, fun i hi => ?_⟩
     simp only [hi, dif_pos]
     exact (each i hi).choose_spec
   refine ⟨some x, c, (List.range len).map f, by simpa using hcs, ⟨by simp; omega, fun q hq => ?_, fun hp => ?_⟩, fun q hq => ?_, by simp; omega⟩
   · obtain ⟨i, hi, rfl⟩ := List.mem_map.1 hq
     exact (hf' i (List.mem_range.1 hi)).2.1
   · rw [List.length_map, List.length_range] at hp
     obtain ⟨b, off, spot⟩ := x
     have hc0 := (hf' 0 hp).1 0 (by omega)
     have hspot : spot = none := by
       have e0 : ((f 0).cells)[0]? = some (.int .u32 (f 0).fid) := rfl
       rw [e0] at hc0
       simpa [Addr.add] using World.cell?_spot hc0
     subst hspot
     refine ⟨b, off, rfl, fun i hi => ?_⟩
     rw [List.length_map, List.length_range] at hi
     have hadd : ∀ j, ((⟨b, off, none⟩ : Addr).add (i * 6)).add j = ⟨b, off + i * 6 + j, none⟩ := fun j => by unfold Addr.add; split <;> split <;> simp_all <;> omega
     have key := (hf' i hi).1
     have g : ((List.range len).map f).getD i Nd.no = f i := by simp [List.getD, hi]
     rw [g]
     intro j u hu
     have hj : j < 6 := by
       have := (List.getElem?_eq_some_iff.1 hu).1
       simpa [Nd.cells] using this
     have kj := key j hj
     rw [hadd] at kj
     rw [kj]; exact hu
   · obtain ⟨i, hi, rfl⟩ := List.mem_map.1 hq
     exact (hf' i (List.mem_range.1 hi)).2.2
theorem isNs_of {H : Type} {enc : TypeId × Value → H} {W : World} {t : TypeId} {a : Option Addr} {len cap : Nat} {d : DataW H} {p : List MemPlace} (ht : Tryd.prog.underlying t = some (.slice 35))
   (h : DataW.Trod enc Tryd.prog W 0 (fun _ => true) true t (.slice a len cap) d p) : ∃ l : List Nd, l.length = len ∧ (IsNs W a l ∧ ∀ x ∈ l, x.Nil) ∧ len ≤ cap := by
 obtain ⟨fuel, hf⟩ := h
 obtain ⟨a', cap', l, hv, h1, h2, h3⟩ := isNs_trodN ht hf (fun _ => rfl)
 simp only [Value.slice.injEq] at hv
 obtain ⟨rfl, rfl, rfl⟩ := hv
 exact ⟨l, rfl, ⟨h1, h2⟩, h3⟩
end Go.Proofs.YtkokjkaclcjnjaaDoor
namespace Go.Proofs.YtkokjkaclcjnjaaDoor
open Go.RowKit Go.ChangeShapes Go.WideShapes Go.ChangeAt
set_option linter.unusedVariables false
set_option linter.unusedSimpArgs false
set_option maxRecDepth 100000
theorem RowAt.setLow {w : World} {base : Nat} {t : TypeId} {p : Option Addr} {vs : List Value} (h : RowAt w base t p vs) {g o : Nat} {v : Value} (hg : g < base) : RowAt (w.setCell ⟨g, o, none⟩ v) base t p vs := by
 rcases h with h | ⟨k, cs, fr, h1, h2, h3, h4⟩
 · exact .inl h
 · exact .inr ⟨k, cs, fr, h1, h2, by rw [heap_setCell_other _ _ _ _ (by show k ≠ g; omega)]; exact h3, h4⟩
end Go.Proofs.YtkokjkaclcjnjaaDoor
