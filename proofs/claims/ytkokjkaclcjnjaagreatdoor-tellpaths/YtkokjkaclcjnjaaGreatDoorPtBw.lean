/-
  What TellPaths asks beside: the tree of operations is right; entries and links counted; paths are short.
-/
import Derived.Test.YtkokjkaclcjnjaaGreatDoorPtBh
import Derived.Test.YtkokjkaclcjnjaaGreatDoorPtBc
import Derived.Test.YtkokjkaclcjnjaaGreatDoorPtBs
import Derived.Test.YtkokjkaclcjnjaaGreatDoorPtBv
namespace Go.Proofs.YtkokjkaclcjnjaaGreatDoor
open Go.RowKit Go.ChangeShapes Go.WideShapes Go.ChangeAt Go.Maps Go.Shelf
set_option linter.unusedVariables false
set_option linter.unusedSimpArgs false
set_option maxRecDepth 100000
theorem tpNew : Rt newL := rightD_rt.1 (by decide)
theorem tpFold : ∀ {ops : List Rec} {l : List Nd} (h : Rt l) (hw : ∀ x ∈ ops, x.Wf) (e : List Int), Rt (ops.foldl foldS (l, e)).1
 | [], l, h, hw, e => h
 | o :: ops, l, h, hw, e => by
   rw [List.foldl_cons]
   have h1 : Rt (foldS (l, e) o).1 := by
     simp only [foldS]
     split
     · rename_i q
       exact ApplyL_rt (hw o List.mem_cons_self) q
     · exact h
   exact tpFold h1 (fun x hx => hw x (List.mem_cons_of_mem _ hx)) _
theorem tpFoldL {ops : List Rec} (hw : ∀ x ∈ ops, x.Wf) : Rt (FoldL newL ops).1 := by
 unfold FoldL
 rw [if_pos (rightD_rt.2 tpNew)]
 exact tpFold tpNew hw _
def FoR (w : World) (e : Ending) (w' : World) : Prop := ∃ a c L b k d, e = .returned (.tuple #[.slice a (List.length L) c, .slice b k d]) ∧ Tr w' a L ∧ Rt L ∧ Below w.heap.size w w'
theorem tpFold_c {a b : Option Addr} (c cap : Nat) {ops : List Rec} {n : Nat} {w : World} (ht : Tr w b newL) (ho : IsOs w a ops) (hn : ops.length = n) (h40 : n ≤ 40) :
   Calls Tryz.prog 4 #[.slice b 1 c, .slice a n cap] w (FoR w) := by
 subst hn
 refine (rFold_c b a c cap newL ops w ht ho (by decide) (by omega)).mono ?_
 rintro e w' ⟨a', c', L, b', d', rfl, h1, h2, h3, h4⟩
 have R : Rt L := rightD_rt.1 (by
   rw [← rightD_er, h2]
   exact rightD_rt.2 (tpFoldL ho.2.1))
 exact ⟨a', c', L, b', _, d', rfl, h1, R, h4⟩
theorem bel_size {l : List Nd} (R : Rt l) : ∀ (k : Nat) (f : Int) (p s : ByteArray), s ∈ belF l k f p → s.size ≤ p.size + k * 1001
 | 0, f, p, s, h => by cases h
 | k + 1, f, p, s, h => by
   obtain ⟨x, hx, hs⟩ := List.mem_flatMap.1 (show s ∈ (kidsF l f).flatMap fun x => ownB p x :: belF l k x.fid (ownB p x) from h)
   have h1 := (kidsF_small R f).2 x hx
   have h2 : (ownB p x).size = p.size + 1 + x.nm.size := by
     have := congrArg List.length (own_data p x)
     have q : ∀ y : ByteArray, y.data.toList.length = y.size := fun _ => rfl
     rw [List.length_append, List.length_cons, q, q, q] at this
     omega
   rcases List.mem_cons.1 hs with e | e
   · rw [e]; omega
   · have := bel_size R k x.fid (ownB p x) s e
     omega
def entN (l : List Nd) (m : Nat) : Nat := wsm (fun x => x.ks.length) (l.take m)
def lnkN (l : List Nd) (m : Nat) : Nat := ((l.take m).filter fun x => x.k == 3).length
theorem entN_succ {l : List Nd} {i : Nat} (hi : i < l.length) : entN l (i + 1) = entN l i + (l.getD i Nd.no).ks.length := by
 unfold entN wsm
 rw [List.take_succ_eq_append_getElem hi, List.map_append, List.sum_append, List.getD, List.getElem?_eq_getElem hi]
 simp only [List.map_cons, List.map_nil, List.sum_cons, List.sum_nil, Option.getD_some, Nat.add_zero]
theorem lnkN_succ {l : List Nd} {i : Nat} (hi : i < l.length) : lnkN l (i + 1) = lnkN l i + (if (l.getD i Nd.no).k = 3 then 1 else 0) := by
 unfold lnkN
 rw [List.take_succ_eq_append_getElem hi, List.getD, List.getElem?_eq_getElem hi, List.filter_append, List.length_append]
 by_cases e : l[i].k = 3
 · simp [e]
 · simp [e]
theorem entN_few {l : List Nd} (R : Rt l) : ∀ i, entN l i ≤ i * 12
 | 0 => by simp [entN, wsm]
 | i + 1 => by
   have ih := entN_few R i
   by_cases hi : i < l.length
   · rw [entN_succ hi]
     have := nodeOk_few (R.ok _ (getD_mem l Nd.no hi)).1
     omega
   · unfold entN at ih ⊢
     rw [List.take_of_length_le (by omega)] at ih ⊢
     omega
theorem lnkN_few (l : List Nd) (i : Nat) : lnkN l i ≤ i := by
 unfold lnkN
 refine Nat.le_trans (List.length_filter_le _ _) ?_
 rw [List.length_take]
 omega
theorem lnkN_none {l : List Nd} (h : lnkN l l.length = 0) : ∀ x ∈ l, x.k ≠ 3 := by
 intro x hx e
 unfold lnkN at h
 rw [List.take_length] at h
 have := List.eq_nil_of_length_eq_zero h
 have hm : x ∈ l.filter fun x => x.k == 3 := List.mem_filter.2 ⟨hx, by simp [e]⟩
 rw [this] at hm
 cases hm
theorem entN_all {l : List Nd} (R : Rt l) (p : ByteArray) : (belF l (l.length + 1) 1 p).length = entN l l.length := by
 rw [bel_count R]
 unfold entN
 rw [List.take_length]
def FdQ (l : List Nd) (s : ByteArray) (w : World) (e : Ending) (w' : World) : Prop :=
 (∃ f er : Int, e = .returned (.tuple #[.int .u32 f, .int .i64 er]) ∧ (lnkN l l.length = 0 → s.size ≤ 120 → er = 0 ∧ ∃ y, getF l f = some y ∧ y.fid ≠ 1)) ∧ Below w.heap.size w w'
theorem find_q {a : Option Addr} {cap : Nat} {l : List Nd} (R : Rt l) {s : ByteArray} {w : World} {m : Int} (h : IsNs w a l) (hmx : w.cell? ⟨Tryz.lays146_ren.g 1, 0, none⟩ = some (.int .i64 m)) (hm : s ∈ belF l (l.length + 1) 1 ⟨#[]⟩) :
   Calls Tryz.prog 7 #[.slice a l.length cap, .string s] w (FdQ l s w) := by
 have hsz := bel_size R _ _ _ _ hm
 have h40 := R.few
 have hs : s.size ≤ maxLen := by
   have : (l.length + 1) * 1001 ≤ 41 * 1001 := Nat.mul_le_mul_right _ (by omega)
   have h0 : (⟨#[]⟩ : ByteArray).size = 0 := rfl
   unfold maxLen
   omega
 refine (rfind_c R s w m h hmx hs).mono ?_
 rintro e w' ⟨⟨f, er, rfl, hf⟩, hb⟩
 refine ⟨⟨f, er, rfl, fun h0 h1 => ?_⟩, hb⟩
 obtain ⟨ns, g, q1, q2, q3, q4⟩ := bel_split R hm h1
 obtain ⟨rfl, q5⟩ := hf (lnkN_none h0) ns g q1 q2
 obtain ⟨y, hy⟩ := Option.isSome_iff_exists.1 q4
 exact ⟨q5, y, hy, by rw [(getF_mem hy).2]; exact q3⟩
end Go.Proofs.YtkokjkaclcjnjaaGreatDoor
