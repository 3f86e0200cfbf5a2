/-
  The document's Same, of the same contents. (Written by nodebase.py out of SnapSame.)
  The document's tree: Apply, New.
  The document's tree: operations in memory; New, Fold.
  The package tree: copies of nodes (copyOf, slices.Clone), where a fid, an entry stands (placeOf, entryOf, slices.IndexFunc), New.
-/
import Derived.Test.YtloojakcknnilaaGreatSyAi
import Derived.BigQuiet
import Derived.Laws.IdiomStrings
import Derived.Deep.RegionHeld3
import Derived.Lib.UnsafeStr
namespace Go.Proofs.YtloojakcknnilaaGreat
open Go.RowKit Go.ChangeShapes Go.WideShapes Go.ChangeAt Go.Maps Go.Shelf
set_option linter.unusedVariables false
set_option linter.unusedSimpArgs false
set_option maxRecDepth 100000
end Go.Proofs.YtloojakcknnilaaGreat
namespace Go.Proofs.YtloojakcknnilaaGreat
open Go.RowKit Go.ChangeShapes Go.WideShapes Go.ChangeAt Go.Maps Go.Shelf
set_option linter.unusedVariables false
set_option linter.unusedSimpArgs false
set_option maxRecDepth 100000
/-- A tree behind an operation, or the error. -/
def ApplyL (l : List Nd) (o : Rec) : Int × List Nd := if (rightD l && rightF o) = true then applyL l o else (3, [])
theorem rightD_er (l : List Nd) : rightD (l.map Nd.er) = rightD l := by
  rw [Bool.eq_iff_iff, ← rightD_iff, ← rightD_iff]
  exact right_er l
theorem rightF_dt {o : Rec} (h : rightF o = true) : o.dt.size ≤ 64 := by
  unfold rightF at h
  simp only [Bool.and_eq_true] at h
  have h1 : datF (pData o.k) o.dt = true := by
    obtain ⟨_, h2⟩ := h
    simp_all
  unfold datF at h1
  split at h1
  · exact of_decide_eq_true h1
  · have := (ba_nil o.dt).1 h1
    rw [this]; decide
theorem rightF_k {o : Rec} (h : rightF o = true) : 1 ≤ o.k ∧ o.k ≤ 9 := by
  cases hp : pOk o.k with
  | true => exact pOk_lo hp
  | false => rw [right_no hp] at h; cases h
/-- An error comes with no nodes; they are few. -/
def Gd (n : Nat) (r : Int × List Nd) : Prop := (r.1 ≠ 0 → r.2 = []) ∧ r.2.length ≤ n
theorem Gd.err (n : Nat) (c : Int) : Gd n (c, []) := ⟨fun _ => rfl, Nat.zero_le _⟩
theorem Gd.ok {n : Nat} {L : List Nd} (h : L.length ≤ n) : Gd n (0, L) := ⟨fun h => absurd rfl h, h⟩
theorem Gd.ite {n : Nat} {c : Prop} [Decidable c] {a b : Int × List Nd} (h1 : Gd n a) (h2 : Gd n b) : Gd n (if c then a else b) := by split <;> assumption
theorem applyL_gd (l : List Nd) (o : Rec) : Gd (l.length + 3) (applyL l o) := by
  have s1 := fun (m : List Nd) (x : Nd) => setL_len m x
  have s2 := fun (m : List Nd) (x : Nd) => lessL_len m x
  unfold applyL
  refine Gd.ite ?_ (Gd.ite ?_ (Gd.ite ?_ (Gd.ite ?_ ?_)))
  · exact Gd.ite (Gd.err _ _) (Gd.ite (Gd.err _ _) (Gd.ite (Gd.err _ _) (Gd.ok (Nat.le_trans (s1 _ _) (by have := s1 l ((dirN (getF l o.dir)).kids none 0 (entL (dirN (getF l o.dir)).ks o.nm o.fid)); omega)))))
  · exact Gd.ite (Gd.err _ _) (Gd.ite (Gd.err _ _) (Gd.ite (Gd.err _ _) (Gd.ite (Gd.err _ _) (Gd.ite (Gd.err _ _) (Gd.ok (Nat.le_trans (s1 _ _) (by have := s1 l ((dirN (getF l o.dir)).kids none 0 (entL (dirN (getF l o.dir)).ks o.nm o.fid)); omega)))))))
  · exact Gd.ite (Gd.err _ _) (Gd.ite (Gd.err _ _) (Gd.ite (Gd.err _ _) (Gd.ite (Gd.err _ _) (Gd.ok (Nat.le_trans (s2 _ _) (by have := s1 l (((getF l o.dir).getD Nd.no).kids none 0 (entL ((getF l o.dir).getD Nd.no).ks o.nm 0)); omega))))))
  · refine Gd.ite (Gd.err _ _) (Gd.ite (Gd.err _ _) (Gd.ite (Gd.err _ _) (Gd.ite (Gd.ok (by omega)) (Gd.ite (Gd.err _ _) (Gd.ite (Gd.err _ _) (Gd.ite (Gd.err _ _) (Gd.ite (Gd.err _ _) (Gd.ok ?_))))))))
    have hf : ∀ q : Option Nd, (freeL l q).length ≤ l.length + 1 := fun q => by
      cases q with
      | none => simp [freeL]
      | some x => exact s2 l x
    unfold movedL
    refine Nat.le_trans (s1 _ _) ?_
    refine Nat.le_trans (Nat.succ_le_succ (s1 _ _)) ?_
    have := hf (getF l (kidI (dirN (getF l o.to)).ks o.nm2))
    omega
  · exact Gd.ite (Gd.err _ _) (Gd.ite (Gd.ok (by have := s1 l ⟨((getF l o.fid).getD Nd.no).fid, ((getF l o.fid).getD Nd.no).k, o.md, ((getF l o.fid).getD Nd.no).ln, none, 0, ((getF l o.fid).getD Nd.no).zs, none, 0, ((getF l o.fid).getD Nd.no).ks⟩; omega)) (Gd.ite (Gd.err _ _) (Gd.ite (Gd.err _ _) (Gd.ok (by have := s1 l ⟨((getF l o.fid).getD Nd.no).fid, ((getF l o.fid).getD Nd.no).k, ((getF l o.fid).getD Nd.no).md, ((getF l o.fid).getD Nd.no).ln, none, 0, txB o.dt, none, 0, ((getF l o.fid).getD Nd.no).ks⟩; omega)))))
theorem ApplyL_gd (l : List Nd) (o : Rec) : Gd 43 (ApplyL l o) := by
  unfold ApplyL
  split
  · rename_i h
    rw [Bool.and_eq_true] at h
    have h40 := (rightD_tok h.1).1.few
    obtain ⟨h1, h2⟩ := applyL_gd l o
    exact ⟨h1, by omega⟩
  · exact Gd.err _ _
/-- What Apply answers: nodes that are all its own. -/
def NsO (w : World) (base : Nat) (v : Value) (l : List Nd) : Prop := OwN w base v l ∧ ∀ x ∈ l, NdR w base x
theorem NsO.nil (w : World) (base : Nat) : NsO w base (.slice none 0 0) [] := ⟨OwN.nil _ _, fun x hx => by cases hx⟩
theorem NsO.later {w w' : World} {base : Nat} {v : Value} {l : List Nd} (h : NsO w base v l) (hb : Below w.heap.size w w') : NsO w' base v l := ⟨h.1.later hb, fun x hx => (h.2 x hx).later hb⟩
theorem NsO.low {w : World} {base b : Nat} {v : Value} {l : List Nd} (h : NsO w base v l) (hb : b ≤ base) : NsO w b v l := ⟨own_low h.1 hb, fun x hx => (h.2 x hx).low hb⟩
theorem NsO.tr {w : World} {base : Nat} {v : Value} {l : List Nd} (h : NsO w base v l) (hm : l.length ≤ 100000) : ∃ a c, v = .slice a l.length c ∧ Tr w a l := Tr.of h.1 (fun x hx => (h.2 x hx).p) hm
def ResO (w : World) (r : Int × List Nd) (e : Ending) (w' : World) : Prop := ∃ v l', e = .returned (.tuple #[v, .int .i64 r.1]) ∧ NsO w' w.heap.size v l' ∧ l'.map Nd.er = r.2 ∧ Below w.heap.size w w'
theorem ResO.err {w w' : World} {r : Int × List Nd} {c : Int} (h : r = (c, [])) (hb : Below w.heap.size w w') : ResO w r (.returned (.tuple #[.slice none 0 0, .int .i64 c])) w' := ⟨_, [], by rw [h], NsO.nil _ _, by rw [h]; rfl, hb⟩
end Go.Proofs.YtloojakcknnilaaGreat
namespace Go.Proofs.YtloojakcknnilaaGreat
open Go.RowKit Go.ChangeShapes Go.WideShapes Go.ChangeAt Go.Maps Go.Shelf
set_option linter.unusedVariables false
set_option linter.unusedSimpArgs false
set_option maxRecDepth 100000
/-- Operations that lie in memory. -/
def IsOs (w : World) (a : Option Addr) (l : List Rec) : Prop :=
  l.length ≤ maxLen ∧ (∀ x ∈ l, x.Wf) ∧ (0 < l.length → ∃ b off, a = some ⟨b, off, none⟩ ∧ ∀ i, i < l.length → ∀ j v, (l.getD i Rec.no).ops[j]? = some v → w.cell? ⟨b, off + i * 8 + j, none⟩ = some v)
theorem IsOs.later {w w' : World} {a : Option Addr} {l : List Rec} (h : IsOs w a l) (hb : Below w.heap.size w w') : IsOs w' a l := by
  obtain ⟨h1, h2, h3⟩ := h
  refine ⟨h1, h2, fun hp => ?_⟩
  obtain ⟨b, off, e, hc⟩ := h3 hp
  exact ⟨b, off, e, fun i hi j v hv => cell_later hb (hc i hi j v hv)⟩
theorem IsOs.at {w : World} {b off : Nat} {l : List Rec} {i : Nat} (h : IsOs w (some ⟨b, off, none⟩) l) (hi : i < l.length) : ∀ j v, (l.getD i Rec.no).ops[j]? = some v → w.cell? ⟨b, off + i * 8 + j, none⟩ = some v := by
  obtain ⟨b', off', e, hc⟩ := h.2.2 (by omega)
  cases e
  exact hc i hi
theorem IsOs.wf {w : World} {a : Option Addr} {l : List Rec} (h : IsOs w a l) {i : Nat} (hi : i < l.length) : (l.getD i Rec.no).Wf := h.2.1 _ (getD_mem l Rec.no hi)
theorem IsOs.take {w : World} {a : Option Addr} {l : List Rec} (h : IsOs w a l) (n : Nat) : IsOs w a (l.take n) := by
  refine ⟨by have := h.1; rw [List.length_take]; omega, fun x hx => h.2.1 x (List.mem_of_mem_take hx), fun hp => ?_⟩
  rw [List.length_take] at hp
  obtain ⟨b, off, e, hc⟩ := h.2.2 (by omega)
  refine ⟨b, off, e, fun i hi j v hv => ?_⟩
  rw [List.length_take] at hi
  refine hc i (by omega) j v ?_
  rw [show (l.take n).getD i Rec.no = l.getD i Rec.no by simp [List.getD, List.getElem?_take, show i < n by omega]] at hv
  exact hv
/-- Errors in a row that the call owns; in memory. -/
def erV (x : Int) : Value := .int .i64 x
def OwE (w : World) (base : Nat) (v : Value) (es : List Int) : Prop := w.ownsRow base 30 1 v es.length (es.map erV)
theorem OwE.nil (w : World) (base : Nat) : OwE w base (.slice none 0 0) [] := World.ownsRow_nil _ _ _ _
theorem OwE.later {w w' : World} {base : Nat} {v : Value} {L : List Int} (h : OwE w base v L) (hb : Below w.heap.size w w') : OwE w' base v L := own_latR h hb
theorem OwE.shape {w : World} {base : Nat} {v : Value} {L : List Int} (h : OwE w base v L) : ∃ a cap, v = .slice a L.length cap := by
  rcases h.2 with ⟨hv, hn⟩ | ⟨g, cap, cur, hv, hrest⟩
  · exact ⟨none, 0, by rw [hv, hn]⟩
  · exact ⟨_, _, hv⟩
def IsEs (w : World) (a : Option Addr) (es : List Int) : Prop := 0 < es.length → ∃ b off, a = some ⟨b, off, none⟩ ∧ ∀ i, i < es.length → w.cell? ⟨b, off + i, none⟩ = some (erV (es.getD i 0))
theorem IsEs.later {w w' : World} {a : Option Addr} {es : List Int} (h : IsEs w a es) (hb : Below w.heap.size w w') : IsEs w' a es := fun hp => by
  obtain ⟨b, off, e, hc⟩ := h hp
  exact ⟨b, off, e, fun i hi => cell_later hb (hc i hi)⟩
theorem OwE.is {w : World} {base : Nat} {v : Value} {L : List Int} (h : OwE w base v L) : ∃ a cap, v = .slice a L.length cap ∧ IsEs w a L := by
  rcases h.2 with ⟨hv, hn⟩ | ⟨g, cap, cur, hv, hrest⟩
  · exact ⟨none, 0, by rw [hv, hn], fun hp => by rw [hn] at hp; cases hp⟩
  · refine ⟨_, _, hv, fun hp => ⟨g, 0, rfl, fun i hi => ?_⟩⟩
    have e := h.cells (g := g) (by rw [hv]; rfl) i (erV (L.getD i 0)) (by simp [List.getElem?_map, List.getD, hi])
    rw [← e]
    congr 1
    unfold Addr.add
    split
    · rename_i q; simp [q]
    · simp
theorem own_other {w w' : World} {base b e e' size size' n n' : Nat} {v u : Value} {xs ys : List Value} (h : w.ownsRow base e size v n xs) (k : w.ownsRow b e' size' u n' ys) (hne : e ≠ e') (hg : w.grownBy w' u.ownBlock) : w'.ownsRow base e size v n xs := by
  refine ⟨h.1, ?_⟩
  rcases h.2 with q | ⟨g, cap, cur, hv, hb, hh, hr⟩
  · exact .inl q
  · refine .inr ⟨g, cap, cur, hv, hb, (hg.block g (lt_blkR hh) (fun q => ?_)).trans hh, hr⟩
    rcases k.2 with ⟨rfl, _⟩ | ⟨g', cap', cur', rfl, _, hh', _⟩
    · cases q
    · cases q
      rw [hh'] at hh
      cases hh
      exact hne rfl
/-- The tree of nothing but a root. -/
def newL : List Nd := [⟨1, 2, 0, 0, none, 0, [], none, 0, []⟩]
/-- One step of Fold. -/
def foldS (p : List Nd × List Int) (o : Rec) : List Nd × List Int := (if (ApplyL p.1 o).1 = 0 then (ApplyL p.1 o).2 else p.1, p.2 ++ [(ApplyL p.1 o).1])
/-- A tree behind those operations that could be done, and the error of each. -/
def FoldL (l : List Nd) (ops : List Rec) : List Nd × List Int := if rightD l = true then ops.foldl foldS (l, []) else ([], List.replicate ops.length 3)
theorem foldS_len (l : List Nd) (ops : List Rec) (m : Nat) (hm : m ≤ ops.length) : ((ops.take m).foldl foldS (l, [])).2.length = m := by
  induction m with
  | zero => rfl
  | succ m ih =>
    rw [fold_take _ _ _ Rec.no (by omega)]
    simp only [foldS, List.length_append, List.length_cons, List.length_nil]
    rw [ih (by omega)]
/-- What Fold answers. -/
def FoP (w : World) (r : List Nd × List Int) (e : Ending) (w' : World) : Prop := ∃ a c l b d, e = .returned (.tuple #[.slice a l.length c, .slice b r.2.length d]) ∧ Tr w' a l ∧ l.map Nd.er = r.1 ∧ IsEs w' b r.2 ∧ Below w.heap.size w w'
end Go.Proofs.YtloojakcknnilaaGreat
namespace Go.Proofs.YtloojakcknnilaaGreat
open Go.RowKit Go.ChangeShapes Go.WideShapes Go.ChangeAt Go.Maps Go.Shelf
set_option linter.unusedVariables false
set_option linter.unusedSimpArgs false
set_option maxRecDepth 100000
/-- A node that the call owns: its data lie in a row of their own, its entries in one that may grow. -/
def NdW (w : World) (base : Nat) (x : Nd) : Prop := x.Fit ∧ x.Nil ∧ RowAt w base 5 x.da (x.zs.map u8V) ∧ OwK w base (.slice x.ka x.ks.length x.kc) x.ks
theorem NdW.later {w w' : World} {base : Nat} {x : Nd} (h : NdW w base x) (hb : Below w.heap.size w w') : NdW w' base x := ⟨h.1, h.2.1, h.2.2.1.later hb, h.2.2.2.later hb⟩
theorem NdW.low {w : World} {base b : Nat} {x : Nd} (h : NdW w base x) (hb : b ≤ base) : NdW w b x := ⟨h.1, h.2.1, h.2.2.1.lowR hb, own_low h.2.2.2 hb⟩
theorem NdW.r {w : World} {base : Nat} {x : Nd} (h : NdW w base x) : NdR w base x := ⟨h.1, h.2.1, h.2.2.1, RowAt.own h.2.2.2 rfl (fun e => by rw [List.eq_nil_of_length_eq_zero e]; rfl)⟩
theorem NdP.fit {w : World} {x : Nd} (h : NdP w x) : x.Fit := by
  obtain ⟨⟨h1, h2, h3, h4, h5, h6⟩, _, h7, h8⟩ := h
  exact ⟨h1, h2, h3, h4, h5.2.2.2, h6.2.1, h7, h8⟩
set_option maxHeartbeats 1000000 in
theorem cloneB_c (a : Option Addr) (c : Nat) (zs : List Int) (w : World) (h : IsB w a zs.length zs) (hc : a = none → c = 0) (hm : zs.length ≤ 1000) :
    Calls Tryz.prog 77 #[.slice a zs.length c] w fun e w' => ∃ a' c', e = .returned (.slice a' zs.length c') ∧ (a' = none → c' = 0) ∧ RowAt w' w.heap.size 5 a' (zs.map u8V) ∧ Below w.heap.size w w' := by
  have H := hid h
  have HC := hid hc
  cases a with
  | none =>
    have hz : zs = [] := by
      cases zs with
      | nil => rfl
      | cons y ys => obtain ⟨b, off, e, _⟩ := h.2.2.1 (by simp); cases e
    have hc0 := hc rfl
    subst hz hc0
    clear h hc
    have hq : ∀ w, (binOp .eql 55 (.slice none 0 0) (.slice none 0 0)).run Tryz.prog w = .ok (.bool true) w := fun w => Lib.run_eql_slice_nil w _ _ _ _ _ _ _ Tryz.underlying55
    go_enter Tryz.func77, Tryz.ntmps77
    go_wp2
    go_ret
    exact ⟨none, 0, rfl, fun _ => rfl, .inl rfl, Below.refl _ _⟩
  | some ad =>
    obtain ⟨n, hn⟩ : ∃ n, n = zs.length := ⟨_, rfl⟩
    have HN := hid hn
    rw [← hn] at H hm ⊢
    clear h hc hn
    have hq : ∀ w, (binOp .eql 55 (.slice (some ad) n c) (.slice none 0 0)).run Tryz.prog w = .ok (.bool false) w := fun w => Lib.run_eql_slice_nil w _ _ _ _ _ _ _ Tryz.underlying55
    go_enter Tryz.func77, Tryz.ntmps77
    go_wp2_with (at_builtin; refine wpList_cpB _ rfl _ _ rfl w.heap.size rfl (heap_alloc_new w _) (some ad) n c zs rfl (H.out.later (below_1 _ _)) HC.out (by omega) ?_; intro v3 w3 hO3 hg3)
    go_ret
    obtain ⟨a3, c3, hv3, hn3, hr3⟩ := hO3.shapeR
    exact ⟨a3, c3, by rw [hv3, HN.out]; rfl, hn3, hr3, (below_1 w _).grown hg3 (below_1 w _).size (fun k hk => by cases hk; exact Nat.le_refl _)⟩
set_option maxHeartbeats 1000000 in
theorem cloneK_c (a : Option Addr) (c : Nat) (l : List Kd) (w : World) (h : IsKs w a l) (hc : a = none → c = 0) (hm : l.length ≤ 1000) :
    Calls Tryz.prog 78 #[.slice a l.length c] w fun e w' => ∃ a' c', e = .returned (.slice a' l.length c') ∧ OwK w' w.heap.size (.slice a' l.length c') l ∧ (a' = none → c' = 0) ∧ Below w.heap.size w w' := by
  have H := hid h
  have HC := hid hc
  cases a with
  | none =>
    have hz : l = [] := by
      cases l with
      | nil => rfl
      | cons y ys => obtain ⟨b, off, e, _⟩ := h.2.2 (by simp); cases e
    have hc0 := hc rfl
    subst hz hc0
    clear h hc
    have hq : ∀ w, (binOp .eql 56 (.slice none 0 0) (.slice none 0 0)).run Tryz.prog w = .ok (.bool true) w := fun w => Lib.run_eql_slice_nil w _ _ _ _ _ _ _ Tryz.underlying56
    go_enter Tryz.func78, Tryz.ntmps78
    go_wp2
    go_ret
    exact ⟨none, 0, rfl, OwK.nil _ _, fun _ => rfl, Below.refl _ _⟩
  | some ad =>
    obtain ⟨n, hn⟩ : ∃ n, n = l.length := ⟨_, rfl⟩
    have HN := hid hn
    rw [← hn] at hm ⊢
    clear h hc hn
    have hq : ∀ w, (binOp .eql 56 (.slice (some ad) n c) (.slice none 0 0)).run Tryz.prog w = .ok (.bool false) w := fun w => Lib.run_eql_slice_nil w _ _ _ _ _ _ _ Tryz.underlying56
    go_enter Tryz.func78, Tryz.ntmps78
    go_wp2_with (at_builtin; refine wpList_cpK _ rfl _ _ rfl w.heap.size rfl (heap_alloc_new w _) (some ad) n c l rfl (H.out.later (below_1 _ _)) HN.out HC.out (by omega) ?_; intro v3 w3 hO3 hg3)
    go_ret
    obtain ⟨a3, c3, hv3, hn3, _⟩ := hO3.shapeR
    subst hv3
    exact ⟨a3, c3, by rw [HN.out]; rfl, by rw [HN.out]; exact hO3, hn3, (below_1 w _).grown hg3 (below_1 w _).size (fun k hk => by cases hk; exact Nat.le_refl _)⟩
set_option maxHeartbeats 2000000 in
theorem copyOf_c (x : Nd) (w : World) (h : NdP w x) :
    Calls Tryz.prog 56 #[x.val] w fun e w' => ∃ da dc ka kc, e = .returned (x.lie da dc ka kc).val ∧ NdW w' w.heap.size (x.lie da dc ka kc) ∧ Below w.heap.size w w' := by
  have FT := hid h.fit
  obtain ⟨fid, k, md, ln, da, dc, zs, ka, kc, ks⟩ := x
  have b0 := below_1 w (.cells (⟨fid, k, md, ln, da, dc, zs, ka, kc, ks⟩ : Nd).cells.toArray 58)
  have h0 := heap_alloc_new w (.cells (⟨fid, k, md, ln, da, dc, zs, ka, kc, ks⟩ : Nd).cells.toArray 58)
  have b1 := below_1 (w.alloc (.cells (⟨fid, k, md, ln, da, dc, zs, ka, kc, ks⟩ : Nd).cells.toArray 58)) (.cells Nd.no.cells.toArray 58)
  have h1 := heap_alloc_new (w.alloc (.cells (⟨fid, k, md, ln, da, dc, zs, ka, kc, ks⟩ : Nd).cells.toArray 58)) (.cells Nd.no.cells.toArray 58)
  have hsz : (w.alloc (.cells (⟨fid, k, md, ln, da, dc, zs, ka, kc, ks⟩ : Nd).cells.toArray 58)).heap.size = w.heap.size + 1 := by simp
  rw [hsz] at h1
  have h0' := (b1.block _ (lt_blkR h0)).trans h0
  have bV := b0.trans (b1.mono b0.size)
  have hP := h.later bV
  have CB := hid (cloneB_c da dc zs _ hP.1.2.2.2.2.1 hP.2.1.1 hP.2.2.1)
  have KK := hid h.1.2.2.2.2.2
  have NK : Hid (ka = none → kc = 0) := hid h.2.1.2
  have LK : Hid (ks.length ≤ 1000) := hid h.2.2.2
  have LV : Hid (((w.alloc (.cells (⟨fid, k, md, ln, da, dc, zs, ka, kc, ks⟩ : Nd).cells.toArray 58)).alloc (.cells Nd.no.cells.toArray 58)).heap.size = w.heap.size + 2) := hid (by simp)
  have BV := hid bV
  simp only at KK
  simp only [Nd.val, Nd.cells, Nd.no, List.length_nil, Nd.lie] at *
  clear b0 b1 h0 h hP hsz bV
  have H0 := hid h0'
  have H1 := hid h1
  go_enter Tryz.func56, Tryz.ntmps56
  go_upto_region 1 with fail
  generalize ((w.alloc (.cells #[.int .u32 fid, .int .u8 k, .int .u16 md, .int .u16 ln, .slice da zs.length dc, .slice ka ks.length kc] 58)).alloc (.cells #[.int .u32 0, .int .u8 0, .int .u16 0, .int .u16 0, .slice none 0 0, .slice none 0 0] 58)) = V at *
  obtain ⟨B, hB⟩ : ∃ B, w.heap.size = B := ⟨_, rfl⟩
  have HBB := hid hB
  rw [hB] at h0' h1 H0 H1 LV BV ⊢
  clear hB
  have x4 : V.cell? ⟨B, 4, none⟩ = some (.slice da zs.length dc) := cell_of_row2 h0' 4 rfl
  clear h0' h1
  go_upto_region 2 with (go_at_call 77; refine CB.out.mono ?_; rintro _ w1 ⟨da1, dc1, rfl, hn1, hr1, hb1⟩
                         have bx := (hb1.block _ (lt_blkR H0.out)).trans H0.out
                         have fz : ∀ i, w1.frozen? ⟨B, i, none⟩ = false := fun i => by simp [World.frozen?, bx]
                         have y4 : w1.cell? ⟨B, 4, none⟩ = some (.slice da zs.length dc) := cell_of_row2 bx 4 rfl
                         have BX := hid bx
                         have R1 := hid hr1
                         have N1 := hid hn1
                         have K1 := hid hb1
                         clear bx hr1 hn1 hb1 x4)
  have bx2 : (w1.setCell ⟨B, 4, none⟩ (.slice da1 zs.length dc1)).heap[B]? = some (.cells #[.int .u32 fid, .int .u8 k, .int .u16 md, .int .u16 ln, .slice da1 zs.length dc1, .slice ka ks.length kc] 58) := heap_setCell_same w1 B 4 _ _ _ BX.out
  have rx2 : (w1.setCell ⟨B, 4, none⟩ (.slice da1 zs.length dc1)).heap[B + 1]? = some (.cells #[.int .u32 0, .int .u8 0, .int .u16 0, .int .u16 0, .slice none 0 0, .slice none 0 0] 58) := (Below.heap_setCell _ _ _ _ (by simp)).trans ((K1.out.block _ (lt_blkR H1.out)).trans H1.out)
  have R2 := hid (R1.out.setR (q := ⟨B, 4, none⟩) BX.out (by decide) (.slice da1 zs.length dc1))
  have C2 : Hid (Below B w (w1.setCell ⟨B, 4, none⟩ (.slice da1 zs.length dc1))) := hid ((BV.out.trans (K1.out.mono (by have := LV.out; omega))).setCell (p := ⟨B, 4, none⟩) (Nat.le_refl _) _)
  have hl2 : B < (w1.setCell ⟨B, 4, none⟩ (.slice da1 zs.length dc1)).heap.size := lt_blkR bx2
  have BX2 := hid bx2
  have RX2 := hid rx2
  have SZ2 : Hid (B + 2 ≤ (w1.setCell ⟨B, 4, none⟩ (.slice da1 zs.length dc1)).heap.size) := hid (by have := lt_blkR rx2; omega)
  have KW : Hid (IsKs (w1.setCell ⟨B, 4, none⟩ (.slice da1 zs.length dc1)) ka ks) := hid (KK.out.later (by rw [HBB.out]; exact C2.out))
  clear fz y4 BX R1 K1 CB rx2
  generalize w1.setCell ⟨B, 4, none⟩ (.slice da1 zs.length dc1) = V2 at *
  have CK2 := hid (cloneK_c ka kc ks V2 KW.out NK.out LK.out)
  have x5 : V2.cell? ⟨B, 5, none⟩ = some (.slice ka ks.length kc) := cell_of_row2 bx2 5 rfl
  clear bx2
  go_upto_region 3 with (go_at_call 78; refine CK2.out.mono ?_; rintro _ w3 ⟨ka3, kc3, rfl, ho3, hn3, hb3⟩
                         have bx := (hb3.block _ (lt_blkR BX2.out)).trans BX2.out
                         have fz : ∀ i, w3.frozen? ⟨B, i, none⟩ = false := fun i => by simp [World.frozen?, bx]
                         have y5 : w3.cell? ⟨B, 5, none⟩ = some (.slice ka ks.length kc) := cell_of_row2 bx 5 rfl
                         have BX := hid bx
                         have RX := hid ((hb3.block _ (lt_blkR RX2.out)).trans RX2.out)
                         have O3 := hid ho3
                         have N3 := hid hn3
                         have R3 := hid (R2.out.later hb3)
                         have C3 := hid (C2.out.trans (hb3.mono (by have := SZ2.out; omega)))
                         clear bx ho3 hn3 hb3 x5)
  have bx4 : (w3.setCell ⟨B, 5, none⟩ (.slice ka3 ks.length kc3)).heap[B]? = some (.cells #[.int .u32 fid, .int .u8 k, .int .u16 md, .int .u16 ln, .slice da1 zs.length dc1, .slice ka3 ks.length kc3] 58) := heap_setCell_same w3 B 5 _ _ _ BX.out
  have rx4 : (w3.setCell ⟨B, 5, none⟩ (.slice ka3 ks.length kc3)).heap[B + 1]? = some (.cells #[.int .u32 0, .int .u8 0, .int .u16 0, .int .u16 0, .slice none 0 0, .slice none 0 0] 58) := (Below.heap_setCell _ _ _ _ (by simp)).trans RX.out
  have R4 := hid (R3.out.setR (q := ⟨B, 5, none⟩) BX.out (by decide) (.slice ka3 ks.length kc3))
  have O4 := hid (own_set O3.out (p := ⟨B, 5, none⟩) (by show B < _; exact hl2) (.slice ka3 ks.length kc3))
  have C4 := hid (C3.out.setCell (p := ⟨B, 5, none⟩) (Nat.le_refl _) (.slice ka3 ks.length kc3))
  clear fz y5 BX RX R3 O3 C3 CK2 KW
  generalize w3.setCell ⟨B, 5, none⟩ (.slice ka3 ks.length kc3) = V4 at *
  have x0 : V4.cell? ⟨B, 0, none⟩ = some (.int .u32 fid) := cell_of_row2 bx4 0 rfl
  have x1 : V4.cell? ⟨B, 1, none⟩ = some (.int .u8 k) := cell_of_row2 bx4 1 rfl
  have x2 : V4.cell? ⟨B, 2, none⟩ = some (.int .u16 md) := cell_of_row2 bx4 2 rfl
  have x3 : V4.cell? ⟨B, 3, none⟩ = some (.int .u16 ln) := cell_of_row2 bx4 3 rfl
  have x4 : V4.cell? ⟨B, 4, none⟩ = some (.slice da1 zs.length dc1) := cell_of_row2 bx4 4 rfl
  have x5 : V4.cell? ⟨B, 5, none⟩ = some (.slice ka3 ks.length kc3) := cell_of_row2 bx4 5 rfl
  have r0 : V4.cell? ⟨B + 1, 0, none⟩ = some (.int .u32 0) := cell_of_row2 rx4 0 rfl
  have r1 : V4.cell? ⟨B + 1, 1, none⟩ = some (.int .u8 0) := cell_of_row2 rx4 1 rfl
  have r2 : V4.cell? ⟨B + 1, 2, none⟩ = some (.int .u16 0) := cell_of_row2 rx4 2 rfl
  have r3 : V4.cell? ⟨B + 1, 3, none⟩ = some (.int .u16 0) := cell_of_row2 rx4 3 rfl
  have r4 : V4.cell? ⟨B + 1, 4, none⟩ = some (.slice none 0 0) := cell_of_row2 rx4 4 rfl
  have r5 : V4.cell? ⟨B + 1, 5, none⟩ = some (.slice none 0 0) := cell_of_row2 rx4 5 rfl
  have fz : ∀ i, V4.frozen? ⟨B + 1, i, none⟩ = false := fun i => by simp [World.frozen?, rx4]
  have RX4 := hid rx4
  clear bx4 rx4
  go_wp2
  have e0 := RX4.out
  have e1 := heap_setCell_same _ (B + 1) 0 _ _ (.int .u32 fid) e0
  have e2 := heap_setCell_same _ (B + 1) 1 _ _ (.int .u8 k) e1
  have e3 := heap_setCell_same _ (B + 1) 2 _ _ (.int .u16 md) e2
  have e4 := heap_setCell_same _ (B + 1) 3 _ _ (.int .u16 ln) e3
  have e5 := heap_setCell_same _ (B + 1) 4 _ _ (.slice da1 zs.length dc1) e4
  have e6 := heap_setCell_same _ (B + 1) 5 _ _ (.slice ka3 ks.length kc3) e5
  refine bodyPost_ret (v := .agg #[.int .u32 fid, .int .u8 k, .int .u16 md, .int .u16 ln, .slice da1 zs.length dc1, .slice ka3 ks.length kc3]) (by simp [results, Tryz.results56, go_sem, r0, r1, r2, r3, r4, r5]) rfl ⟨da1, dc1, ka3, kc3, rfl, ?_, ?_⟩
  · rw [HBB.out]
    refine ⟨FT.out, ⟨N1.out, N3.out⟩, ?_, ?_⟩
    · exact RowAt.lowR ((((((R4.out.setR (q := ⟨B + 1, 0, none⟩) e0 (by decide) (.int .u32 fid)).setR (q := ⟨B + 1, 1, none⟩) e1 (by decide) (.int .u8 k)).setR (q := ⟨B + 1, 2, none⟩) e2 (by decide) (.int .u16 md)).setR (q := ⟨B + 1, 3, none⟩) e3 (by decide) (.int .u16 ln)).setR (q := ⟨B + 1, 4, none⟩) e4 (by decide) (.slice da1 zs.length dc1)).setR (q := ⟨B + 1, 5, none⟩) e5 (by decide) (.slice ka3 ks.length kc3)) (by have := LV.out; omega)
    · exact own_low (own_set (own_set (own_set (own_set (own_set (own_set O4.out (p := ⟨B + 1, 0, none⟩) (by show B + 1 < _; have := SZ2.out; omega) (.int .u32 fid)) (p := ⟨B + 1, 1, none⟩) (by show B + 1 < _; have := SZ2.out; omega) (.int .u8 k)) (p := ⟨B + 1, 2, none⟩) (by show B + 1 < _; have := SZ2.out; omega) (.int .u16 md)) (p := ⟨B + 1, 3, none⟩) (by show B + 1 < _; have := SZ2.out; omega) (.int .u16 ln)) (p := ⟨B + 1, 4, none⟩) (by show B + 1 < _; have := SZ2.out; omega) (.slice da1 zs.length dc1)) (p := ⟨B + 1, 5, none⟩) (by show B + 1 < _; have := SZ2.out; omega) (.slice ka3 ks.length kc3)) (by have := SZ2.out; omega)
  · rw [HBB.out]
    exact ((((((C4.out.setCell (p := ⟨B + 1, 0, none⟩) (Nat.le_succ _) (.int .u32 fid)).setCell (p := ⟨B + 1, 1, none⟩) (Nat.le_succ _) (.int .u8 k)).setCell (p := ⟨B + 1, 2, none⟩) (Nat.le_succ _) (.int .u16 md)).setCell (p := ⟨B + 1, 3, none⟩) (Nat.le_succ _) (.int .u16 ln)).setCell (p := ⟨B + 1, 4, none⟩) (Nat.le_succ _) (.slice da1 zs.length dc1)).setCell (p := ⟨B + 1, 5, none⟩) (Nat.le_succ _) (.slice ka3 ks.length kc3))
end Go.Proofs.YtloojakcknnilaaGreat
