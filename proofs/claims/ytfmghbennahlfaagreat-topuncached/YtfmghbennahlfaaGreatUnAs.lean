/-
  The document's tree: apply.
  The document's Same, of the same contents. (Written by nodebase.py out of SnapSame.)
  The document's tree: Apply, New.
  The document's tree: operations in memory; New, Fold.
  The package tree: copies of nodes (copyOf, slices.Clone), where a fid, an entry stands (placeOf, entryOf, slices.IndexFunc), New.
-/
import Derived.Test.YtfmghbennahlfaaGreatUnAl
import Derived.Test.YtfmghbennahlfaaGreatUnAr
import Derived.Laws.IdiomStrings
import Derived.Deep.RegionHeld3
import Derived.BigQuiet
import Derived.Lib.UnsafeStr
namespace Go.Proofs.YtfmghbennahlfaaGreat
open Go.RowKit Go.ChangeShapes Go.WideShapes Go.ChangeAt Go.Maps Go.Shelf
set_option linter.unusedVariables false
set_option linter.unusedSimpArgs false
set_option maxRecDepth 100000
structure TOK (l : List Nd) : Prop where
 few : l.length ≤ 40
 kids : ∀ x ∈ l, x.ks.length ≤ 12
 data : ∀ x ∈ l, x.zs.length ≤ 64
 links : ∀ x ∈ l, x.ln ≤ 60000
 made : ∀ x ∈ l, ∀ q ∈ x.ks, ∃ y, getF l q.fid = some y ∧ 1 ≤ y.ln
def writeL (l : List Nd) (o : Rec) : Int × List Nd :=
 if (getF l o.fid).isSome = false then (5, [])
 else if o.k = 9 then (0, setL l ⟨((getF l o.fid).getD Nd.no).fid, ((getF l o.fid).getD Nd.no).k, o.md, ((getF l o.fid).getD Nd.no).ln, none, 0, ((getF l o.fid).getD Nd.no).zs, none, 0, ((getF l o.fid).getD Nd.no).ks⟩)
 else if ((getF l o.fid).getD Nd.no).k = 2 then (8, [])
 else if ((getF l o.fid).getD Nd.no).k = 3 then (3, [])
 else (0, setL l ⟨((getF l o.fid).getD Nd.no).fid, ((getF l o.fid).getD Nd.no).k, ((getF l o.fid).getD Nd.no).md, ((getF l o.fid).getD Nd.no).ln, none, 0, txB o.dt, none, 0, ((getF l o.fid).getD Nd.no).ks⟩)
def applyL (l : List Nd) (o : Rec) : Int × List Nd :=
 if o.k = 1 ∨ o.k = 2 ∨ o.k = 3 then createL l o
 else if o.k = 4 then hardL l o
 else if o.k = 5 ∨ o.k = 6 then removeL l o
 else if o.k = 7 then renameL l o
 else writeL l o
theorem kidI_mem {l : List Kd} {s : ByteArray} (h : kidI l s ≠ 0) : ∃ q ∈ l, q.nm = s ∧ kidI l s = q.fid := by
 unfold kidI at h ⊢
 cases hf : l.find? (fun k => decide (k.nm = s)) with
 | none => rw [hf] at h; exact absurd rfl h
 | some k => exact ⟨k, List.mem_of_find?_eq_some hf, by simpa using List.find?_some hf, rfl⟩
theorem count_kfs {l : List Nd} {f : Int} : ∀ (n : Nat), l.length ≤ n → (∀ x ∈ l, x.ks.length ≤ 12) → (kfs l).count f ≤ 12 * n := by
 intro n hn hk
 refine Nat.le_trans List.count_le_length ?_
 have : ∀ m : List Nd, (∀ x ∈ m, x.ks.length ≤ 12) → (kfs m).length ≤ 12 * m.length := by
   intro m
   induction m with
   | nil => intro _; simp [kfs]
   | cons x t ih =>
     intro h
     have h1 := ih (fun y hy => h y (List.mem_cons_of_mem _ hy))
     have h2 := h x List.mem_cons_self
     unfold kfs at h1 ⊢
     rw [List.flatMap_cons, List.length_append, List.length_map, List.length_cons]
     omega
 have h2 := this l hk
 omega
theorem kidsTo_all {l : List Kd} : ∀ {m : Nat}, kidsTo l m = true → ∀ i, i < m → kOk l i = true
 | 0, _, i, hi => by omega
 | m + 1, h, i, hi => by
   unfold kidsTo at h
   rw [Bool.and_eq_true] at h
   by_cases e : i = m
   · subst e; exact h.2
   · exact kidsTo_all h.1 i (by omega)
theorem nodeOk_kid {x : Nd} (h : nodeOk x = true) {j : Nat} (hj : j < x.ks.length) : (x.ks[j]).fid ≠ 0 := by
 unfold nodeOk at h
 rw [Bool.and_eq_true] at h
 have h2 := h.2
 cases q1 : (x.k == 1 || x.k == 3) with
 | true =>
   rw [q1] at h2
   simp only [cond_true, decide_eq_true_eq] at h2
   omega
 | false =>
   rw [q1] at h2
   cases q2 : (x.k == 2) with
   | false => rw [q2] at h2; cases h2
   | true =>
     rw [q2] at h2
     simp only [cond_false, cond_true, Bool.and_eq_true] at h2
     have := kidsTo_all h2.2 j hj
     unfold kOk at this
     rw [show x.ks.getD j Kd.no = x.ks[j] by simp [List.getD, hj]] at this
     simp only [Bool.and_eq_true, bne_iff_ne] at this
     exact this.2
theorem rightD_tok {l : List Nd} (h : rightD l = true) : TOK l ∧ ∀ x ∈ l, x.fid ≠ 0 := by
 unfold rightD at h
 simp only [Bool.and_eq_true, decide_eq_true_eq] at h
 obtain ⟨h40, hd, hr, hl⟩ := h
 have hok := dTo_ok hd
 have hk : ∀ x ∈ l, x.ks.length ≤ 12 := fun x hx => nodeOk_few (hok x hx)
 have hc : ∀ x ∈ l, lkA ((kfs l).count x.fid : Int) x = true := fun x hx => by
   obtain ⟨i, hi, rfl⟩ := List.getElem_of_mem hx
   have := lkTo_at hl i hi
   unfold lkOne at this
   rw [Bool.and_eq_true, show l.getD i Nd.no = l[i] by simp [List.getD, hi]] at this
   exact this.1
 have hcount : ∀ x ∈ l, x.fid ≠ 1 → 1 ≤ x.ln ∧ x.ln = ((kfs l).count x.fid : Int) := fun x hx hne => by
   have := hc x hx
   unfold lkA at this
   have e : (x.fid == 1) = false := beq_eq_false_iff_ne.2 hne
   rw [e] at this
   simp only [Bool.false_or, Bool.not_eq_true', Bool.or_eq_false_iff, decide_eq_false_iff_not, bne_eq_false_iff_eq] at this
   obtain ⟨h1, h2, _⟩ := this
   omega
 refine ⟨⟨h40, hk, fun x hx => ?_, fun x hx => ?_, fun x hx q hq => ?_⟩, fun x hx => nodeOk_pos (hok x hx)⟩
 · have := hok x hx
   unfold nodeOk at this
   simp only [Bool.and_eq_true, Bool.not_eq_true', Bool.or_eq_false_iff, decide_eq_false_iff_not] at this
   omega
 · by_cases e : x.fid = 1
   · obtain ⟨i, hi, hi2⟩ := rtTo_ex hr
     unfold rtB at hi2
     simp only [Bool.and_eq_true, beq_iff_eq] at hi2
     have hu : upTo l l.length = true := upTo_mk (fun j hj => by
       have := dTo_at hd j hj
       unfold dOne dA at this
       simp only [Bool.and_eq_true, decide_eq_true_eq] at this
       exact this.1.2)
     obtain ⟨j, hj, rfl⟩ := List.getElem_of_mem hx
     have : i = j := up_inj hu hi hj (by rw [hi2.1, show l.getD j Nd.no = l[j] by simp [List.getD, hj], e])
     subst this
     have e3 := hi2.2.2
     rw [show l.getD i Nd.no = l[i] by simp [List.getD, hj]] at e3
     omega
   · have h1 := (hcount x hx e).2
     have h2 := count_kfs (f := x.fid) 40 h40 hk
     omega
 · obtain ⟨i, hi, rfl⟩ := List.getElem_of_mem hx
   have h1 := dTo_at hd i hi
   unfold dOne at h1
   rw [Bool.and_eq_true, dKid_have] at h1
   have h2 := h1.2
   rw [show l.getD i Nd.no = l[i] by simp [List.getD, hi]] at h2
   obtain ⟨j, hj, rfl⟩ := List.getElem_of_mem hq
   have h3 := haveTo_all h2 j hj
   rw [show (l[i]).ks.getD j Kd.no = (l[i]).ks[j] by simp [List.getD, hj]] at h3
   rw [N0_has] at h3
   cases hg : getF l ((l[i]).ks[j]).fid with
   | none =>
     exfalso
     have := h3.2
     unfold getF at hg
     rw [List.find?_eq_none] at hg
     have hno : ∀ m, hasTo l ((l[i]).ks[j]).fid m = false := fun m => by
       induction m with
       | zero => rfl
       | succ m ih =>
         simp only [hasTo, ih, Bool.false_or]
         by_cases hm : m < l.length
         · have := hg _ (getD_mem l Nd.no hm)
           simpa using this
         · have : l.getD m Nd.no = Nd.no := by simp [List.getD, hm]
           rw [this]
           refine beq_eq_false_iff_ne.2 (fun e => ?_)
           have hp := nodeOk_kid (hok _ (List.getElem_mem hi)) hj
           exact hp e.symm
     unfold hasF at this
     rw [hno] at this
     cases this
   | some y =>
     refine ⟨y, rfl, (hcount y (getF_mem hg).1 (fun e => ?_)).1⟩
     have := (getF_mem hg).2
     rw [e] at this
     exact h3.1 this.symm
def ApplyL (l : List Nd) (o : Rec) : Int × List Nd := if (rightD l && rightF o) = true then applyL l o else (3, [])
theorem rightD_er (l : List Nd) : rightD (l.map Nd.er) = rightD l := by
 rw [Bool.eq_iff_iff, ← rightD_iff, ← rightD_iff]
 exact right_er l
theorem rightF_dt {o : Rec} (h : rightF o = true) : o.dt.size ≤ 64 := by
 unfold rightF at h
 simp only [Bool.and_eq_true] at h
 have h1 : datF (pData o.k) o.dt = true := by
   obtain ⟨_, h2⟩ := h
   simp_all
 unfold datF at h1
 split at h1
 · exact of_decide_eq_true h1
 · have := (ba_nil o.dt).1 h1
   rw [this]; decide
def Gd (n : Nat) (r : Int × List Nd) : Prop := (r.1 ≠ 0 → r.2 = []) ∧ r.2.length ≤ n
theorem Gd.err (n : Nat) (c : Int) : Gd n (c, []) := ⟨fun _ => rfl, Nat.zero_le _⟩
theorem Gd.ok {n : Nat} {L : List Nd} (h : L.length ≤ n) : Gd n (0, L) := ⟨fun h => absurd rfl h, h⟩
theorem Gd.ite {n : Nat} {c : Prop} [Decidable c] {a b : Int × List Nd} (h1 : Gd n a) (h2 : Gd n b) : Gd n (if c then a else b) := by split <;> assumption
theorem applyL_gd (l : List Nd) (o : Rec) : Gd (l.length + 3) (applyL l o) := by
 have s1 := fun (m : List Nd) (x : Nd) => setL_len m x
 have s2 := fun (m : List Nd) (x : Nd) => lessL_len m x
 unfold applyL
 refine Gd.ite ?_ (Gd.ite ?_ (Gd.ite ?_ (Gd.ite ?_ ?_)))
 · exact Gd.ite (Gd.err _ _) (Gd.ite (Gd.err _ _) (Gd.ite (Gd.err _ _) (Gd.ok (Nat.le_trans (s1 _ _) (by have := s1 l ((dirN (getF l o.dir)).kids none 0 (entL (dirN (getF l o.dir)).ks o.nm o.fid)); omega)))))
 · exact Gd.ite (Gd.err _ _) (Gd.ite (Gd.err _ _) (Gd.ite (Gd.err _ _) (Gd.ite (Gd.err _ _) (Gd.ite (Gd.err _ _) (Gd.ok (Nat.le_trans (s1 _ _) (by have := s1 l ((dirN (getF l o.dir)).kids none 0 (entL (dirN (getF l o.dir)).ks o.nm o.fid)); omega)))))))
 · exact Gd.ite (Gd.err _ _) (Gd.ite (Gd.err _ _) (Gd.ite (Gd.err _ _) (Gd.ite (Gd.err _ _) (Gd.ok (Nat.le_trans (s2 _ _) (by have := s1 l (((getF l o.dir).getD Nd.no).kids none 0 (entL ((getF l o.dir).getD Nd.no).ks o.nm 0)); omega))))))
 · refine Gd.ite (Gd.err _ _) (Gd.ite (Gd.err _ _) (Gd.ite (Gd.err _ _) (Gd.ite (Gd.ok (by omega)) (Gd.ite (Gd.err _ _) (Gd.ite (Gd.err _ _) (Gd.ite (Gd.err _ _) (Gd.ite (Gd.err _ _) (Gd.ok ?_))))))))
   have hf : ∀ q : Option Nd, (freeL l q).length ≤ l.length + 1 := fun q => by
     cases q with
     | none => simp [freeL]
     | some x => exact s2 l x
   unfold movedL
   refine Nat.le_trans (s1 _ _) ?_
   refine Nat.le_trans (Nat.succ_le_succ (s1 _ _)) ?_
   have := hf (getF l (kidI (dirN (getF l o.to)).ks o.nm2))
   omega
 · exact Gd.ite (Gd.err _ _) (Gd.ite (Gd.ok (by have := s1 l ⟨((getF l o.fid).getD Nd.no).fid, ((getF l o.fid).getD Nd.no).k, o.md, ((getF l o.fid).getD Nd.no).ln, none, 0, ((getF l o.fid).getD Nd.no).zs, none, 0, ((getF l o.fid).getD Nd.no).ks⟩; omega)) (Gd.ite (Gd.err _ _) (Gd.ite (Gd.err _ _) (Gd.ok (by have := s1 l ⟨((getF l o.fid).getD Nd.no).fid, ((getF l o.fid).getD Nd.no).k, ((getF l o.fid).getD Nd.no).md, ((getF l o.fid).getD Nd.no).ln, none, 0, txB o.dt, none, 0, ((getF l o.fid).getD Nd.no).ks⟩; omega)))))
theorem ApplyL_gd (l : List Nd) (o : Rec) : Gd 43 (ApplyL l o) := by
 unfold ApplyL
 split
 · rename_i h
   rw [Bool.and_eq_true] at h
   have h40 := (rightD_tok h.1).1.few
   obtain ⟨h1, h2⟩ := applyL_gd l o
   exact ⟨h1, by omega⟩
 · exact Gd.err _ _
def NsO (w : World) (base : Nat) (v : Value) (l : List Nd) : Prop := OwN w base v l ∧ ∀ x ∈ l, NdR w base x
theorem NsO.nil (w : World) (base : Nat) : NsO w base (.slice none 0 0) [] := ⟨OwN.nil _ _, fun x hx => by cases hx⟩
def ResO (w : World) (r : Int × List Nd) (e : Ending) (w' : World) : Prop := ∃ v l', e = .returned (.tuple #[v, .int .i64 r.1]) ∧ NsO w' w.heap.size v l' ∧ l'.map Nd.er = r.2 ∧ Below w.heap.size w w'
theorem ResO.err {w w' : World} {r : Int × List Nd} {c : Int} (h : r = (c, [])) (hb : Below w.heap.size w w') : ResO w r (.returned (.tuple #[.slice none 0 0, .int .i64 c])) w' := ⟨_, [], by rw [h], NsO.nil _ _, by rw [h]; rfl, hb⟩
def IsOs (w : World) (a : Option Addr) (l : List Rec) : Prop :=
 l.length ≤ maxLen ∧ (∀ x ∈ l, x.Wf) ∧ (0 < l.length → ∃ b off, a = some ⟨b, off, none⟩ ∧ ∀ i, i < l.length → ∀ j v, (l.getD i Rec.no).ops[j]? = some v → w.cell? ⟨b, off + i * 8 + j, none⟩ = some v)
theorem IsOs.later {w w' : World} {a : Option Addr} {l : List Rec} (h : IsOs w a l) (hb : Below w.heap.size w w') : IsOs w' a l := by
 obtain ⟨h1, h2, h3⟩ := h
 refine ⟨h1, h2, fun hp => ?_⟩
 obtain ⟨b, off, e, hc⟩ := h3 hp
 exact ⟨b, off, e, fun i hi j v hv => cell_later hb (hc i hi j v hv)⟩
theorem IsOs.at {w : World} {b off : Nat} {l : List Rec} {i : Nat} (h : IsOs w (some ⟨b, off, none⟩) l) (hi : i < l.length) : ∀ j v, (l.getD i Rec.no).ops[j]? = some v → w.cell? ⟨b, off + i * 8 + j, none⟩ = some v := by
 obtain ⟨b', off', e, hc⟩ := h.2.2 (by omega)
 cases e
 exact hc i hi
theorem IsOs.wf {w : World} {a : Option Addr} {l : List Rec} (h : IsOs w a l) {i : Nat} (hi : i < l.length) : (l.getD i Rec.no).Wf := h.2.1 _ (getD_mem l Rec.no hi)
def erV (x : Int) : Value := .int .i64 x
def IsEs (w : World) (a : Option Addr) (es : List Int) : Prop := 0 < es.length → ∃ b off, a = some ⟨b, off, none⟩ ∧ ∀ i, i < es.length → w.cell? ⟨b, off + i, none⟩ = some (erV (es.getD i 0))
theorem own_other {w w' : World} {base b e e' size size' n n' : Nat} {v u : Value} {xs ys : List Value} (h : w.ownsRow base e size v n xs) (k : w.ownsRow b e' size' u n' ys) (hne : e ≠ e') (hg : w.grownBy w' u.ownBlock) : w'.ownsRow base e size v n xs := by
 refine ⟨h.1, ?_⟩
 rcases h.2 with q | ⟨g, cap, cur, hv, hb, hh, hr⟩
 · exact .inl q
 · refine .inr ⟨g, cap, cur, hv, hb, (hg.block g (lt_blkR hh) (fun q => ?_)).trans hh, hr⟩
   rcases k.2 with ⟨rfl, _⟩ | ⟨g', cap', cur', rfl, _, hh', _⟩
   · cases q
   · cases q
     rw [hh'] at hh
     cases hh
     exact hne rfl
def newL : List Nd := [⟨1, 2, 0, 0, none, 0, [], none, 0, []⟩]
def foldS (p : List Nd × List Int) (o : Rec) : List Nd × List Int := (if (ApplyL p.1 o).1 = 0 then (ApplyL p.1 o).2 else p.1, p.2 ++ [(ApplyL p.1 o).1])
def FoldL (l : List Nd) (ops : List Rec) : List Nd × List Int := if rightD l = true then ops.foldl foldS (l, []) else ([], List.replicate ops.length 3)
theorem foldS_len (l : List Nd) (ops : List Rec) (m : Nat) (hm : m ≤ ops.length) : ((ops.take m).foldl foldS (l, [])).2.length = m := by
 induction m with
 | zero => rfl
 | succ m ih =>
   rw [fold_take _ _ _ Rec.no (by omega)]
   simp only [foldS, List.length_append, List.length_cons, List.length_nil]
   rw [ih (by omega)]
def FoP (w : World) (r : List Nd × List Int) (e : Ending) (w' : World) : Prop := ∃ a c l b d, e = .returned (.tuple #[.slice a l.length c, .slice b r.2.length d]) ∧ Tr w' a l ∧ l.map Nd.er = r.1 ∧ IsEs w' b r.2 ∧ Below w.heap.size w w'
def NdW (w : World) (base : Nat) (x : Nd) : Prop := x.Fit ∧ x.Nil ∧ RowAt w base 5 x.da (x.zs.map u8V) ∧ OwK w base (.slice x.ka x.ks.length x.kc) x.ks
theorem NdW.later {w w' : World} {base : Nat} {x : Nd} (h : NdW w base x) (hb : Below w.heap.size w w') : NdW w' base x := ⟨h.1, h.2.1, h.2.2.1.later hb, h.2.2.2.later hb⟩
theorem NdW.low {w : World} {base b : Nat} {x : Nd} (h : NdW w base x) (hb : b ≤ base) : NdW w b x := ⟨h.1, h.2.1, h.2.2.1.lowR hb, own_low h.2.2.2 hb⟩
theorem NdW.r {w : World} {base : Nat} {x : Nd} (h : NdW w base x) : NdR w base x := ⟨h.1, h.2.1, h.2.2.1, RowAt.own h.2.2.2 rfl (fun e => by rw [List.eq_nil_of_length_eq_zero e]; rfl)⟩
theorem NdP.fit {w : World} {x : Nd} (h : NdP w x) : x.Fit := by
 obtain ⟨⟨h1, h2, h3, h4, h5, h6⟩, _, h7, h8⟩ := h
 exact ⟨h1, h2, h3, h4, h5.2.2.2, h6.2.1, h7, h8⟩
set_option maxHeartbeats 1000000 in
theorem cloneB_c (a : Option Addr) (c : Nat) (zs : List Int) (w : World) (h : IsB w a zs.length zs) (hc : a = none → c = 0) (hm : zs.length ≤ 1000) :
   Calls Tryz.prog 125 #[.slice a zs.length c] w fun e w' => ∃ a' c', e = .returned (.slice a' zs.length c') ∧ (a' = none → c' = 0) ∧ RowAt w' w.heap.size 5 a' (zs.map u8V) ∧ Below w.heap.size w w' := by
 have H := hid h
 have HC := hid hc
 cases a with
 | none =>
   have hz : zs = [] := by
     cases zs with
     | nil => rfl
     | cons y ys => obtain ⟨b, off, e, _⟩ := h.2.2.1 (by simp); cases e
   have hc0 := hc rfl
   subst hz hc0
   clear h hc
   have hq : ∀ w, (binOp .eql 37 (.slice none 0 0) (.slice none 0 0)).run Tryz.prog w = .ok (.bool true) w := fun w => Lib.run_eql_slice_nil w _ _ _ _ _ _ _ Tryz.underlying37
   go_enter Tryz.func125, Tryz.ntmps125
   go_wp2
   go_ret
   exact ⟨none, 0, rfl, fun _ => rfl, .inl rfl, Below.refl _ _⟩
 | some ad =>
   obtain ⟨n, hn⟩ : ∃ n, n = zs.length := ⟨_, rfl⟩
   have HN := hid hn
   rw [← hn] at H hm ⊢
   clear h hc hn
   have hq : ∀ w, (binOp .eql 37 (.slice (some ad) n c) (.slice none 0 0)).run Tryz.prog w = .ok (.bool false) w := fun w => Lib.run_eql_slice_nil w _ _ _ _ _ _ _ Tryz.underlying37
   go_enter Tryz.func125, Tryz.ntmps125
   go_wp2_with (at_builtin; refine wpList_cpB _ rfl _ _ rfl w.heap.size rfl (heap_alloc_new w _) (some ad) n c zs rfl (H.out.later (below_1 _ _)) HC.out (by omega) ?_; intro v3 w3 hO3 hg3)
   go_ret
   obtain ⟨a3, c3, hv3, hn3, hr3⟩ := hO3.shapeR
   exact ⟨a3, c3, by rw [hv3, HN.out]; rfl, hn3, hr3, (below_1 w _).grown hg3 (below_1 w _).size (fun k hk => by cases hk; exact Nat.le_refl _)⟩
set_option maxHeartbeats 1000000 in
theorem cloneK_c (a : Option Addr) (c : Nat) (l : List Kd) (w : World) (h : IsKs w a l) (hc : a = none → c = 0) (hm : l.length ≤ 1000) :
   Calls Tryz.prog 126 #[.slice a l.length c] w fun e w' => ∃ a' c', e = .returned (.slice a' l.length c') ∧ OwK w' w.heap.size (.slice a' l.length c') l ∧ (a' = none → c' = 0) ∧ Below w.heap.size w w' := by
 have H := hid h
 have HC := hid hc
 cases a with
 | none =>
   have hz : l = [] := by
     cases l with
     | nil => rfl
     | cons y ys => obtain ⟨b, off, e, _⟩ := h.2.2 (by simp); cases e
   have hc0 := hc rfl
   subst hz hc0
   clear h hc
   have hq : ∀ w, (binOp .eql 38 (.slice none 0 0) (.slice none 0 0)).run Tryz.prog w = .ok (.bool true) w := fun w => Lib.run_eql_slice_nil w _ _ _ _ _ _ _ Tryz.underlying38
   go_enter Tryz.func126, Tryz.ntmps126
   go_wp2
   go_ret
   exact ⟨none, 0, rfl, OwK.nil _ _, fun _ => rfl, Below.refl _ _⟩
 | some ad =>
   obtain ⟨n, hn⟩ : ∃ n, n = l.length := ⟨_, rfl⟩
   have HN := hid hn
   rw [← hn] at hm ⊢
   clear h hc hn
   have hq : ∀ w, (binOp .eql 38 (.slice (some ad) n c) (.slice none 0 0)).run Tryz.prog w = .ok (.bool false) w := fun w => Lib.run_eql_slice_nil w _ _ _ _ _ _ _ Tryz.underlying38
   go_enter Tryz.func126, Tryz.ntmps126
   go_wp2_with (at_builtin; refine wpList_cpK _ rfl _ _ rfl w.heap.size rfl (heap_alloc_new w _) (some ad) n c l rfl (H.out.later (below_1 _ _)) HN.out HC.out (by omega) ?_; intro v3 w3 hO3 hg3)
   go_ret
   obtain ⟨a3, c3, hv3, hn3, _⟩ := hO3.shapeR
   subst hv3
   exact ⟨a3, c3, by rw [HN.out]; rfl, by rw [HN.out]; exact hO3, hn3, (below_1 w _).grown hg3 (below_1 w _).size (fun k hk => by cases hk; exact Nat.le_refl _)⟩
set_option maxHeartbeats 2000000 in
theorem copyOf_c (x : Nd) (w : World) (h : NdP w x) :
   Calls Tryz.prog 63 #[x.val] w fun e w' => ∃ da dc ka kc, e = .returned (x.lie da dc ka kc).val ∧ NdW w' w.heap.size (x.lie da dc ka kc) ∧ Below w.heap.size w w' := by
 have FT := hid h.fit
 obtain ⟨fid, k, md, ln, da, dc, zs, ka, kc, ks⟩ := x
 have b0 := below_1 w (.cells (⟨fid, k, md, ln, da, dc, zs, ka, kc, ks⟩ : Nd).cells.toArray 40)
 have h0 := heap_alloc_new w (.cells (⟨fid, k, md, ln, da, dc, zs, ka, kc, ks⟩ : Nd).cells.toArray 40)
 have b1 := below_1 (w.alloc (.cells (⟨fid, k, md, ln, da, dc, zs, ka, kc, ks⟩ : Nd).cells.toArray 40)) (.cells Nd.no.cells.toArray 40)
 have h1 := heap_alloc_new (w.alloc (.cells (⟨fid, k, md, ln, da, dc, zs, ka, kc, ks⟩ : Nd).cells.toArray 40)) (.cells Nd.no.cells.toArray 40)
 have hsz : (w.alloc (.cells (⟨fid, k, md, ln, da, dc, zs, ka, kc, ks⟩ : Nd).cells.toArray 40)).heap.size = w.heap.size + 1 := by simp
 rw [hsz] at h1
 have h0' := (b1.block _ (lt_blkR h0)).trans h0
 have bV := b0.trans (b1.mono b0.size)
 have hP := h.later bV
 have CB := hid (cloneB_c da dc zs _ hP.1.2.2.2.2.1 hP.2.1.1 hP.2.2.1)
 have KK := hid h.1.2.2.2.2.2
 have NK : Hid (ka = none → kc = 0) := hid h.2.1.2
 have LK : Hid (ks.length ≤ 1000) := hid h.2.2.2
 have LV : Hid (((w.alloc (.cells (⟨fid, k, md, ln, da, dc, zs, ka, kc, ks⟩ : Nd).cells.toArray 40)).alloc (.cells Nd.no.cells.toArray 40)).heap.size = w.heap.size + 2) := hid (by simp)
 have BV := hid bV
 simp only at KK
 simp only [Nd.val, Nd.cells, Nd.no, List.length_nil, Nd.lie] at *
 clear b0 b1 h0 h hP hsz bV
 have H0 := hid h0'
 have H1 := hid h1
 go_enter Tryz.func63, Tryz.ntmps63
 go_upto_region 1 with fail
 generalize ((w.alloc (.cells #[.int .u32 fid, .int .u8 k, .int .u16 md, .int .u16 ln, .slice da zs.length dc, .slice ka ks.length kc] 40)).alloc (.cells #[.int .u32 0, .int .u8 0, .int .u16 0, .int .u16 0, .slice none 0 0, .slice none 0 0] 40)) = V at *
 obtain ⟨B, hB⟩ : ∃ B, w.heap.size = B := ⟨_, rfl⟩
 have HBB := hid hB
 rw [hB] at h0' h1 H0 H1 LV BV ⊢
 clear hB
 have x4 : V.cell? ⟨B, 4, none⟩ = some (.slice da zs.length dc) := cell_of_row2 h0' 4 rfl
 clear h0' h1
 go_upto_region 2 with (go_at_call 125; refine CB.out.mono ?_; rintro _ w1 ⟨da1, dc1, rfl, hn1, hr1, hb1⟩
                        have bx := (hb1.block _ (lt_blkR H0.out)).trans H0.out
                        have fz : ∀ i, w1.frozen? ⟨B, i, none⟩ = false := fun i => by simp [World.frozen?, bx]
                        have y4 : w1.cell? ⟨B, 4, none⟩ = some (.slice da zs.length dc) := cell_of_row2 bx 4 rfl
                        have BX := hid bx
                        have R1 := hid hr1
                        have N1 := hid hn1
                        have K1 := hid hb1
                        clear bx hr1 hn1 hb1 x4)
 have bx2 : (w1.setCell ⟨B, 4, none⟩ (.slice da1 zs.length dc1)).heap[B]? = some (.cells #[.int .u32 fid, .int .u8 k, .int .u16 md, .int .u16 ln, .slice da1 zs.length dc1, .slice ka ks.length kc] 40) := heap_setCell_same w1 B 4 _ _ _ BX.out
 have rx2 : (w1.setCell ⟨B, 4, none⟩ (.slice da1 zs.length dc1)).heap[B + 1]? = some (.cells #[.int .u32 0, .int .u8 0, .int .u16 0, .int .u16 0, .slice none 0 0, .slice none 0 0] 40) := (Below.heap_setCell _ _ _ _ (by simp)).trans ((K1.out.block _ (lt_blkR H1.out)).trans H1.out)
 have R2 := hid (R1.out.setR (q := ⟨B, 4, none⟩) BX.out (by decide) (.slice da1 zs.length dc1))
 have C2 : Hid (Below B w (w1.setCell ⟨B, 4, none⟩ (.slice da1 zs.length dc1))) := hid ((BV.out.trans (K1.out.mono (by have := LV.out; omega))).setCell (p := ⟨B, 4, none⟩) (Nat.le_refl _) _)
 have hl2 : B < (w1.setCell ⟨B, 4, none⟩ (.slice da1 zs.length dc1)).heap.size := lt_blkR bx2
 have BX2 := hid bx2
 have RX2 := hid rx2
 have SZ2 : Hid (B + 2 ≤ (w1.setCell ⟨B, 4, none⟩ (.slice da1 zs.length dc1)).heap.size) := hid (by have := lt_blkR rx2; omega)
 have KW : Hid (IsKs (w1.setCell ⟨B, 4, none⟩ (.slice da1 zs.length dc1)) ka ks) := hid (KK.out.later (by rw [HBB.out]; exact C2.out))
 clear fz y4 BX R1 K1 CB rx2
 generalize w1.setCell ⟨B, 4, none⟩ (.slice da1 zs.length dc1) = V2 at *
 have CK2 := hid (cloneK_c ka kc ks V2 KW.out NK.out LK.out)
 have x5 : V2.cell? ⟨B, 5, none⟩ = some (.slice ka ks.length kc) := cell_of_row2 bx2 5 rfl
 clear bx2
 go_upto_region 3 with (go_at_call 126; refine CK2.out.mono ?_; rintro _ w3 ⟨ka3, kc3, rfl, ho3, hn3, hb3⟩
                        have bx := (hb3.block _ (lt_blkR BX2.out)).trans BX2.out
                        have fz : ∀ i, w3.frozen? ⟨B, i, none⟩ = false := fun i => by simp [World.frozen?, bx]
                        have y5 : w3.cell? ⟨B, 5, none⟩ = some (.slice ka ks.length kc) := cell_of_row2 bx 5 rfl
                        have BX := hid bx
                        have RX := hid ((hb3.block _ (lt_blkR RX2.out)).trans RX2.out)
                        have O3 := hid ho3
                        have N3 := hid hn3
                        have R3 := hid (R2.out.later hb3)
                        have C3 := hid (C2.out.trans (hb3.mono (by have := SZ2.out; omega)))
                        clear bx ho3 hn3 hb3 x5)
 have bx4 : (w3.setCell ⟨B, 5, none⟩ (.slice ka3 ks.length kc3)).heap[B]? = some (.cells #[.int .u32 fid, .int .u8 k, .int .u16 md, .int .u16 ln, .slice da1 zs.length dc1, .slice ka3 ks.length kc3] 40) := heap_setCell_same w3 B 5 _ _ _ BX.out
 have rx4 : (w3.setCell ⟨B, 5, none⟩ (.slice ka3 ks.length kc3)).heap[B + 1]? = some (.cells #[.int .u32 0, .int .u8 0, .int .u16 0, .int .u16 0, .slice none 0 0, .slice none 0 0] 40) := (Below.heap_setCell _ _ _ _ (by simp)).trans RX.out
 have R4 := hid (R3.out.setR (q := ⟨B, 5, none⟩) BX.out (by decide) (.slice ka3 ks.length kc3))
 have O4 := hid (own_set O3.out (p := ⟨B, 5, none⟩) (by show B < _; exact hl2) (.slice ka3 ks.length kc3))
 have C4 := hid (C3.out.setCell (p := ⟨B, 5, none⟩) (Nat.le_refl _) (.slice ka3 ks.length kc3))
 clear fz y5 BX RX R3 O3 C3 CK2 KW
 generalize w3.setCell ⟨B, 5, none⟩ (.slice ka3 ks.length kc3) = V4 at *
 have x0 : V4.cell? ⟨B, 0, none⟩ = some (.int .u32 fid) := cell_of_row2 bx4 0 rfl
 have x1 : V4.cell? ⟨B, 1, none⟩ = some (.int .u8 k) := cell_of_row2 bx4 1 rfl
 have x2 : V4.cell? ⟨B, 2, none⟩ = some (.int .u16 md) := cell_of_row2 bx4 2 rfl
 have x3 : V4.cell? ⟨B, 3, none⟩ = some (.int .u16 ln) := cell_of_row2 bx4 3 rfl
 have x4 : V4.cell? ⟨B, 4, none⟩ = some (.slice da1 zs.length dc1) := cell_of_row2 bx4 4 rfl
 have x5 : V4.cell? ⟨B, 5, none⟩ = some (.slice ka3 ks.length kc3) := cell_of_row2 bx4 5 rfl
 have r0 : V4.cell? ⟨B + 1, 0, none⟩ = some (.int .u32 0) := cell_of_row2 rx4 0 rfl
 have r1 : V4.cell? ⟨B + 1, 1, none⟩ = some (.int .u8 0) := cell_of_row2 rx4 1 rfl
 have r2 : V4.cell? ⟨B + 1, 2, none⟩ = some (.int .u16 0) := cell_of_row2 rx4 2 rfl
 have r3 : V4.cell? ⟨B + 1, 3, none⟩ = some (.int .u16 0) := cell_of_row2 rx4 3 rfl
 have r4 : V4.cell? ⟨B + 1, 4, none⟩ = some (.slice none 0 0) := cell_of_row2 rx4 4 rfl
 have r5 : V4.cell? ⟨B + 1, 5, none⟩ = some (.slice none 0 0) := cell_of_row2 rx4 5 rfl
 have fz : ∀ i, V4.frozen? ⟨B + 1, i, none⟩ = false := fun i => by simp [World.frozen?, rx4]
 have RX4 := hid rx4
 clear bx4 rx4
 go_wp2
 have e0 := RX4.out
 have e1 := heap_setCell_same _ (B + 1) 0 _ _ (.int .u32 fid) e0
 have e2 := heap_setCell_same _ (B + 1) 1 _ _ (.int .u8 k) e1
 have e3 := heap_setCell_same _ (B + 1) 2 _ _ (.int .u16 md) e2
 have e4 := heap_setCell_same _ (B + 1) 3 _ _ (.int .u16 ln) e3
 have e5 := heap_setCell_same _ (B + 1) 4 _ _ (.slice da1 zs.length dc1) e4
 have e6 := heap_setCell_same _ (B + 1) 5 _ _ (.slice ka3 ks.length kc3) e5
 refine bodyPost_ret (v := .agg #[.int .u32 fid, .int .u8 k, .int .u16 md, .int .u16 ln, .slice da1 zs.length dc1, .slice ka3 ks.length kc3]) (by simp [results, Tryz.results63, go_sem, r0, r1, r2, r3, r4, r5]) rfl ⟨da1, dc1, ka3, kc3, rfl, ?_, ?_⟩
 · rw [HBB.out]
   refine ⟨FT.out, ⟨N1.out, N3.out⟩, ?_, ?_⟩
   · exact RowAt.lowR ((((((R4.out.setR (q := ⟨B + 1, 0, none⟩) e0 (by decide) (.int .u32 fid)).setR (q := ⟨B + 1, 1, none⟩) e1 (by decide) (.int .u8 k)).setR (q := ⟨B + 1, 2, none⟩) e2 (by decide) (.int .u16 md)).setR (q := ⟨B + 1, 3, none⟩) e3 (by decide) (.int .u16 ln)).setR (q := ⟨B + 1, 4, none⟩) e4 (by decide) (.slice da1 zs.length dc1)).setR (q := ⟨B + 1, 5, none⟩) e5 (by decide) (.slice ka3 ks.length kc3)) (by have := LV.out; omega)
   · exact own_low (own_set (own_set (own_set (own_set (own_set (own_set O4.out (p := ⟨B + 1, 0, none⟩) (by show B + 1 < _; have := SZ2.out; omega) (.int .u32 fid)) (p := ⟨B + 1, 1, none⟩) (by show B + 1 < _; have := SZ2.out; omega) (.int .u8 k)) (p := ⟨B + 1, 2, none⟩) (by show B + 1 < _; have := SZ2.out; omega) (.int .u16 md)) (p := ⟨B + 1, 3, none⟩) (by show B + 1 < _; have := SZ2.out; omega) (.int .u16 ln)) (p := ⟨B + 1, 4, none⟩) (by show B + 1 < _; have := SZ2.out; omega) (.slice da1 zs.length dc1)) (p := ⟨B + 1, 5, none⟩) (by show B + 1 < _; have := SZ2.out; omega) (.slice ka3 ks.length kc3)) (by have := SZ2.out; omega)
 · rw [HBB.out]
   exact ((((((C4.out.setCell (p := ⟨B + 1, 0, none⟩) (Nat.le_succ _) (.int .u32 fid)).setCell (p := ⟨B + 1, 1, none⟩) (Nat.le_succ _) (.int .u8 k)).setCell (p := ⟨B + 1, 2, none⟩) (Nat.le_succ _) (.int .u16 md)).setCell (p := ⟨B + 1, 3, none⟩) (Nat.le_succ _) (.int .u16 ln)).setCell (p := ⟨B + 1, 4, none⟩) (Nat.le_succ _) (.slice da1 zs.length dc1)).setCell (p := ⟨B + 1, 5, none⟩) (Nat.le_succ _) (.slice ka3 ks.length kc3))
end Go.Proofs.YtfmghbennahlfaaGreat
