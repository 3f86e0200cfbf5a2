/-
  
-/
import Derived.Test.YtfmghbennahlfaaGreatCnAs
import Derived.Test.YtfmghbennahlfaaGreatCnBi
namespace Go.Proofs.YtfmghbennahlfaaGreat
open Go.RowKit Go.ChangeShapes Go.WideShapes Go.ChangeAt Go.Maps Go.Shelf
set_option linter.unusedVariables false
set_option linter.unusedSimpArgs false
set_option maxRecDepth 100000
def Lie (w : World) (p : Addr) (x : Nd) : Prop := p.spot = none ∧ ∃ cs : Array Value, w.heap[p.block]? = some (.cells cs 40 (0, 0)) ∧ ∀ (j : Nat) (v : Value), x.cells[j]? = some v → cs[p.off + j]? = some v
theorem Lie.ndc {w : World} {p : Addr} {x : Nd} (h : Lie w p x) : NdC w p.block p.off x := by
 obtain ⟨_, cs, hb, hc⟩ := h
 intro j v hv
 rw [cell_of_row w p.block _ cs _ _ hb]
 exact hc j v hv
theorem Lie.lt {w : World} {p : Addr} {x : Nd} (h : Lie w p x) : p.block < w.heap.size := by
 obtain ⟨_, cs, hb, _⟩ := h
 exact lt_blkR hb
theorem Lie.fz {w : World} {p : Addr} {x : Nd} (h : Lie w p x) (i : Nat) : w.frozen? ⟨p.block, i, none⟩ = false := by
 obtain ⟨_, cs, hb, _⟩ := h
 simp [World.frozen?, hb]
theorem Lie.keep {w w' : World} {p : Addr} {x : Nd} (h : Lie w p x) (hb : w'.heap[p.block]? = w.heap[p.block]?) : Lie w' p x := by
 obtain ⟨h0, cs, h1, hc⟩ := h
 exact ⟨h0, cs, hb.trans h1, hc⟩
theorem Lie.later {w w' : World} {p : Addr} {x : Nd} (h : Lie w p x) (hb : Below w.heap.size w w') : Lie w' p x := h.keep (hb.block _ h.lt)
theorem Lie.other {w : World} {p : Addr} {x : Nd} (h : Lie w p x) {b o : Nat} (hq : b ≠ p.block ∨ o < p.off ∨ p.off + 6 ≤ o) (v : Value) : Lie (w.setCell ⟨b, o, none⟩ v) p x := by
 by_cases e : b = p.block
 · obtain ⟨h0, cs, h1, hc⟩ := h
   subst e
   refine ⟨h0, _, heap_setCell_same w _ o cs _ v h1, fun j u hu => ?_⟩
   have hj : j < 6 := (List.getElem?_eq_some_iff.1 hu).1
   rw [Array.getElem?_setIfInBounds, if_neg (by omega)]
   exact hc j u hu
 · exact h.keep (Below.heap_setCell _ _ _ _ (fun e2 => e e2.symm))
theorem Lie.own {w : World} {p : Addr} {x x' : Nd} (h : Lie w p x) {i : Nat} (hi : i < 6) {v : Value} (hx : x'.cells = x.cells.set i v) : Lie (w.setCell ⟨p.block, p.off + i, none⟩ v) p x' := by
 obtain ⟨h0, cs, h1, hc⟩ := h
 refine ⟨h0, _, heap_setCell_same w _ _ cs _ v h1, fun j u hu => ?_⟩
 rw [hx, List.getElem?_set] at hu
 rw [Array.getElem?_setIfInBounds]
 by_cases e : i = j
 · subst e
   rw [if_pos rfl] at hu ⊢
   have hl : i < x.cells.length := by unfold Nd.cells; simpa using hi
   rw [if_pos hl] at hu
   have hb := hc i _ (List.getElem?_eq_getElem hl)
   have hlt : p.off + i < cs.size := (Array.getElem?_eq_some_iff.1 hb).1
   rw [if_pos hlt]
   exact hu
 · rw [if_neg e] at hu
   rw [if_neg (by omega)]
   exact hc j u hu
theorem own_setT {w : World} {base e size n : Nat} {v : Value} {xs : List Value} {q : Addr} {cs : Array Value} {e' : TypeId} {fr : Nat × Nat} (h : w.ownsRow base e size v n xs) (hq : w.heap[q.block]? = some (.cells cs e' fr)) (hne : e ≠ e') (u : Value) : (w.setCell q u).ownsRow base e size v n xs := by
 refine ⟨h.1, ?_⟩
 rcases h.2 with h | ⟨g, cap, cur, e1, e2, e3, e4⟩
 · exact .inl h
 · refine .inr ⟨g, cap, cur, e1, e2, (Below.heap_setCell _ _ _ _ (fun e => ?_)).trans e3, e4⟩
   rw [e, hq] at e3
   cases e3
   exact hne rfl
theorem NdW.setT {w : World} {base : Nat} {x : Nd} {q : Addr} {cs : Array Value} {fr : Nat × Nat} (h : NdW w base x) (hq : w.heap[q.block]? = some (.cells cs 40 fr)) (u : Value) : NdW (w.setCell q u) base x :=
 ⟨h.1, h.2.1, h.2.2.1.setR hq (by decide) u, own_setT h.2.2.2 hq (by decide) u⟩
theorem IsFm.obj {α : Type} {E : Enc α} {w : World} {b m : Nat} {f : Int → Option α} (h : IsFm E w b m f) : ∃ es cl, w.heap[b]? = some (.map es cl) := by
 obtain ⟨D, ⟨es, clock, hb, r⟩, hf⟩ := h
 exact ⟨es, clock, hb⟩
theorem IsFm.keep {α : Type} {E : Enc α} {w w' : World} {b m : Nat} {f : Int → Option α} (h : IsFm E w b m f) (hk : w'.heap[b]? = w.heap[b]?) : IsFm E w' b m f := by
 obtain ⟨D, ⟨es, clock, hb, r⟩, hf⟩ := h
 exact ⟨D, ⟨es, clock, hk.trans hb, r⟩, hf⟩
structure MT (w : World) (base tb m : Nat) (N : Tab) : Prop where
 map : IsFm ptE w tb m N.ptr
 low : base ≤ tb
 nd : ∀ f p x, N f = some (p, x) → base ≤ p.block ∧ Lie w p x ∧ NdW w base x ∧ x.fid = f
 ap : ∀ f g p q x y, N f = some (p, x) → N g = some (q, y) → f ≠ g → p.block ≠ q.block ∨ p.off + 6 ≤ q.off ∨ q.off + 6 ≤ p.off
 ka : ∀ f g p q x y, N f = some (p, x) → N g = some (q, y) → f ≠ g → ∀ b, kb x = some b → kb y ≠ some b
theorem MT.later {w w' : World} {base tb m : Nat} {N : Tab} (h : MT w base tb m N) (hb : Below w.heap.size w w') : MT w' base tb m N :=
 ⟨h.map.keep (hb.block _ h.map.lt), h.low, fun f p x e => by obtain ⟨h1, h2, h3, h4⟩ := h.nd f p x e; exact ⟨h1, h2.later hb, h3.later hb, h4⟩, h.ap, h.ka⟩
def updT (N : Tab) (f : Int) (p : Addr) (x : Nd) : Tab := fun g => if g = f then some (p, x) else N g
theorem updT_ptr {N : Tab} {f : Int} {p : Addr} {x x' : Nd} (h : N f = some (p, x)) : (updT N f p x').ptr = N.ptr := by
 funext g
 unfold Tab.ptr updT
 split
 · rename_i e
   rw [e, h]
   rfl
 · rfl
theorem updT_new (N : Tab) (f : Int) (p : Addr) (x : Nd) : (updT N f p x).ptr = updF N.ptr f (some (some p)) := by
 funext g
 unfold Tab.ptr updT updF
 split <;> rfl
theorem NdW.grownK {w w' : World} {base : Nat} {x y : Nd} (h : NdW w base y) (hx : NdW w base x) (hg : w.grownBy w' (Value.slice x.ka x.ks.length x.kc).ownBlock) (hne : ∀ b, kb x = some b → kb y ≠ some b) : NdW w' base y := by
 refine ⟨h.1, h.2.1, h.2.2.1.grown hx.2.2.2 (by decide) hg, h.2.2.2.1, ?_⟩
 rcases h.2.2.2.2 with h4 | ⟨g, cap, cur, e1, e2, e3, e4⟩
 · exact .inl h4
 · refine .inr ⟨g, cap, cur, e1, e2, (hg.block g (lt_blkR e3) (fun e => ?_)).trans e3, e4⟩
   have ey : kb y = some g := by
     unfold kb
     cases hya : y.ka with
     | none => rw [hya] at e1; cases e1
     | some a => rw [hya] at e1; cases e1; rfl
   have ex : kb x = some g := by
     unfold kb
     cases hxa : x.ka with
     | none => rw [hxa] at e; cases e
     | some a => rw [hxa] at e; cases e; rfl
   exact hne g ex ey
theorem row_ne {w : World} {base b g : Nat} {x : Nd} {o : Obj} (hx : NdW w base x) (ho : w.heap[g]? = some o) (hT : ∀ cs, o ≠ .cells cs 66 (0, 0)) : some g ≠ (Value.slice x.ka x.ks.length x.kc).ownBlock := fun e => by
 rcases hx.2.2.2.2 with ⟨h4, _⟩ | ⟨g', cap, cur, e1, e2, e3, e4⟩
 · rw [h4] at e; cases e
 · rw [e1] at e
   cases e
   rw [ho] at e3
   cases e3
   exact hT _ rfl
theorem MT.kids {w w' : World} {base tb m : Nat} {N : Tab} (h : MT w base tb m N) {f : Int} {p : Addr} {x : Nd} (hN : N f = some (p, x)) (hg : w.grownBy w' (Value.slice x.ka x.ks.length x.kc).ownBlock) {a : Option Addr} {c : Nat} {L : List Kd}
   (hO : OwK w' base (.slice a L.length c) L) (hn : a = none → c = 0) (hw : ∀ q ∈ L, q.Wf) (hl : L.length ≤ 1000) (ha : ∀ b, a.map (·.block) = some b → kb x = some b ∨ w.heap.size ≤ b) :
   MT (w'.setCell ⟨p.block, p.off + 5, none⟩ (.slice a L.length c)) base tb m (updT N f p (x.kids a c L)) := by
 obtain ⟨h1, h2, h3, h4⟩ := h.nd f p x hN
 obtain ⟨h20, cs, hb, hcs⟩ := h2
 have hb' : w'.heap[p.block]? = some (.cells cs 40 (0, 0)) := (hg.block _ (lt_blkR hb) (row_ne (b := 0) h3 hb (fun _ e => by cases e))).trans hb
 have hL : Lie w' p x := ⟨h20, cs, hb', hcs⟩
 have hX : NdW w' base (x.kids a c L) := by
   obtain ⟨⟨f1, f2, f3, f4, f5, f6, f7, f8⟩, ⟨n1, n2⟩, r1, r2⟩ := h3
   exact ⟨⟨f1, f2, f3, f4, f5, hw, f7, hl⟩, ⟨n1, hn⟩, r1.grown r2 (by decide) hg, hO⟩
 have hkx : ∀ g q y, N g = some (q, y) → f ≠ g → ∀ b, kb (x.kids a c L) = some b → kb y ≠ some b := fun g q y hy hne b hb1 hb2 => by
   rcases ha b hb1 with e | e
   · exact h.ka f g p q x y hN hy hne b e hb2
   · have := ((h.nd g q y hy).2.2.1.kblk hb2).2
     omega
 refine ⟨?_, h.low, ?_, ?_, ?_⟩
 · rw [updT_ptr hN]
   obtain ⟨es, cl, hm⟩ := h.map.obj
   refine h.map.keep ((Below.heap_setCell _ _ _ _ (fun e => ?_)).trans (hg.block _ h.map.lt (row_ne (b := 0) h3 hm (fun _ e => by cases e))))
   rw [e] at hm
   rw [hb] at hm
   cases hm
 · intro g q y hgN
   unfold updT at hgN
   split at hgN
   · rename_i e
     cases hgN
     exact ⟨h1, hL.own (by omega) rfl, hX.setT (q := ⟨p.block, p.off + 5, none⟩) hb' _, by rw [e]; exact h4⟩
   · rename_i e
     obtain ⟨g1, g2, g3, g4⟩ := h.nd g q y hgN
     refine ⟨g1, Lie.other (g2.keep ?_) ?_ _, (g3.grownK h3 hg (h.ka f g p q x y hN hgN (fun e2 => e e2.symm))).setT (q := ⟨p.block, p.off + 5, none⟩) hb' _, g4⟩
     · obtain ⟨_, cs2, hb2, _⟩ := g2
       exact hg.block _ (lt_blkR hb2) (row_ne (b := 0) h3 hb2 (fun _ e => by cases e))
     · rcases h.ap f g p q x y hN hgN (fun e2 => e e2.symm) with e2 | e2 | e2
       · exact .inl e2
       · exact .inr (.inl (by omega))
       · exact .inr (.inr (by omega))
 · intro g1 g2 q1 q2 y1 y2 e1 e2 hne
   unfold updT at e1 e2
   split at e1
   · rename_i c1
     cases e1
     split at e2
     · rename_i c2; rw [c1, c2] at hne; exact absurd rfl hne
     · rename_i c2; exact h.ap f g2 p q2 x y2 hN e2 (fun e => c2 e.symm)
   · rename_i c1
     split at e2
     · rename_i c2; cases e2; exact h.ap g1 f q1 p y1 x e1 hN c1
     · exact h.ap g1 g2 q1 q2 y1 y2 e1 e2 hne
 · intro g1 g2 q1 q2 y1 y2 e1 e2 hne b hb1
   unfold updT at e1 e2
   split at e1
   · rename_i c1
     cases e1
     split at e2
     · rename_i c2; rw [c1, c2] at hne; exact absurd rfl hne
     · rename_i c2; exact hkx g2 q2 y2 e2 (fun e => c2 e.symm) b hb1
   · rename_i c1
     split at e2
     · rename_i c2
       cases e2
       intro hb2
       exact hkx g1 q1 y1 e1 (fun e => c1 e.symm) b hb2 hb1
     · exact h.ka g1 g2 q1 q2 y1 y2 e1 e2 hne b hb1
theorem MT.add {w w' : World} {base tb m m' : Nat} {N : Tab} (h : MT w base tb m N) {f : Int} {g : Nat} {x : Nd} (hN : N f = none) (hbg : base ≤ g) (hb : w.heap[g]? = some (.cells x.cells.toArray 40 (0, 0))) (hnew : ∀ f' p y, N f' = some (p, y) → p.block ≠ g) (hx : NdW w base x) (hxk : x.ka = none) (hf : x.fid = f)
   (hm : IsFm ptE w' tb m' (updF N.ptr f (some (some ⟨g, 0, none⟩)))) (ho : Ou (fun k => k = tb) w w') : MT w' base tb m' (updT N f ⟨g, 0, none⟩ x) := by
 obtain ⟨es, cl, hmo⟩ := h.map.obj
 have hkp : ∀ (k : Nat) (cs : Array Value) (t : TypeId) (fr : Nat × Nat), w.heap[k]? = some (.cells cs t fr) → w'.heap[k]? = w.heap[k]? := fun k cs t fr hk => ho.block k (lt_blkR hk) (fun e => by
   subst e
   rw [hk] at hmo
   cases hmo)
 have hrow : ∀ {t : TypeId} {a : Option Addr} {vs : List Value}, RowAt w base t a vs → RowAt w' base t a vs := fun {t a vs} hr => by
   rcases hr with e | ⟨q, cs, fr, e1, e2, e3, e4⟩
   · exact .inl e
   · exact .inr ⟨q, cs, fr, e1, e2, (hkp _ _ _ _ e3).trans e3, e4⟩
 have hown : ∀ {v : Value} {L : List Kd}, OwK w base v L → OwK w' base v L := fun {v L} hr => by
   refine ⟨hr.1, ?_⟩
   rcases hr.2 with e | ⟨q, cap, cur, e1, e2, e3, e4⟩
   · exact .inl e
   · exact .inr ⟨q, cap, cur, e1, e2, (hkp _ _ _ _ e3).trans e3, e4⟩
 have hnw : ∀ {y : Nd}, NdW w base y → NdW w' base y := fun {y} hy => ⟨hy.1, hy.2.1, hrow hy.2.2.1, hown hy.2.2.2⟩
 have hkb : kb x = none := by unfold kb; rw [hxk]; rfl
 refine ⟨by rw [updT_new]; exact hm, h.low, ?_, ?_, ?_⟩
 · intro f' q y hy
   unfold updT at hy
   split at hy
   · rename_i e
     cases hy
     refine ⟨hbg, ⟨rfl, _, (hkp _ _ _ _ hb).trans hb, fun j v hv => ?_⟩, hnw hx, by rw [hf, e]⟩
     show x.cells.toArray[0 + j]? = some v
     rw [Nat.zero_add, ← Array.getElem?_toList]
     exact hv
   · obtain ⟨g1, g2, g3, g4⟩ := h.nd f' q y hy
     refine ⟨g1, g2.keep ?_, hnw g3, g4⟩
     obtain ⟨_, cs2, hb2, _⟩ := g2
     exact hkp _ _ _ _ hb2
 · intro g1 g2 q1 q2 y1 y2 e1 e2 hne
   unfold updT at e1 e2
   split at e1
   · rename_i c1
     cases e1
     split at e2
     · rename_i c2; rw [c1, c2] at hne; exact absurd rfl hne
     · exact .inl (fun e => hnew g2 q2 y2 e2 e.symm)
   · rename_i c1
     split at e2
     · cases e2; exact .inl (fun e => hnew g1 q1 y1 e1 e)
     · exact h.ap g1 g2 q1 q2 y1 y2 e1 e2 hne
 · intro g1 g2 q1 q2 y1 y2 e1 e2 hne b hb1
   unfold updT at e1 e2
   split at e1
   · cases e1
     rw [hkb] at hb1
     cases hb1
   · split at e2
     · cases e2; rw [hkb]; intro e; cases e
     · exact h.ka g1 g2 q1 q2 y1 y2 e1 e2 hne b hb1
def KeepT (w w' : World) : Prop := ∀ (k : Nat) (cs : Array Value) (t : TypeId) (fr : Nat × Nat), w.heap[k]? = some (.cells cs t fr) → t ≠ 40 → t ≠ 66 → w'.heap[k]? = some (.cells cs t fr)
theorem KeepT.trans {a b c : World} (h : KeepT a b) (k : KeepT b c) : KeepT a c := fun i cs t fr e h1 h2 => k i cs t fr (h i cs t fr e h1 h2) h1 h2
theorem KeepT.of {w w' : World} (h : Below w.heap.size w w') : KeepT w w' := fun i cs t fr e _ _ => (h.block i (lt_blkR e)).trans e
theorem KeepT.set {w : World} {b : Nat} {cs0 : Array Value} {fr0 : Nat × Nat} (hb : w.heap[b]? = some (.cells cs0 40 fr0)) (o : Nat) (v : Value) : KeepT w (w.setCell ⟨b, o, none⟩ v) := fun i cs t fr e h1 _ => (Below.heap_setCell w ⟨b, o, none⟩ v i (fun e2 => by
 have e3 : i = b := e2
 rw [e3, hb] at e
 cases e
 exact h1 rfl)).trans e
theorem KeepT.map {w w' : World} {tb : Nat} (h : Ou (fun k => k = tb) w w') (hm : ∀ cs t fr, w.heap[tb]? ≠ some (.cells cs t fr)) : KeepT w w' := fun i cs t fr e _ _ => (h.block i (lt_blkR e) (fun e2 => hm cs t fr (by rw [← e2]; exact e))).trans e
def Rel (N : Tab) (l : List Nd) : Prop := ∀ f, (N f).map (fun z => z.2.er) = getF l f
theorem Rel.got {N : Tab} {l : List Nd} (h : Rel N l) {f : Int} {p : Addr} {x : Nd} (hN : N f = some (p, x)) : getF l f = some x.er := by
 rw [← h f, hN]; rfl
theorem Rel.no {N : Tab} {l : List Nd} (h : Rel N l) {f : Int} (hN : N f = none) : getF l f = none := by
 rw [← h f, hN]; rfl
def cmpS (a b : ByteArray) : Int := if Op.bytesLess a.toList b.toList = true then -1 else if (a.toList == b.toList) = true then 0 else 1
set_option maxHeartbeats 400000 in
theorem isNaN_c (a : ByteArray) (w : World) : Calls Tryz.prog 344 #[.string a] w fun e w' => e = .returned (.bool false) ∧ w' = w := by
 have h : (a.toList == a.toList) = true := by simp
 have h2 : (a.toList != a.toList) = false := by simp
 go_enter Tryz.func344, Tryz.ntmps344
 go_wp2
 go_ret
 exact ⟨by simp, rfl⟩
set_option maxHeartbeats 800000 in
theorem compare_c (a b : ByteArray) (w : World) : Calls Tryz.prog 323 #[.string a, .string b] w fun e w' => e = .returned (.int .i64 (cmpS a b)) ∧ w' = w := by
 unfold cmpS
 cases q1 : Op.bytesLess a.toList b.toList with
 | true =>
   go_enter Tryz.func323, Tryz.ntmps323
   go_wp2_with (go_at_call 344; refine (isNaN_c _ _).mono ?_; rintro _ w1 ⟨rfl, hw1⟩; have hw2 := hw1.symm; clear hw1; subst hw2)
   go_ret
   exact ⟨rfl, rfl⟩
 | false =>
   cases q2 : (a.toList == b.toList)
   all_goals
     go_enter Tryz.func323, Tryz.ntmps323
     go_wp2_with (go_at_call 344; refine (isNaN_c _ _).mono ?_; rintro _ w1 ⟨rfl, hw1⟩; have hw2 := hw1.symm; clear hw1; subst hw2)
     go_ret
     exact ⟨rfl, rfl⟩
set_option maxHeartbeats 800000 in
theorem enter1_c (x : Kd) (s : ByteArray) (w : World) : Calls Tryz.prog 322 #[x.val, .string s] w fun e w' => e = .returned (.int .i64 (cmpS x.nm s)) ∧ Below w.heap.size w w' := by
 have b0 := below_1 w (.cells #[.string x.nm, .int .u32 x.fid] 66)
 have h0 := heap_alloc_new w (.cells #[.string x.nm, .int .u32 x.fid] 66)
 have c0 : (w.alloc (.cells #[.string x.nm, .int .u32 x.fid] 66)).cell? ⟨w.heap.size, 0, none⟩ = some (.string x.nm) := cell_of_row2 h0 0 rfl
 have B0 := hid b0
 have CC := hid (fun W => compare_c x.nm s W)
 clear b0 h0
 unfold Kd.val
 go_enter Tryz.func322, Tryz.ntmps322
 go_wp2_with (go_at_call 323; refine (CC.out _).mono ?_; rintro _ w1 ⟨rfl, hw1⟩; have hw2 := hw1.symm; clear hw1; subst hw2)
 go_ret
 exact ⟨rfl, B0.out⟩
def ltK (x : Kd) (s : ByteArray) : Bool := Op.bytesLess x.nm.toList s.toList
theorem cmp_lt (x : Kd) (s : ByteArray) : decide (cmpS x.nm s < 0) = ltK x s := by
 unfold cmpS ltK
 cases q1 : Op.bytesLess x.nm.toList s.toList with
 | true => rfl
 | false => cases q2 : (x.nm.toList == s.toList) <;> rfl
theorem ltK_leS (x : Kd) (s : ByteArray) : ltK x s = !leS s x.nm := by
 unfold ltK
 rw [lessB]
 by_cases h : x.nm.toList < s.toList
 · rw [decide_eq_true h]
   have : leS s x.nm = false := by
     cases q : leS s x.nm with
     | false => rfl
     | true =>
       have := (leS_iff _ _).1 q
       exact absurd h (List.not_lt.2 this)
   rw [this]; rfl
 · rw [decide_eq_false h]
   have : leS s x.nm = true := (leS_iff _ _).2 (List.not_lt.1 h)
   rw [this]; rfl
theorem ksrt_lt {l : List Kd} (h : KSrt l) {i j : Nat} (hij : i ≤ j) (hj : j < l.length) : leS (l.getD i Kd.no).nm (l.getD j Kd.no).nm = true := by
 by_cases e : i = j
 · subst e; exact leS_refl _
 · have hp := List.pairwise_iff_getElem.1 h i j (by omega) hj (by omega)
   rw [List.getD, List.getElem?_eq_getElem (by omega), List.getD, List.getElem?_eq_getElem hj]
   simp only [Option.getD_some]
   rcases leS_total l[i].nm l[j].nm with q | q
   · exact q
   · rw [q] at hp; cases hp
theorem lt_mono {l : List Kd} (h : KSrt l) {s : ByteArray} {i j : Nat} (hij : i ≤ j) (hj : j < l.length) (hl : ltK (l.getD j Kd.no) s = true) : ltK (l.getD i Kd.no) s = true := by
 rw [ltK_leS] at hl ⊢
 cases q : leS s (l.getD i Kd.no).nm with
 | false => rfl
 | true =>
   have := leS_trans _ _ _ q (ksrt_lt h hij hj)
   rw [this] at hl
   cases hl
def BsP (w : World) (l : List Kd) (s : ByteArray) (e : Ending) (w' : World) : Prop := ∃ (i : Nat) (fb : Bool), e = .returned (.tuple #[.int .i64 i, .bool fb]) ∧ i ≤ l.length ∧ (∀ j, j < i → ltK (l.getD j Kd.no) s = true) ∧ (∀ j, i ≤ j → j < l.length → ltK (l.getD j Kd.no) s = false) ∧ Below w.heap.size w w'
set_option maxHeartbeats 2000000 in
theorem bsearch_c (a : Option Addr) (cap : Nat) (l : List Kd) (s : ByteArray) (w : World) (h : IsKs w a l) (hs : KSrt l) (hm : l.length ≤ 1000) :
   Calls Tryz.prog 321 #[.slice a l.length cap, .string s, .func (.func 322) #[] #[]] w (BsP w l s) := by
 have H := hid h
 have HS := hid hs
 have EC := hid (fun (x : Kd) W => enter1_c x s W)
 obtain ⟨n, hn⟩ : ∃ n, n = l.length := ⟨_, rfl⟩
 have HN := hid hn
 rw [← hn] at hm ⊢
 clear h hs hn
 go_enter Tryz.func321, Tryz.ntmps321
 go_wp2
 go_loopg [9, 10] n (fun gk vi vj wr => ∃ (i j : Nat), vi = .int .i64 i ∧ vj = .int .i64 j ∧ i + gk = j ∧ j ≤ n ∧ Hid (∀ t, t < i → ltK (l.getD t Kd.no) s = true) ∧ Hid (∀ t, j ≤ t → t < n → ltK (l.getD t Kd.no) s = false) ∧ Hid (Below w.heap.size w wr))
 case atStart => exact ⟨0, n, rfl, rfl, by omega, Nat.le_refl _, hid (fun t ht => by omega), hid (fun t h1 h2 => by omega), hid (Below.refl _ _)⟩
 case round =>
   obtain ⟨i, j, rfl, rfl, hij, hjn, HL, HG, HB⟩ := hrel
   by_cases hlt : i < j
   · have hltI : (i : Int) < j := by omega
     obtain ⟨hh, hhd⟩ : ∃ hh : Nat, hh = (i + j) / 2 := ⟨_, rfl⟩
     have hh1 : i ≤ hh := by omega
     have hh2 : hh < j := by omega
     have hsh : Op.shift .shr .u64 ((i : Int) + j) .u64 1 = pure (.int .u64 (hh : Int)) := by
       have h := Go.shift_shr .u64 .u64 ((i : Int) + j) 1 (by omega) (by simp [IntKind.bits])
       rw [h]
       have e : ((i : Int) + j) / 2 ^ (1 : Int).toNat = (hh : Int) := by
         show ((i : Int) + j) / 2 ^ 1 = _
         omega
       rw [e]
     have hln : hh < l.length := by rw [← HN.out]; omega
     obtain ⟨b, off, rfl, _⟩ := H.out.2.2 (by omega)
     obtain ⟨k0, k1⟩ := (H.out.later HB.out).at (i := hh) hln
     have hhn : hh < n := by omega
     have hhI : (hh : Int) < n := by omega
     have YES : Hid (ltK (l.getD hh Kd.no) s = true → ∀ t, t < hh + 1 → ltK (l.getD t Kd.no) s = true) := hid (fun e t ht => lt_mono HS.out (by omega) hln e)
     have NO : Hid (ltK (l.getD hh Kd.no) s = false → ∀ t, hh ≤ t → t < n → ltK (l.getD t Kd.no) s = false) := hid (fun e t h1 h2 => by
       cases q : ltK (l.getD t Kd.no) s with
       | false => rfl
       | true => rw [lt_mono HS.out h1 (by rw [← HN.out]; exact h2) q] at e; cases e)
     clear hln hhd
     generalize l.getD hh Kd.no = x at *
     have E1 := hid (EC.out x wr)
     unfold Kd.val at E1
     cases q : ltK x s with
     | true =>
       have hc : cmpS x.nm s < 0 := by have := cmp_lt x s; rw [q] at this; exact of_decide_eq_true this
       have Y := hid (YES.out q)
       clear YES NO
       generalize cmpS x.nm s = cv at *
       go_wp2_with (go_at_call 322; refine E1.out.mono ?_; rintro _ w1 ⟨rfl, hb1⟩; have B1 := hid (HB.out.trans (hb1.mono HB.out.size)); clear hb1)
       go_roundg (j - (hh + 1))
       case measure => omega
       case rel => exact ⟨hh + 1, j, by go_num, rfl, by omega, hjn, Y, HG, B1⟩
     | false =>
       have hc : ¬ cmpS x.nm s < 0 := by have := cmp_lt x s; rw [q] at this; exact of_decide_eq_false this
       have Y := hid (NO.out q)
       clear YES NO
       generalize cmpS x.nm s = cv at *
       go_wp2_with (go_at_call 322; refine E1.out.mono ?_; rintro _ w1 ⟨rfl, hb1⟩; have B1 := hid (HB.out.trans (hb1.mono HB.out.size)); clear hb1)
       go_roundg (hh - i)
       case measure => omega
       case rel => exact ⟨i, hh, rfl, rfl, by omega, by omega, HL, Y, B1⟩
   · have eij : i = j := by omega
     subst eij
     have hge : ¬ (i : Int) < i := by omega
     by_cases qn : i < n
     · have qI : (i : Int) < n := by omega
       have hln : i < l.length := by rw [← HN.out]; exact qn
       obtain ⟨b, off, rfl, _⟩ := H.out.2.2 (by omega)
       obtain ⟨k0, k1⟩ := (H.out.later HB.out).at (i := i) hln
       clear hln
       have HL2 := hid HL.out
       have HG2 := hid HG.out
       obtain ⟨x, hx⟩ : ∃ x, x = l.getD i Kd.no := ⟨_, rfl⟩
       rw [← hx] at k0 k1
       clear hx
       have E1 := hid (EC.out x wr)
       unfold Kd.val at E1
       generalize cmpS x.nm s = cv at *
       go_wp2_with (go_at_call 322; refine E1.out.mono ?_; rintro _ w1 ⟨rfl, hb1⟩; have B1 := hid (HB.out.trans (hb1.mono HB.out.size)); clear hb1)
       refine bodyPost_ret (v := .tuple #[.int .i64 i, .bool (cv == 0)]) (by simp [results, Tryz.results321, go_sem]) rfl ⟨i, _, rfl, by rw [← HN.out]; omega, HL.out, by rw [← HN.out]; exact HG.out, B1.out⟩
     · have qI : ¬ (i : Int) < n := by omega
       go_wp2
       refine bodyPost_ret (v := .tuple #[.int .i64 i, .bool false]) (by simp [results, Tryz.results321, go_sem]) rfl ⟨i, _, rfl, by rw [← HN.out]; omega, HL.out, by rw [← HN.out]; exact HG.out, HB.out⟩
abbrev PT (e : Int) : Ending := .panicked [{ v := .iface 272 (.agg #[.int .i64 e]), recovered := false }]
set_option maxHeartbeats 400000 in
theorem trefuse_f (e : Int) (w : World) : Calls Tryz.prog 232 #[.bool false, .int .i64 e] w fun r w' => r = .returned (.tuple #[]) ∧ w' = w := by
 go_enter Tryz.func232, Tryz.ntmps232
 go_wp2
 exact body_end (by kernel_rfl) rfl ⟨rfl, rfl⟩
set_option maxHeartbeats 400000 in
theorem trefuse_t (e : Int) (w : World) : Calls Tryz.prog 232 #[.bool true, .int .i64 e] w fun r w' => r = PT e ∧ w' = w := by
 go_enter Tryz.func232, Tryz.ntmps232
 go_wp2
 exact ⟨rfl, rfl, rfl⟩
theorem MT.look {w : World} {base tb m : Nat} {N : Tab} (h : MT w base tb m N) {f : Int} (h0 : 0 ≤ f) (h1 : f < 4294967296) : (Instr.lookup 187 (.map (some tb)) (.int .u32 f) false).run Tryz.prog w = .ok (.pointer ((N f).map (·.1))) w := by
 have := h.map.look ht_tab zeroPt h0 h1
 rw [this]
 unfold Tab.ptr
 cases N f <;> rfl
set_option maxHeartbeats 400000 in
theorem tnode_s {w : World} {base tb m : Nat} {N : Tab} (h : MT w base tb m N) {f : Int} (h0 : 0 ≤ f) (h1 : f < 4294967296) {p : Addr} {x : Nd} (hN : N f = some (p, x)) :
   Calls Tryz.prog 239 #[.map (some tb), .int .u32 f] w fun e w' => e = .returned (.pointer (some p)) ∧ w' = w := by
 have LK := h.look h0 h1
 rw [hN] at LK
 simp only [Option.map_some] at LK
 clear hN h
 go_enter Tryz.func239, Tryz.ntmps239
 go_wp2_with (go_at_call 232; refine (trefuse_f _ _).mono ?_; rintro _ w1 ⟨rfl, hw1⟩; have hw2 := hw1.symm; clear hw1; subst hw2)
 go_ret
 exact ⟨rfl, rfl⟩
set_option maxHeartbeats 400000 in
theorem tnode_n {w : World} {base tb m : Nat} {N : Tab} (h : MT w base tb m N) {f : Int} (h0 : 0 ≤ f) (h1 : f < 4294967296) (hN : N f = none) :
   Calls Tryz.prog 239 #[.map (some tb), .int .u32 f] w fun e w' => e = PT 5 ∧ w' = w := by
 have LK := h.look h0 h1
 rw [hN] at LK
 simp only [Option.map_none] at LK
 clear hN h
 go_enter Tryz.func239, Tryz.ntmps239
 go_wp2_with (go_at_call 232; refine (trefuse_t _ _).mono ?_; rintro _ w1 ⟨rfl, hw1⟩; have hw2 := hw1.symm; clear hw1; subst hw2)
 exact ⟨rfl, rfl, rfl⟩
set_option maxHeartbeats 400000 in
theorem tdir_n {w : World} {base tb m : Nat} {N : Tab} (h : MT w base tb m N) {f : Int} (h0 : 0 ≤ f) (h1 : f < 4294967296) (hN : N f = none) :
   Calls Tryz.prog 292 #[.map (some tb), .int .u32 f] w fun e w' => e = PT 5 ∧ w' = w := by
 have NC := hid (tnode_n h h0 h1 hN)
 clear hN h
 go_enter Tryz.func292, Tryz.ntmps292
 go_wp2_with (go_at_call 239; refine NC.out.mono ?_; rintro _ w1 ⟨rfl, hw1⟩; have hw2 := hw1.symm; clear hw1; subst hw2)
 exact ⟨rfl, rfl, rfl⟩
set_option maxHeartbeats 400000 in
theorem tdir_k {w : World} {base tb m : Nat} {N : Tab} (h : MT w base tb m N) {f : Int} (h0 : 0 ≤ f) (h1 : f < 4294967296) {p : Addr} {x : Nd} (hN : N f = some (p, x)) (hk : x.k ≠ 2) :
   Calls Tryz.prog 292 #[.map (some tb), .int .u32 f] w fun e w' => e = PT 7 ∧ w' = w := by
 have NC := hid (tnode_s h h0 h1 hN)
 obtain ⟨_, hl, _, _⟩ := h.nd f p x hN
 have hsp := hl.1
 obtain ⟨_, y1, _⟩ := hl.ndc.all
 obtain ⟨pb, po, ps⟩ := p
 simp only at hsp y1
 subst hsp
 have hkB : (x.k == 2) = false := beq_eq_false_iff_ne.2 hk
 have hkN : (x.k != 2) = true := by unfold bne; rw [hkB]; rfl
 clear hN h hl
 generalize x.k = k at *
 go_enter Tryz.func292, Tryz.ntmps292
 go_wp2_with (first
   | (go_at_call 232; refine (trefuse_t _ _).mono ?_; rintro _ w1 ⟨rfl, hw1⟩; have hw2 := hw1.symm; clear hw1; subst hw2)
   | (go_at_call 239; refine NC.out.mono ?_; rintro _ w1 ⟨rfl, hw1⟩; have hw2 := hw1.symm; clear hw1; subst hw2))
 exact ⟨rfl, rfl, rfl⟩
set_option maxHeartbeats 400000 in
theorem tdir_s {w : World} {base tb m : Nat} {N : Tab} (h : MT w base tb m N) {f : Int} (h0 : 0 ≤ f) (h1 : f < 4294967296) {p : Addr} {x : Nd} (hN : N f = some (p, x)) (hk : x.k = 2) :
   Calls Tryz.prog 292 #[.map (some tb), .int .u32 f] w fun e w' => e = .returned (.pointer (some p)) ∧ w' = w := by
 have NC := hid (tnode_s h h0 h1 hN)
 obtain ⟨_, hl, _, _⟩ := h.nd f p x hN
 have hsp := hl.1
 obtain ⟨_, y1, _⟩ := hl.ndc.all
 obtain ⟨pb, po, ps⟩ := p
 simp only at hsp y1
 subst hsp
 rw [hk] at y1
 clear hN h hl hk
 go_enter Tryz.func292, Tryz.ntmps292
 go_wp2_with (first
   | (go_at_call 232; refine (trefuse_f _ _).mono ?_; rintro _ w1 ⟨rfl, hw1⟩; have hw2 := hw1.symm; clear hw1; subst hw2)
   | (go_at_call 239; refine NC.out.mono ?_; rintro _ w1 ⟨rfl, hw1⟩; have hw2 := hw1.symm; clear hw1; subst hw2))
 go_ret
 exact ⟨rfl, rfl⟩
theorem en_none {l : List Kd} {s : ByteArray} (h : kq l s = none) : enI l s = -1 := by
 unfold enI
 have : l.findIdx? (fun k => decide (k.nm = s)) = none := by
   rw [List.findIdx?_eq_none_iff]
   intro x hx
   have := fnd_none Kd.nm h x hx
   simpa using this
 rw [this]
theorem en_some {l : List Kd} {s : ByteArray} {q : Kd} (h : kq l s = some q) : ∃ i : Nat, enI l s = (i : Int) ∧ i < l.length ∧ l.getD i Kd.no = q := by
 induction l with
 | nil => cases h
 | cons x t ih =>
   unfold kq at h
   rw [fnd_cons] at h
   by_cases e : x.nm = s
   · rw [if_pos e] at h
     cases h
     refine ⟨0, ?_, by simp, rfl⟩
     unfold enI
     simp [List.findIdx?_cons, e]
   · rw [if_neg e] at h
     obtain ⟨i, h1, h2, h3⟩ := ih h
     refine ⟨i + 1, ?_, by simpa using h2, by simpa [List.getD] using h3⟩
     unfold enI at h1 ⊢
     rw [List.findIdx?_cons]
     have ed : decide (x.nm = s) = false := decide_eq_false e
     rw [ed]
     cases hf : t.findIdx? (fun k => decide (k.nm = s)) with
     | none => rw [hf] at h1; simp only at h1; omega
     | some j =>
       rw [hf] at h1
       simp only at h1
       have : j = i := by omega
       subst this
       simp
end Go.Proofs.YtfmghbennahlfaaGreat
