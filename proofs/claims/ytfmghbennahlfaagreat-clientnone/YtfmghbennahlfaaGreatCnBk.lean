/-
  
-/
import Derived.Test.YtfmghbennahlfaaGreatCnBj
import Derived.Laws.CopyRow
import Derived.Laws.IdiomCopy
import Derived.Lib.AppendZerosOnto
import Derived.Lib.Overlaps
import Derived.Maps.AppendAt
import Derived.Deep.RegionLaw
import Derived.Shelf.Spec.SlicesInsert
namespace Go.Proofs.YtfmghbennahlfaaGreat
open Go.RowKit Go.ChangeShapes Go.WideShapes Go.ChangeAt Go.Maps Go.Shelf
set_option linter.unusedVariables false
set_option linter.unusedSimpArgs false
set_option maxRecDepth 100000
theorem kcells_append (a b : List Kd) : kcells (a ++ b) = kcells a ++ kcells b := by unfold kcells; rw [List.flatMap_append]
theorem kcells_cons (x : Kd) (b : List Kd) : kcells (x :: b) = x.cells ++ kcells b := by unfold kcells; rw [List.flatMap_cons]
theorem kcells_one' (l : List Kd) : ∀ u ∈ kcells l, u.oneCell' = true := fun u hu => by
 unfold kcells at hu
 obtain ⟨x, _, hx⟩ := List.mem_flatMap.1 hu
 exact kid_one x u hx
theorem kcells_split (l : List Kd) (i : Nat) (hi : i ≤ l.length) : (kcells l).take (i * 2) = kcells (l.take i) ∧ (kcells l).drop (i * 2) = kcells (l.drop i) := by
 have e : kcells l = kcells (l.take i) ++ kcells (l.drop i) := by rw [← kcells_append, List.take_append_drop]
 have hl : (kcells (l.take i)).length = i * 2 := by rw [kcells_len, List.length_take]; omega
 constructor
 · rw [e, ← hl, List.take_left']; rfl
 · rw [e, ← hl, List.drop_left']; rfl
def CRow (w : World) (g cap : Nat) (xs : List Value) : Prop := ∃ cur : Array Value, w.heap[g]? = some (.cells cur 66 (0, 0)) ∧ cap ≤ maxLen ∧ cur.size = cap * 2 ∧ cur.toList.take xs.length = xs
theorem CRow.keep {w w' : World} {g cap : Nat} {xs : List Value} (h : CRow w g cap xs) (hb : w'.heap[g]? = w.heap[g]?) : CRow w' g cap xs := by
 obtain ⟨cur, h1, h2⟩ := h
 exact ⟨cur, hb.trans h1, h2⟩
theorem CRow.lt {w : World} {g cap : Nat} {xs : List Value} (h : CRow w g cap xs) : g < w.heap.size := by
 obtain ⟨cur, h1, h2⟩ := h
 exact lt_blkR h1
theorem CRow.le {w : World} {g cap : Nat} {xs : List Value} (h : CRow w g cap xs) : xs.length ≤ cap * 2 := by
 obtain ⟨cur, h1, _, h2, h3⟩ := h
 have := congrArg List.length h3
 have hs : cur.toList.length = cur.size := by simp
 rw [List.length_take] at this
 omega
theorem CRow.cell {w : World} {g cap : Nat} {xs : List Value} (h : CRow w g cap xs) {j : Nat} {v : Value} (hj : xs[j]? = some v) : w.cell? ⟨g, j, none⟩ = some v := by
 obtain ⟨cur, h1, _, h2, h3⟩ := h
 rw [cell_of_row w g j cur _ _ h1, ← Array.getElem?_toList]
 rw [← h3, List.getElem?_take] at hj
 split at hj
 · exact hj
 · cases hj
theorem CRow.own {w : World} {g cap base : Nat} {L : List Kd} (h : CRow w g cap (kcells L)) (hb : base ≤ g) : OwK w base (.slice (some ⟨g, 0, none⟩) L.length cap) L := by
 have hle := h.le
 obtain ⟨cur, h1, h2, h3, h4⟩ := h
 rw [kcells_len] at h4 hle
 exact ⟨kcells_len L, .inr ⟨g, cap, cur, rfl, hb, h1, by omega, h2, h3, h4⟩⟩
theorem OwK.row {w : World} {g cap base : Nat} {L : List Kd} (h : OwK w base (.slice (some ⟨g, 0, none⟩) L.length cap) L) : base ≤ g ∧ L.length ≤ cap ∧ CRow w g cap (kcells L) := by
 rcases h.2 with ⟨e, _⟩ | ⟨g', cap', cur, e, hb, h1, h2, h3, h4, h5⟩
 · cases e
 · cases e
   exact ⟨hb, h2, cur, h1, h3, h4, by rw [kcells_len]; exact h5⟩
theorem CRow.write {w : World} {g cap : Nat} {xs : List Value} (h : CRow w g cap xs) {o : Nat} {cs : List Value} (ho : o ≤ xs.length) (hc : o + cs.length ≤ cap * 2) :
   ∃ cur : Array Value, w.heap[g]? = some (.cells cur 66 (0, 0)) ∧ o + cs.length ≤ cur.size ∧ CRow (w.setRow g (cur.toList.take o ++ cs ++ cur.toList.drop (o + cs.length)).toArray) g cap (xs.take o ++ cs ++ xs.drop (o + cs.length)) ∧ w.grownBy (w.setRow g (cur.toList.take o ++ cs ++ cur.toList.drop (o + cs.length)).toArray) (some g) ∧ (w.setRow g (cur.toList.take o ++ cs ++ cur.toList.drop (o + cs.length)).toArray).heap.size = w.heap.size := by
 have hle := h.le
 obtain ⟨cur, h1, h2, h3, h4⟩ := h
 refine ⟨cur, h1, by omega, ⟨_, setRow_heap w g cur _ _ _ h1, h2, ?_, ?_⟩, ⟨rfl, rfl, rfl, by rw [setRow_size]; exact Nat.le_refl _, fun k hk hn => setRow_other w g k _ (fun e => hn (by rw [e]))⟩, setRow_size ..⟩
 · simp only [List.size_toArray, List.length_append, List.length_take, List.length_drop, Array.length_toList]
   omega
 · have e1 : cur.toList.take o = xs.take o := by rw [← h4, List.take_take, Nat.min_eq_left (by omega)]
   have lo : (xs.take o).length = o := by rw [List.length_take]; omega
   rw [e1]
   simp only
   by_cases q : o + cs.length ≤ xs.length
   · have e2 : xs.drop (o + cs.length) = (cur.toList.drop (o + cs.length)).take (xs.length - (o + cs.length)) := by
       rw [← List.drop_take, h4]
     have l2 : (xs.take o ++ cs ++ xs.drop (o + cs.length)).length = (xs.take o ++ cs).length + (xs.length - (o + cs.length)) := by
       rw [List.length_append, List.length_drop]
     rw [l2, List.take_append, Nat.add_sub_cancel_left, List.take_of_length_le (by omega), ← e2]
   · have e2 : xs.drop (o + cs.length) = [] := List.drop_of_length_le (by omega)
     rw [e2, List.append_nil, List.take_append, Nat.sub_self, List.take_zero, List.append_nil, List.take_of_length_le (Nat.le_refl _)]
theorem kid_size : (Tryz.prog.info? 66).map (·.size) = some 2 := by
 obtain ⟨i, hi, _, h2, _⟩ := info_kid
 rw [hi]
 simp [h2]
theorem CRow.copy {w : World} {g cap : Nat} {xs : List Value} (h : CRow w g cap xs) {o : Nat} {cs : List Value} (ho : o ≤ xs.length) (hc : o + cs.length ≤ cap * 2) (dLen dCap : Nat) (a : Addr) (sLen sCap : Nat) (ty : TypeId)
   (hn : cs.length = Nat.min sLen dLen * 2) (hsrc : ∀ j v, cs[j]? = some v → w.cell? (a.add j) = some v) (h1 : ∀ v ∈ cs, v.oneCell' = true) :
   ∃ w', (Builtin.copy_ #[38, 38] ty #[.slice (some ⟨g, o, none⟩) dLen dCap, .slice (some a) sLen sCap]).run Tryz.prog w = .ok (goInt (Nat.min sLen dLen)) w' ∧ CRow w' g cap (xs.take o ++ cs ++ xs.drop (o + cs.length)) ∧ w.grownBy w' (some g) ∧ w'.heap.size = w.heap.size := by
 obtain ⟨cur, hg, hfit, hR, hG, hS⟩ := h.write ho hc
 refine ⟨_, ?_, hR, hG, hS⟩
 have hl := run_loadCells_list (P := Tryz.prog) w a cs hsrc
 have hst := run_storeCells_at Tryz.prog g o 66 cs 0 cur w hg (by simpa using hfit) h1
 have hs := kid_size
 cases hq : Tryz.prog.info? 66 with
 | none => rw [hq] at hs; cases hs
 | some i =>
   have hi : i.size = 2 := by rw [hq] at hs; simpa using hs
   simp [Builtin.copy_, run_underlying Tryz.underlying38, Builtin.lenOf, Builtin.firstCells, sizeOf, typeInfo, hq, hi, ← hn, hl, hst]
theorem grown_trans {a b c : World} {r : Option Nat} (h : a.grownBy b r) (k : b.grownBy c r) : a.grownBy c r :=
 ⟨k.os.trans h.os, k.tape.trans h.tape, k.output.trans h.output, Nat.le_trans h.size k.size, fun i hi hn => (k.block i (Nat.lt_of_lt_of_le hi h.size) hn).trans (h.block i hi hn)⟩
theorem grown_new {a b c : World} {r : Option Nat} {g : Nat} (h : a.grownBy b r) (hg : a.heap.size ≤ g) (k : b.grownBy c (some g)) : a.grownBy c r :=
 ⟨k.os.trans h.os, k.tape.trans h.tape, k.output.trans h.output, Nat.le_trans h.size k.size, fun i hi hn => (k.block i (Nat.lt_of_lt_of_le hi h.size) (fun e => by have := Option.some.inj e; omega)).trans (h.block i hi hn)⟩
theorem grown_of {w w' : World} (h : Below w.heap.size w w') (r : Option Nat) : w.grownBy w' r := ⟨h.os, h.tape, h.output, h.size, fun k hk _ => h.block k hk⟩
theorem grown_drew (w : World) (r : Option Nat) : w.grownBy w.drew r := ⟨rfl, rfl, rfl, Nat.le_refl _, fun _ _ _ => rfl⟩
def InsP (w : World) (base : Nat) (v : Value) (L : List Kd) (e : Ending) (w' : World) : Prop :=
 ∃ a' c', e = .returned (.slice a' L.length c') ∧ OwK w' base (.slice a' L.length c') L ∧ (a' = none → c' = 0) ∧ w.grownBy w' v.ownBlock ∧ ∀ b, a'.map (·.block) = some b → v.ownBlock = some b ∨ w.heap.size ≤ b
theorem owk_nil {w : World} {base c : Nat} {l : List Kd} {a : Option Addr} (h : OwK w base (.slice a l.length c) l) : a = none → c = 0 := fun e => by
 rcases h.2 with ⟨e1, _⟩ | ⟨g, cap, cur, e1, _⟩
 · simp only [Value.slice.injEq] at e1; exact e1.2.2
 · rw [e] at e1; simp at e1
theorem own_shapeK {w : World} {base e size n : Nat} {v : Value} {xs : List Value} (h : w.ownsRow base e size v n xs) : ∃ a cap, v = .slice a n cap := by
 rcases h.2 with ⟨hv, hn⟩ | ⟨g, cap, cur, hv, _⟩
 · exact ⟨none, 0, by rw [hv, hn]⟩
 · exact ⟨_, _, hv⟩
theorem insP_of {w w' : World} {base : Nat} {v v' : Value} {L : List Kd} (h : OwK w' base v' L) (hg : w.grownBy w' v.ownBlock) (hb : v'.ownBlock = v.ownBlock ∨ v'.ownBlock = some w.heap.size) : InsP w base v L (.returned v') w' := by
 obtain ⟨a, c, rfl⟩ := h.shape
 refine ⟨a, c, rfl, h, owk_nil h, hg, fun b hb2 => ?_⟩
 cases a with
 | none => cases hb2
 | some ad =>
   have e : b = ad.block := (Option.some.inj hb2).symm
   subst e
   rcases hb with e | e
   · exact .inl e.symm
   · have := Option.some.inj e
     exact .inr (by omega)
set_option maxHeartbeats 2000000 in
theorem insert_end (a : Option Addr) (cap : Nat) (l : List Kd) (y : Kd) (w : World) (base g : Nat) (h : OwK w base (.slice a l.length cap) l) (hg : w.heap[g]? = some (.cells y.cells.toArray 66 (0, 0))) (hb : base ≤ w.heap.size) (hm : l.length ≤ 500) :
   Calls Tryz.prog 324 #[.slice a l.length cap, .int .i64 l.length, .slice (some ⟨g, 0, none⟩) 1 1] w (InsP w base (.slice a l.length cap) (l ++ [y])) := by
 obtain ⟨i0, hi, hz0, hz1, hz2⟩ := info_kid
 have H := hid h
 have HG := hid hg
 have FIN : Hid (∀ v' w', w'.ownsRow base 66 2 v' (l.length + 1) (kcells l ++ y.cells) → w.grownBy w' (Value.slice a l.length cap).ownBlock → (v'.ownBlock = (Value.slice a l.length cap).ownBlock ∨ v'.ownBlock = some w.heap.size) → InsP w base (.slice a l.length cap) (l ++ [y]) (.returned v') w') := hid (fun v' w' h1 h2 h3 => insP_of (by
   show World.ownsRow _ _ _ _ _ _ _
   rw [List.length_append, kcells_snoc]; exact h1) h2 h3)
 have hlc : l.length ≤ cap := by
   rcases h.2 with ⟨e1, e2⟩ | ⟨g, cap', cur, e1, e2, e3, e4, _⟩
   · omega
   · cases e1; exact e4
 have hnil := owk_nil h
 obtain ⟨n, hn⟩ : ∃ n, n = l.length := ⟨_, rfl⟩
 have HN := hid hn
 clear h hg
 rw [← hn] at hm hlc FIN H ⊢
 clear hn
 have hnI : ((n : Int) == (n : Int)) = true := by simp
 have hcI : (n : Int) ≤ cap := by omega
 have h63 : (cap : Int) ≤ 9223372036854775807 := by
   rcases H.out.2 with ⟨e1, e2⟩ | ⟨g, cap', cur, e1, e2, e3, e4, e5, _⟩
   · cases e1; omega
   · cases e1; unfold maxLen at e5; omega
 have H' : Hid (w.ownsRow base 66 2 (.slice a n cap) n (kcells l)) := hid (by have := H.out; unfold OwK at this; rw [← HN.out] at this; exact this)
 clear H
 cases a with
 | none =>
   have c0 := hnil rfl
   subst c0
   have n0 : n = 0 := by omega
   subst n0
   go_enter Tryz.func324, Tryz.ntmps324
   go_wp2_with (at_builtin; refine wpList_append_own_at _ rfl _ _ 38 rfl base 66 i0 Kd.no.val 2 24 Tryz.underlying38 hi hz0 hz1 hz2 (by rfl) (by decide) _ 0 (kcells l) rfl H'.out ⟨g, 0, none⟩ 1 1 y.cells rfl rfl (kid_news HG.out) (kid_one y) (by unfold maxLen; omega) (by omega) hb ?_; intro v9 w9 h1 h2 _ h4)
   obtain ⟨a9, c9, hv9⟩ := own_shapeK h1
   have F9 := hid (FIN.out v9 w9 h1 h2 h4)
   subst hv9
   clear h1 h2 h4
   go_ret
   exact F9.out
 | some ad =>
   obtain ⟨gb, go, rfl⟩ : ∃ gb, True ∧ ad = ⟨gb, 0, none⟩ := by
     rcases H'.out.2 with ⟨e1, e2⟩ | ⟨g, cap', cur, e1, _⟩
     · cases e1
     · cases e1; exact ⟨g, trivial, rfl⟩
   by_cases q : cap = n
   · subst q
     go_enter Tryz.func324, Tryz.ntmps324
     go_wp2_with (at_builtin; refine wpList_append_own_at _ rfl _ _ 38 rfl base 66 i0 Kd.no.val 2 24 Tryz.underlying38 hi hz0 hz1 hz2 (by rfl) (by decide) _ cap (kcells l) rfl H'.out ⟨g, 0, none⟩ 1 1 y.cells rfl rfl (kid_news HG.out) (kid_one y) (by unfold maxLen; omega) (by omega) hb ?_; intro v9 w9 h1 h2 _ h4)
     obtain ⟨a9, c9, hv9⟩ := own_shapeK h1
     have F9 := hid (FIN.out v9 w9 h1 h2 h4)
     subst hv9
     clear h1 h2 h4
     go_ret
     exact F9.out
   · go_enter Tryz.func324, Tryz.ntmps324
     go_wp2_with (at_builtin; refine wpList_append_own_at _ rfl _ _ 38 rfl base 66 i0 Kd.no.val 2 24 Tryz.underlying38 hi hz0 hz1 hz2 (by rfl) (by decide) _ n (kcells l) rfl H'.out ⟨g, 0, none⟩ 1 1 y.cells rfl rfl (kid_news HG.out) (kid_one y) (by unfold maxLen; omega) (by omega) hb ?_; intro v9 w9 h1 h2 _ h4)
     obtain ⟨a9, c9, hv9⟩ := own_shapeK h1
     have F9 := hid (FIN.out v9 w9 h1 h2 h4)
     subst hv9
     clear h1 h2 h4
     go_ret
     exact F9.out
set_option maxHeartbeats 4000000 in
theorem insert_room (gr cap : Nat) (l : List Kd) (i : Nat) (y : Kd) (w : World) (base g : Nat) (h : OwK w base (.slice (some ⟨gr, 0, none⟩) l.length cap) l) (hg : w.heap[g]? = some (.cells y.cells.toArray 66 (0, 0))) (hne : g ≠ gr) (hi : i < l.length) (hroom : l.length + 1 ≤ cap) (hm : l.length ≤ 500) :
   Calls Tryz.prog 324 #[.slice (some ⟨gr, 0, none⟩) l.length cap, .int .i64 i, .slice (some ⟨g, 0, none⟩) 1 1] w (InsP w base (.slice (some ⟨gr, 0, none⟩) l.length cap) (l.take i ++ y :: l.drop i)) := by
 obtain ⟨hbg, hlc, hR⟩ := h.row
 obtain ⟨k1, k2⟩ := kcells_split l i (by omega)
 obtain ⟨k3, k4⟩ := kcells_split l (i + 1) (by omega)
 have hov : ∀ lb cb, (callFunc 345 #[.slice (some ⟨g, 0, none⟩) 1 1, .slice (some ⟨gr, (i + 1) * 2, none⟩) lb cb]).run Tryz.prog w = .ok (.value (.bool false)) w := fun lb cb => by
   obtain ⟨cur, hc1, _, hc2, _⟩ := hR
   rw [run_callFunc_extern Tryz.func345 (by kernel_rfl) (by kernel_rfl) (by kernel_rfl) (e := Extern.SlicesOverlaps.overlaps #[38, 38] #[4]) (by kernel_rfl),
     Lib.run_overlaps_apart w 38 4 66 Tryz.underlying38 2 Tryz.sizeOf66 ⟨g, 0, none⟩ ⟨gr, (i + 1) * 2, none⟩ 1 1 lb cb hne 66 66 2 (cap * 2) (by simp [World.shape?, hg, Kd.cells]) (by simp [World.shape?, hc1, hc2]) (by omega) (by simp [World.frozen?, hg]) (by simp [World.frozen?, hg])]
   rfl
 have hRd : CRow w.drew gr cap (kcells l) := hR.keep rfl
 have C1 : ∀ ty, ∃ w1, (Builtin.copy_ #[38, 38] ty #[.slice (some ⟨gr, (i + 1) * 2, none⟩) (l.length + 1 - (i + 1)) (cap - (i + 1)), .slice (some ⟨gr, i * 2, none⟩) (l.length + 1 - i) (cap - i)]).run Tryz.prog w.drew = .ok (goInt ((l.length - i : Nat) : Int)) w1 ∧ CRow w1 gr cap (kcells (l.take (i + 1)) ++ kcells (l.drop i)) ∧ w.drew.grownBy w1 (some gr) := fun ty => by
   have hmin : Nat.min (l.length + 1 - i) (l.length + 1 - (i + 1)) = l.length - i := by simp only [Nat.min_def]; split <;> omega
   obtain ⟨w1, e1, e2, e3, _⟩ := hRd.copy (o := (i + 1) * 2) (cs := kcells (l.drop i)) (by rw [kcells_len]; omega) (by rw [kcells_len, List.length_drop]; omega) (l.length + 1 - (i + 1)) (cap - (i + 1)) ⟨gr, i * 2, none⟩ (l.length + 1 - i) (cap - i) ty (by rw [hmin, kcells_len, List.length_drop]) (fun j v hj => by
     rw [Addr.add_lit]
     refine hRd.cell ?_
     rw [← k2, List.getElem?_drop] at hj
     exact hj) (kcells_one' _)
   rw [hmin] at e1
   refine ⟨w1, e1, ?_, e3⟩
   have e4 : (kcells l).drop ((i + 1) * 2 + (kcells (l.drop i)).length) = [] := List.drop_of_length_le (by rw [kcells_len, kcells_len, List.length_drop]; omega)
   rw [k3, e4, List.append_nil] at e2
   exact e2
 obtain ⟨w1, e1, R1, G1⟩ := C1 3
 have hg1 : w1.heap[g]? = some (.cells y.cells.toArray 66 (0, 0)) := (G1.block g (lt_blkR hg) (fun e => hne (Option.some.inj e))).trans hg
 have C2 : ∃ w2, (Builtin.copy_ #[38, 38] 3 #[.slice (some ⟨gr, i * 2, none⟩) (l.length + 1 - i) (cap - i), .slice (some ⟨g, 0, none⟩) 1 1]).run Tryz.prog w1 = .ok (goInt 1) w2 ∧ CRow w2 gr cap (kcells (l.take i ++ y :: l.drop i)) ∧ w1.grownBy w2 (some gr) := by
   have hmin : Nat.min 1 (l.length + 1 - i) = 1 := by simp only [Nat.min_def]; split <;> omega
   obtain ⟨w2, e2, e3, e4, _⟩ := R1.copy (o := i * 2) (cs := y.cells) (by rw [List.length_append, kcells_len, kcells_len, List.length_take]; omega) (by show i * 2 + 2 ≤ cap * 2; omega) (l.length + 1 - i) (cap - i) ⟨g, 0, none⟩ 1 1 3 (by rw [hmin]; rfl) (kid_news hg1) (kid_one y)
   rw [hmin] at e2
   refine ⟨w2, e2, ?_, e4⟩
   have l1 : (kcells (l.take (i + 1))).length = (i + 1) * 2 := by rw [kcells_len, List.length_take]; omega
   have t1 : (kcells (l.take (i + 1)) ++ kcells (l.drop i)).take (i * 2) = kcells (l.take i) := by
     rw [List.take_append_of_le_length (by omega), (kcells_split (l.take (i + 1)) i (by rw [List.length_take]; omega)).1, List.take_take, Nat.min_eq_left (by omega)]
   have t2 : (kcells (l.take (i + 1)) ++ kcells (l.drop i)).drop (i * 2 + y.cells.length) = kcells (l.drop i) := by
     show List.drop (i * 2 + 2) _ = _
     rw [show i * 2 + 2 = (kcells (l.take (i + 1))).length by rw [l1]; omega, List.drop_left']
     rfl
   rw [t1, t2] at e3
   rw [kcells_append, kcells_cons, ← List.append_assoc]
   exact e3
 obtain ⟨w2, e2, R2, G2⟩ := C2
 have FIN : Hid (InsP w base (.slice (some ⟨gr, 0, none⟩) l.length cap) (l.take i ++ y :: l.drop i) (.returned (.slice (some ⟨gr, 0, none⟩) (l.length + 1) cap)) w2) := hid (by
   have hl : (l.take i ++ y :: l.drop i).length = l.length + 1 := by simp; omega
   have := R2.own hbg
   rw [hl] at this
   refine ⟨some ⟨gr, 0, none⟩, cap, by rw [hl], by rw [hl]; exact this, fun e => (by cases e), grown_trans (grown_trans (grown_drew w _) G1) G2, fun b e => .inl e⟩)
 have h63 : (cap : Int) ≤ 9223372036854775807 := by
   obtain ⟨cur, _, h5, _⟩ := hR
   unfold maxLen at h5; omega
 have HE1 := hid e1
 have HE2 := hid e2
 obtain ⟨n, hn⟩ : ∃ n, n = l.length := ⟨_, rfl⟩
 rw [← hn] at hm hlc hi hroom FIN HE1 HE2 ⊢
 clear h hg hR hRd C1 e1 R1 G1 hg1 e2 R2 G2 hn k1 k2 k3 k4 hbg
 have hiI : (i : Int) ≤ n := by omega
 have hiN : ¬ ((i : Int) = (n : Int)) := by omega
 have hiB : ((i : Int) == (n : Int)) = false := beq_eq_false_iff_ne.2 hiN
 have hcN : ¬ (cap : Int) < (n : Int) + 1 := by omega
 have hcI : (n : Int) + 1 ≤ cap := by omega
 have hci : ¬ (cap = i) := by omega
 have hci1 : ¬ (cap = i + 1) := by omega
 have hb2 : (i : Int) + 1 ≤ (n : Int) + 1 := by omega
 have hb3 : (i : Int) ≤ (n : Int) + 1 := by omega
 have hw1 : IntKind.i64.wrap ((i : Int) + 1) = (i : Int) + 1 := by rw [IntKind.wrap_i64]; omega
 have hb1 : (0 : Int) ≤ (i : Int) + 1 := by omega
 have htn : ((i : Int) + 1).toNat = i + 1 := by omega
 go_enter Tryz.func324, Tryz.ntmps324
 go_wp2_with (simp only [hov])
 go_region_law (refine step_copy_runI rfl _ _ 38 38 rfl _ _ (by simp [Act.eval, Act.put]) (by simp [Act.eval, Act.put]) HE1.out ?_)
 have e2 := HE2.out
 go_wp2
 go_ret
 exact FIN.out
set_option maxHeartbeats 4000000 in
theorem insert_grow (gr : Nat) (l : List Kd) (i : Nat) (y : Kd) (w : World) (base g : Nat) (h : OwK w base (.slice (some ⟨gr, 0, none⟩) l.length l.length) l) (hg : w.heap[g]? = some (.cells y.cells.toArray 66 (0, 0))) (hb : base ≤ w.heap.size) (hi : i < l.length) (hm : l.length ≤ 500) :
   Calls Tryz.prog 324 #[.slice (some ⟨gr, 0, none⟩) l.length l.length, .int .i64 i, .slice (some ⟨g, 0, none⟩) 1 1] w (InsP w base (.slice (some ⟨gr, 0, none⟩) l.length l.length) (l.take i ++ y :: l.drop i)) := by
 obtain ⟨hbg, hlc, hR⟩ := h.row
 obtain ⟨k1, k2⟩ := kcells_split l i (by omega)
 obtain ⟨i0, hi0, hz0, hz1, hz2⟩ := info_kid
 obtain ⟨G, hG⟩ : ∃ G, G = grownCap w (l.length + 1) l.length 66 := ⟨_, rfl⟩
 have hGn : l.length + 1 ≤ G := by rw [hG]; exact grownCap_ge w _ _ _
 have hG63 : G ≤ maxLen := by rw [hG]; exact grownCap_le_maxLen w (l.length + 1) l.length 66 (by unfold maxLen; omega)
 have hold : (Builtin.firstCells i0.size i (.slice (some ⟨gr, 0, none⟩) i l.length)).run Tryz.prog w.drew = .ok (kcells (l.take i)).toArray w.drew := by
   rw [hz1]
   exact run_firstCells_some w.drew 2 i ⟨gr, 0, none⟩ i l.length (kcells (l.take i)) (by rw [kcells_len, List.length_take]; omega) (fun j v hj => by
     rw [Addr.add_lit, Nat.zero_add]
     refine (hR.keep (w' := w.drew) rfl).cell ?_
     rw [← k1, List.getElem?_take] at hj
     split at hj
     · exact hj
     · cases hj)
 have hrz := Lib.run_append_grow_zeros (P := Tryz.prog) w 38 3 38 66 i0 _ .i64 .i64 Tryz.underlying38 Tryz.underlying3 hi0 hz0 (some ⟨gr, 0, none⟩) i l.length (kcells (l.take i)) hold (l.length + 1 - i) (by omega) (by omega) (by omega) (by omega) (by rw [hz2]; omega) (by rw [hz2, show i + (l.length + 1 - i) = l.length + 1 by omega]; exact growslice_fits (by omega) (by omega))
 rw [show i + (l.length + 1 - i) = l.length + 1 by omega, ← hG] at hrz
 obtain ⟨zs, hzs⟩ : ∃ zs : List Value, zs = (Builtin.zeroCells Kd.no.val.cells (l.length + 1 - i)).toList := ⟨_, rfl⟩
 have hzl : zs.length = (l.length + 1 - i) * 2 := by rw [hzs]; simp [Builtin.zeroCells, Kd.no, Kd.val, Value.cells]
 obtain ⟨W1, hW1⟩ : ∃ W1, W1 = w.drew.alloc (.cells ((kcells (l.take i)).toArray ++ Builtin.zeroCells Kd.no.val.cells (l.length + 1 - i) ++ Builtin.zeroCells Kd.no.val.cells (G - (l.length + 1))) 66) := ⟨_, rfl⟩
 rw [← hW1] at hrz
 have hb1 : Below w.heap.size w W1 := by rw [hW1]; exact (Below.drew (Below.refl _ _)).alloc (Nat.le_refl _) _
 have hn1 : W1.heap[w.heap.size]? = some (.cells ((kcells (l.take i)).toArray ++ Builtin.zeroCells Kd.no.val.cells (l.length + 1 - i) ++ Builtin.zeroCells Kd.no.val.cells (G - (l.length + 1))) 66 (0, 0)) := by
   rw [hW1]
   exact heap_alloc_new w.drew _
 have lt1 : (kcells (l.take i)).length = i * 2 := by rw [kcells_len, List.length_take]; omega
 have R1 : CRow W1 w.heap.size G (kcells (l.take i) ++ zs) := by
   refine ⟨_, hn1, hG63, ?_, ?_⟩
   · simp [Builtin.zeroCells, Kd.no, Kd.val, Value.cells, lt1]
     omega
   · rw [Array.toList_append, Array.toList_append, ← hzs, List.take_append_of_le_length (Nat.le_refl _), List.take_length]
 have hg1 : W1.heap[g]? = some (.cells y.cells.toArray 66 (0, 0)) := (hb1.block g (lt_blkR hg)).trans hg
 have C2 : ∃ w2, (Builtin.copy_ #[38, 38] 3 #[.slice (some ⟨w.heap.size, i * 2, none⟩) (l.length + 1 - i) (G - i), .slice (some ⟨g, 0, none⟩) 1 1]).run Tryz.prog W1 = .ok (goInt 1) w2 ∧ CRow w2 w.heap.size G (kcells (l.take i) ++ y.cells ++ zs.drop 2) ∧ W1.grownBy w2 (some w.heap.size) := by
   have hmin : Nat.min 1 (l.length + 1 - i) = 1 := by simp only [Nat.min_def]; split <;> omega
   obtain ⟨w2, e2, e3, e4, _⟩ := R1.copy (o := i * 2) (cs := y.cells) (by rw [List.length_append]; omega) (by show i * 2 + 2 ≤ G * 2; omega) (l.length + 1 - i) (G - i) ⟨g, 0, none⟩ 1 1 3 (by rw [hmin]; rfl) (kid_news hg1) (kid_one y)
   rw [hmin] at e2
   refine ⟨w2, e2, ?_, e4⟩
   have t1 : (kcells (l.take i) ++ zs).take (i * 2) = kcells (l.take i) := by rw [← lt1, List.take_left']; rfl
   have t2 : (kcells (l.take i) ++ zs).drop (i * 2 + y.cells.length) = zs.drop 2 := by
     show List.drop (i * 2 + 2) _ = _
     rw [← lt1, List.drop_append, List.drop_of_length_le (by omega), Nat.add_sub_cancel_left]
     rfl
   rw [t1, t2] at e3
   exact e3
 obtain ⟨w2, e2, R2, G2⟩ := C2
 have hold2 : CRow w2.drew gr l.length (kcells l) := hR.keep ((G2.block gr (by have := hR.lt; have := hb1.size; omega) (fun e => by have := Option.some.inj e; have := hR.lt; omega)).trans (hb1.block gr hR.lt))
 have C3 : ∃ w3, (Builtin.copy_ #[38, 38] 3 #[.slice (some ⟨w.heap.size, (i + 1) * 2, none⟩) (l.length + 1 - (i + 1)) (G - (i + 1)), .slice (some ⟨gr, i * 2, none⟩) (l.length - i) (l.length - i)]).run Tryz.prog w2.drew = .ok (goInt ((l.length - i : Nat) : Int)) w3 ∧ CRow w3 w.heap.size G (kcells (l.take i ++ y :: l.drop i)) ∧ w2.drew.grownBy w3 (some w.heap.size) := by
   have hmin : Nat.min (l.length - i) (l.length + 1 - (i + 1)) = l.length - i := by simp only [Nat.min_def]; split <;> omega
   have hly : y.cells.length = 2 := rfl
   obtain ⟨w3, e3, e4, e5, _⟩ := (R2.keep (w' := w2.drew) rfl).copy (o := (i + 1) * 2) (cs := kcells (l.drop i)) (by rw [List.length_append, List.length_append, lt1, hly]; omega) (by rw [kcells_len, List.length_drop]; omega) (l.length + 1 - (i + 1)) (G - (i + 1)) ⟨gr, i * 2, none⟩ (l.length - i) (l.length - i) 3 (by rw [hmin, kcells_len, List.length_drop]) (fun j v hj => by
     rw [Addr.add_lit]
     refine hold2.cell ?_
     rw [← k2, List.getElem?_drop] at hj
     exact hj) (kcells_one' _)
   rw [hmin] at e3
   refine ⟨w3, e3, ?_, e5⟩
   have l2 : (kcells (l.take i) ++ y.cells).length = (i + 1) * 2 := by rw [List.length_append, lt1, hly]; omega
   have t1 : (kcells (l.take i) ++ y.cells ++ zs.drop 2).take ((i + 1) * 2) = kcells (l.take i) ++ y.cells := by rw [← l2, List.take_left']; rfl
   have t2 : (kcells (l.take i) ++ y.cells ++ zs.drop 2).drop ((i + 1) * 2 + (kcells (l.drop i)).length) = [] := List.drop_of_length_le (by rw [List.length_append, l2, List.length_drop, hzl, kcells_len, List.length_drop]; omega)
   rw [t1, t2, List.append_nil] at e4
   rw [kcells_append, kcells_cons, ← List.append_assoc]
   exact e4
 obtain ⟨w3, e3, R3, G3⟩ := C3
 have FIN : Hid (InsP w base (.slice (some ⟨gr, 0, none⟩) l.length l.length) (l.take i ++ y :: l.drop i) (.returned (.slice (some ⟨w.heap.size, 0, none⟩) (l.length + 1) G)) w3) := hid (by
   have hl : (l.take i ++ y :: l.drop i).length = l.length + 1 := by simp; omega
   have := R3.own hb
   rw [hl] at this
   exact ⟨some ⟨w.heap.size, 0, none⟩, G, by rw [hl], by rw [hl]; exact this, fun e => (by cases e), grown_new (grown_trans (grown_new (grown_of hb1 _) (Nat.le_refl _) G2) (grown_drew w2 _)) (Nat.le_refl _) G3, fun b e => .inr (Nat.le_of_eq (Option.some.inj e))⟩)
 have HE3 := hid e3
 have HRZ := hid hrz
 have hGI : (G : Int) ≤ 9223372036854775807 := by unfold maxLen at hG63; omega
 have hbs : w.heap.size = w.heap.size := rfl
 obtain ⟨B, hB⟩ : ∃ B, B = w.heap.size := ⟨_, rfl⟩
 rw [← hB] at FIN HE3 HRZ e2
 obtain ⟨n, hn⟩ : ∃ n, n = l.length := ⟨_, rfl⟩
 rw [← hn] at hm hlc hi hGn FIN HE3 HRZ e2 ⊢
 clear h hg hR R1 hg1 R2 G2 hold2 R3 G3 e3 hrz hn k1 k2 hbg hzs hzl hb1 hn1 hW1 lt1 hold hG hi0 hz0 hz1 hz2 hB hbs hG63
 have hiI : (i : Int) ≤ n := by omega
 have hiN : ¬ ((i : Int) = (n : Int)) := by omega
 have hiB : ((i : Int) == (n : Int)) = false := beq_eq_false_iff_ne.2 hiN
 have hcN : (n : Int) < (n : Int) + 1 := by omega
 have hkk : (n : Int) + 1 - (i : Int) = ((n + 1 - i : Nat) : Int) := by omega
 rw [← hkk] at HRZ
 clear hkk
 have hni : ¬ (n = i) := by omega
 have hGi : ¬ (G = i) := by omega
 have hGi1 : ¬ (G = i + 1) := by omega
 have hb2 : (i : Int) + 1 ≤ (n : Int) + 1 := by omega
 have hb3 : (i : Int) ≤ (n : Int) + 1 := by omega
 have hw1 : IntKind.i64.wrap ((i : Int) + 1) = (i : Int) + 1 := by rw [IntKind.wrap_i64]; omega
 have hb1 : (0 : Int) ≤ (i : Int) + 1 := by omega
 have htn : ((i : Int) + 1).toNat = i + 1 := by omega
 have hw3 : IntKind.i64.wrap ((n : Int) + 1 - i) = (n : Int) + 1 - i := by rw [IntKind.wrap_i64]; omega
 go_enter Tryz.func324, Tryz.ntmps324
 go_wp2_with (at_builtin; refine Lib.wpList_append_run _ rfl _ _ _ _ rfl _ _ rfl rfl _ _ HRZ.out ?_)
 go_region_law (refine step_copy_runI rfl _ _ 38 38 rfl _ _ (by simp [Act.eval, Act.put]) (by simp [Act.eval, Act.put]) HE3.out ?_)
 go_wp2
 go_ret
 exact FIN.out
theorem ins_at (s : ByteArray) (g : Int) : ∀ (l : List Kd) (i : Nat), i ≤ l.length → (∀ j, j < i → ltK (l.getD j Kd.no) s = true) → (∀ j, i ≤ j → j < l.length → ltK (l.getD j Kd.no) s = false) → kq l s = none → insR Kd.nm leS ⟨s, g⟩ l = l.take i ++ ⟨s, g⟩ :: l.drop i
 | [], i, _, _, _, _ => by simp [insR]
 | x :: t, 0, _, _, h2, hq => by
   have h0 : ltK x s = false := h2 0 (Nat.le_refl _) (by simp)
   rw [ltK_leS] at h0
   have h1 : leS s x.nm = true := by cases q : leS s x.nm with | true => rfl | false => rw [q] at h0; cases h0
   unfold insR
   rw [if_pos h1, filter_all Kd.nm (fst_ne hq)]
   rfl
 | x :: t, i + 1, hi, h1, h2, hq => by
   have h0 : ltK x s = true := h1 0 (by omega)
   rw [ltK_leS] at h0
   have h3 : leS s x.nm = false := by cases q : leS s x.nm with | false => rfl | true => rw [q] at h0; cases h0
   have hq' : kq t s = none := by
     unfold kq at hq ⊢
     rw [fnd_cons] at hq
     split at hq
     · cases hq
     · exact hq
   unfold insR
   rw [if_neg (by simp [h3]), ins_at s g t i (by simpa using hi) (fun j hj => h1 (j + 1) (by omega)) (fun j h4 h5 => h2 (j + 1) (by omega) (by simpa using h5)) hq']
   rfl
where fst_ne {l : List Kd} {s : ByteArray} (h : kq l s = none) : ∀ y ∈ l, y.nm ≠ s := fnd_none Kd.nm h
theorem ka_shape {w : World} {base c : Nat} {l : List Kd} {a : Option Addr} (h : OwK w base (.slice a l.length c) l) : a = none ∧ l = [] ∨ ∃ g, a = some ⟨g, 0, none⟩ := by
 rcases h.2 with ⟨e1, e2⟩ | ⟨g, cap, cur, e1, _⟩
 · simp only [Value.slice.injEq] at e1
   exact .inl ⟨e1.1, List.eq_nil_of_length_eq_zero e2⟩
 · simp only [Value.slice.injEq] at e1
   exact .inr ⟨g, e1.1⟩
theorem insert_c (a : Option Addr) (cap : Nat) (l : List Kd) (i : Nat) (y : Kd) (w : World) (base g : Nat) (h : OwK w base (.slice a l.length cap) l) (hg : w.heap[g]? = some (.cells y.cells.toArray 66 (0, 0))) (hne : ∀ gr o s, a = some ⟨gr, o, s⟩ → g ≠ gr) (hb : base ≤ w.heap.size) (hi : i ≤ l.length) (hm : l.length ≤ 500) :
   Calls Tryz.prog 324 #[.slice a l.length cap, .int .i64 i, .slice (some ⟨g, 0, none⟩) 1 1] w (InsP w base (.slice a l.length cap) (l.take i ++ y :: l.drop i)) := by
 by_cases e : i = l.length
 · subst e
   rw [List.take_length, List.drop_length]
   exact insert_end a cap l y w base g h hg hb hm
 · rcases ka_shape h with ⟨_, e2⟩ | ⟨gr, e2⟩
   · subst e2
     simp at hi e
     omega
   · subst e2
     obtain ⟨_, hlc, _⟩ := h.row
     by_cases q : l.length + 1 ≤ cap
     · exact insert_room gr cap l i y w base g h hg (hne gr 0 none rfl) (by omega) q hm
     · have ec : cap = l.length := by omega
       subst ec
       exact insert_grow gr l i y w base g h hg hb (by omega) hm
theorem own_kb (x : Nd) (n c : Nat) : (Value.slice x.ka n c).ownBlock = kb x := by
 unfold kb
 cases x.ka <;> rfl
theorem MT.lie' {w w' : World} {base tb m : Nat} {N : Tab} (h : MT w base tb m N) {f : Int} {p : Addr} {x : Nd} (hN : N f = some (p, x)) (hg : w.grownBy w' (Value.slice x.ka x.ks.length x.kc).ownBlock) : Lie w' p x := by
 obtain ⟨_, h2, h3, _⟩ := h.nd f p x hN
 have h2' := h2
 obtain ⟨_, cs, hb, _⟩ := h2
 exact h2'.keep (hg.block _ (lt_blkR hb) (row_ne (b := 0) h3 hb (fun _ e => by cases e)))
theorem MT.size {w : World} {base tb m : Nat} {N : Tab} (h : MT w base tb m N) : base ≤ w.heap.size := by
 have h1 := h.low
 have h2 := h.map.lt
 omega
def EntP (w : World) (base tb m : Nat) (N : Tab) (f : Int) (p : Addr) (x : Nd) (L : List Kd) (e : Ending) (w' : World) : Prop := e = .returned (.tuple #[]) ∧ (∃ a c, MT w' base tb m (updT N f p (x.kids a c L))) ∧ Below base w w' ∧ KeepT w w'
theorem MT.entP {w w2 w' : World} {base tb m : Nat} {N : Tab} (h : MT w2 base tb m N) {f : Int} {p : Addr} {x : Nd} (hN : N f = some (p, x)) (hb : Below base w w2) (hkp : KeepT w w2) {L : List Kd} {a : Option Addr} {c : Nat} (hw : ∀ q ∈ L, q.Wf) (hl : L.length ≤ 1000)
   (hO : OwK w' base (.slice a L.length c) L) (hn : a = none → c = 0) (hg : w2.grownBy w' (Value.slice x.ka x.ks.length x.kc).ownBlock) (ha : ∀ b, a.map (·.block) = some b → (Value.slice x.ka x.ks.length x.kc).ownBlock = some b ∨ w2.heap.size ≤ b) :
   EntP w base tb m N f p x L (.returned (.tuple #[])) (w'.setCell ⟨p.block, p.off + 5, none⟩ (.slice a L.length c)) := by
 obtain ⟨h1, _, h3, _⟩ := h.nd f p x hN
 have hl3 := h.lie' hN hg
 refine ⟨rfl, ⟨a, c, h.kids hN hg hO hn hw hl (fun b hb2 => by rw [← own_kb x x.ks.length x.kc]; exact ha b hb2)⟩, ?_, ?_⟩
 · exact (below_grownK hb h3.2.2.2 (Nat.le_refl _) h.size hg).setCell (p := ⟨p.block, p.off + 5, none⟩) h1 _
 · obtain ⟨_, cs3, hb3, _⟩ := hl3
   refine KeepT.trans hkp (KeepT.trans ?_ (KeepT.set hb3 _ _))
   intro i cs t fr e h5 h6
   exact (hg.block i (lt_blkR e) (row_ne (b := 0) h3 e (fun cs2 e2 => by cases e2; exact h6 rfl))).trans e
set_option maxHeartbeats 2000000 in
theorem tenter_c {w : World} {base tb m : Nat} {N : Tab} (h : MT w base tb m N) {f : Int} {p : Addr} {x : Nd} (hN : N f = some (p, x)) {s : ByteArray} {g : Int} (hs : KSrt x.ks) (hq : kq x.ks s = none) (hm : x.ks.length ≤ 500) (hsz : s.size ≤ maxLen) (hg0 : g ≠ 0) (hg1 : 0 ≤ g ∧ g < 4294967296) :
   Calls Tryz.prog 293 #[.pointer (some p), .string s, .int .u32 g] w (EntP w base tb m N f p x (entL x.ks s g)) := by
 obtain ⟨_, hl, hw, _⟩ := h.nd f p x hN
 have hsp := hl.1
 obtain ⟨_, _, _, _, _, y5⟩ := hl.ndc.all
 have BC := hid (bsearch_c x.ka x.kc x.ks s w hw.r.ok.2.2.2.2.2 hs (by omega))
 have HQ : Hid (∀ i, i ≤ x.ks.length → (∀ j, j < i → ltK (x.ks.getD j Kd.no) s = true) → (∀ j, i ≤ j → j < x.ks.length → ltK (x.ks.getD j Kd.no) s = false) → x.ks.take i ++ ⟨s, g⟩ :: x.ks.drop i = entL x.ks s g) := hid (fun i h1 h2 h3 => by rw [entL_insR x.ks s hg0, ins_at s g x.ks i h1 h2 h3 hq])
 have HW : Hid (∀ q ∈ entL x.ks s g, q.Wf) := hid (fun q hq2 => by
   rw [entL_insR x.ks s hg0] at hq2
   rcases insR_mem Kd.nm leS hq2 with e | e
   · rw [e]; exact ⟨hsz, hg1⟩
   · exact hw.1.2.2.2.2.2.1 q e)
 have HL : Hid ((entL x.ks s g).length ≤ 1000) := hid (by
   have := klen_ent s g hs
   rw [hq, if_neg hg0] at this
   simp only [Option.elim_none] at this
   omega)
 have H := hid h
 have HN := hid hN
 have HM : Hid (x.ks.length ≤ 500) := hid hm
 have C5 : Hid (∀ W, Below w.heap.size w W → W.cell? ⟨p.block, p.off + 5, none⟩ = some (.slice x.ka x.ks.length x.kc)) := hid (fun W hW => cell_later hW y5)
 obtain ⟨pb, po, ps⟩ := p
 simp only at hsp y5 C5
 subst hsp
 clear h hN hl hw hs hq hsz hg1 hg0 hm
 obtain ⟨n, hn⟩ : ∃ n, n = x.ks.length := ⟨_, rfl⟩
 have HNN := hid hn
 rw [← hn] at y5 BC C5
 clear hn
 go_enter Tryz.func293, Tryz.ntmps293
 go_upto_region 1 with (go_at_call 321; refine BC.out.mono ?_; intro e1 w1 h1; obtain ⟨i, fb, rfl, i1, i2, i3, hb1⟩ := h1; have I1 := hid (HQ.out i i1 i2 i3); have J1 := hid i1; have B1 := hid hb1; have c5 := C5.out w1 hb1; clear i1 i2 i3 hb1)
 clear HQ BC y5
 have b2 := below_1 w1 (.cells #[.string s, .int .u32 g] 66)
 have h2 := heap_alloc_new w1 (.cells #[.string s, .int .u32 g] 66)
 have M2 := hid ((H.out.later B1.out).later b2)
 have B2 := hid (B1.out.trans (b2.mono B1.out.size))
 have NE : Hid (∀ gr o s, x.ka = some ⟨gr, o, s⟩ → w1.heap.size ≠ gr) := hid (fun gr o s e e2 => by
   have hk : kb x = some gr := by unfold kb; rw [e]; rfl
   have := (((H.out.later B1.out).nd f _ x HN.out).2.2.1.kblk hk).2
   omega)
 have IC := hid (insert_c x.ka x.kc x.ks i ⟨s, g⟩ _ base w1.heap.size (M2.out.nd f _ x HN.out).2.2.1.2.2.2 h2 NE.out M2.out.size J1.out HM.out)
 rw [I1.out, ← HNN.out] at IC
 clear h2 b2
 have FN : Hid (∀ a3 c3 w3, OwK w3 base (.slice a3 (entL x.ks s g).length c3) (entL x.ks s g) → (a3 = none → c3 = 0) → (w1.alloc (.cells #[.string s, .int .u32 g] 66)).grownBy w3 (Value.slice x.ka n x.kc).ownBlock → (∀ b, a3.map (·.block) = some b → (Value.slice x.ka n x.kc).ownBlock = some b ∨ (w1.alloc (.cells #[.string s, .int .u32 g] 66)).heap.size ≤ b) → EntP w base tb m N f ⟨pb, po, none⟩ x (entL x.ks s g) (.returned (.tuple #[])) (w3.setCell ⟨pb, po + 5, none⟩ (.slice a3 (entL x.ks s g).length c3))) := hid (fun a3 c3 w3 o3 n3 g3 k3 => by
   rw [HNN.out] at g3 k3
   exact M2.out.entP HN.out (B2.out.mono H.out.size) (KeepT.of B2.out) HW.out HL.out o3 n3 g3 k3)
 have L3 : Hid (∀ w3, (w1.alloc (.cells #[.string s, .int .u32 g] 66)).grownBy w3 (Value.slice x.ka n x.kc).ownBlock → Lie w3 ⟨pb, po, none⟩ x) := hid (fun w3 g3 => by rw [HNN.out] at g3; exact M2.out.lie' HN.out g3)
 have c5' : (w1.alloc (.cells #[.string s, .int .u32 g] 66)).cell? ⟨pb, po + 5, none⟩ = some (.slice x.ka n x.kc) := C5.out _ B2.out
 generalize entL x.ks s g = L at *
 clear M2 B2 H HW HL NE C5
 go_wp2_with (go_at_call 324; refine IC.out.mono ?_; intro e3 w3 h3; obtain ⟨a3, c3, rfl, o3, n3, g3, k3⟩ := h3; have F3 := hid (FN.out a3 c3 w3 o3 n3 g3 k3); have l3 := L3.out w3 g3; have z5 := l3.ndc.all.2.2.2.2.2; have fz := l3.fz; clear o3 n3 g3 k3 l3; simp only at z5 fz)
 exact body_end (by kernel_rfl) rfl F3.out
def Keeps (base : Nat) (w w' : World) : Prop := Below base w w' ∧ KeepT w w'
theorem Keeps.of {base : Nat} {w w' : World} (h : Below w.heap.size w w') (hz : base ≤ w.heap.size) : Keeps base w w' := ⟨h.mono hz, KeepT.of h⟩
theorem Keeps.trans {base : Nat} {a b c : World} (h : Keeps base a b) (k : Keeps base b c) : Keeps base a c := ⟨h.1.trans k.1, h.2.trans k.2⟩
def DoP (w : World) (base tb : Nat) (r : Int × List Nd) (e : Ending) (w' : World) : Prop :=
 (r.1 = 0 ∧ e = .returned (.tuple #[]) ∧ (∃ N', MT w' base tb r.2.length N' ∧ Rel N' r.2) ∧ Keeps base w w') ∨ (r.1 ≠ 0 ∧ e = PT r.1 ∧ Below w.heap.size w w')
theorem DoP.err {w w' : World} {base tb : Nat} {r : Int × List Nd} {c : Int} (h : r = (c, [])) (hc : c ≠ 0) (hb : Below w.heap.size w w') : DoP w base tb r (PT c) w' := by
 subst h
 exact .inr ⟨hc, rfl, hb⟩
theorem DoP.ok {w w' : World} {base tb m : Nat} {r : Int × List Nd} {L : List Nd} {N' : Tab} (h : r = (0, L)) (hm : m = L.length) (hM : MT w' base tb m N') (hR : Rel N' L) (hb : Keeps base w w') : DoP w base tb r (.returned (.tuple #[])) w' := by
 subst h hm
 exact .inl ⟨rfl, rfl, ⟨N', hM, hR⟩, hb⟩
theorem set_len {l : List Nd} (h : Srt l) {n x : Nd} (hx : getF l n.fid = some x) : (setL l n).length = l.length := by
 have := len_set n h
 rw [hx] at this
 simp only [Option.elim_some] at this
 omega
theorem dirE_n {o : Option Nd} (h : o = none) : dirE o = 5 := by rw [h]; rfl
theorem dirE_k {o : Option Nd} {x : Nd} (h : o = some x) (hk : x.k ≠ 2) : dirE o = 7 := by rw [h]; simp [dirE, hk]
theorem conv_tx (W : World) (dt : ByteArray) (hd : dt.size ≤ 1000) : ∃ W' a c, (convert 9 37 (.string dt)).run Tryz.prog W = .ok (.slice a dt.size c) W' ∧ RowAt W' W.heap.size 5 a ((txB dt).map u8V) ∧ Below W.heap.size W W' ∧ (a = none → c = 0) := by
 have kc := run_bytes_of_string (P := Tryz.prog) W 9 37 5 dt Tryz.underlying9 Tryz.underlying37 Tryz.underlying5
 exact ⟨_, _, _, kc, row_text (heap_alloc_new W.drew _) (Nat.le_refl _), (Below.drew (Below.refl _ _)).alloc (Nat.le_refl _) _, fun e => by cases e⟩
theorem tab_dir {w : World} {base tb m : Nat} {N : Tab} {l : List Nd} (h : MT w base tb m N) (hR : Rel N l) (R : Rt l) {f : Int} {p : Addr} {x : Nd} (hN : N f = some (p, x)) (hk : x.k = 2) : KSrt x.ks ∧ x.ks.length ≤ 12 ∧ ∀ q ∈ x.ks, q.fid ≠ 0 := by
 have hl := hR.got hN
 have h1 := R.kok hl hk
 have h2 := (R.at hl).1
 exact ⟨h1.1, h2.2.2.1, fun q hq => (h1.2 q hq).2⟩
theorem kid_of {l : List Kd} {s : ByteArray} {q : Kd} (hq : kq l s = some q) (h0 : ∀ q ∈ l, q.fid ≠ 0) : kidI l s ≠ 0 := by
 rw [kidI_kq, hq]
 exact h0 q (kq_some hq).1
theorem Rel.set2 {N : Tab} {l : List Nd} (h : Rel N l) {f g : Int} {p q : Addr} {x y X Y : Nd} (hx : x.er = X) (hy : y.er = Y) (hf : X.fid = f) (hg : Y.fid = g) (hne : f ≠ g) : Rel (updT (updT N g q y) f p x) (setL (setL l X) Y) := fun t => by
 rw [getF_set, getF_set, hf, hg]
 unfold updT
 by_cases e : t = g
 · subst e
   rw [if_pos rfl, if_neg (fun e => hne e.symm), if_pos rfl, ← hy]
   rfl
 · rw [if_neg e, if_neg e]
   by_cases e2 : t = f
   · rw [if_pos e2, if_pos e2, ← hx]
     rfl
   · rw [if_neg e2, if_neg e2]
     exact h t
end Go.Proofs.YtfmghbennahlfaaGreat
