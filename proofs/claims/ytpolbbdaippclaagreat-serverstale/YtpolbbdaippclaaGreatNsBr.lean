/-
  
-/
import Derived.Test.YtpolbbdaippclaaGreatNsBq
import Derived.Laws.CopyRow
import Derived.Laws.IdiomCopy
import Derived.Lib.AppendZerosOnto
import Derived.Lib.Overlaps
import Derived.Maps.AppendAt
import Derived.Deep.RegionLaw
import Derived.Shelf.Spec.SlicesInsert
namespace Go.Proofs.YtpolbbdaippclaaGreat
open Go.RowKit Go.ChangeShapes Go.WideShapes Go.ChangeAt Go.Maps Go.Shelf
set_option linter.unusedVariables false
set_option linter.unusedSimpArgs false
set_option maxRecDepth 100000
theorem kcells_append (a b : List Kd) : kcells (a ++ b) = kcells a ++ kcells b := by unfold kcells; rw [List.flatMap_append]
theorem kcells_cons (x : Kd) (b : List Kd) : kcells (x :: b) = x.cells ++ kcells b := by unfold kcells; rw [List.flatMap_cons]
theorem kcells_one' (l : List Kd) : ∀ u ∈ kcells l, u.oneCell' = true := fun u hu => by
 unfold kcells at hu
 obtain ⟨x, _, hx⟩ := List.mem_flatMap.1 hu
 exact kid_one x u hx
theorem kcells_split (l : List Kd) (i : Nat) (hi : i ≤ l.length) : (kcells l).take (i * 2) = kcells (l.take i) ∧ (kcells l).drop (i * 2) = kcells (l.drop i) := by
 have e : kcells l = kcells (l.take i) ++ kcells (l.drop i) := by rw [← kcells_append, List.take_append_drop]
 have hl : (kcells (l.take i)).length = i * 2 := by rw [kcells_len, List.length_take]; omega
 constructor
 · rw [e, ← hl, List.take_left']; rfl
 · rw [e, ← hl, List.drop_left']; rfl
def CRow (w : World) (g cap : Nat) (xs : List Value) : Prop := ∃ cur : Array Value, w.heap[g]? = some (.cells cur 117 (0, 0)) ∧ cap ≤ maxLen ∧ cur.size = cap * 2 ∧ cur.toList.take xs.length = xs
theorem CRow.keep {w w' : World} {g cap : Nat} {xs : List Value} (h : CRow w g cap xs) (hb : w'.heap[g]? = w.heap[g]?) : CRow w' g cap xs := by
 obtain ⟨cur, h1, h2⟩ := h
 exact ⟨cur, hb.trans h1, h2⟩
theorem CRow.lt {w : World} {g cap : Nat} {xs : List Value} (h : CRow w g cap xs) : g < w.heap.size := by
 obtain ⟨cur, h1, h2⟩ := h
 exact lt_blkR h1
theorem CRow.le {w : World} {g cap : Nat} {xs : List Value} (h : CRow w g cap xs) : xs.length ≤ cap * 2 := by
 obtain ⟨cur, h1, _, h2, h3⟩ := h
 have := congrArg List.length h3
 have hs : cur.toList.length = cur.size := by simp
 rw [List.length_take] at this
 omega
theorem CRow.cell {w : World} {g cap : Nat} {xs : List Value} (h : CRow w g cap xs) {j : Nat} {v : Value} (hj : xs[j]? = some v) : w.cell? ⟨g, j, none⟩ = some v := by
 obtain ⟨cur, h1, _, h2, h3⟩ := h
 rw [cell_of_row w g j cur _ _ h1, ← Array.getElem?_toList]
 rw [← h3, List.getElem?_take] at hj
 split at hj
 · exact hj
 · cases hj
theorem CRow.fz {w : World} {g cap : Nat} {xs : List Value} (h : CRow w g cap xs) (i : Nat) : w.frozen? ⟨g, i, none⟩ = false := by
 obtain ⟨cur, h1, _⟩ := h
 simp [World.frozen?, h1]
theorem CRow.own {w : World} {g cap base : Nat} {L : List Kd} (h : CRow w g cap (kcells L)) (hb : base ≤ g) : OwK w base (.slice (some ⟨g, 0, none⟩) L.length cap) L := by
 have hle := h.le
 obtain ⟨cur, h1, h2, h3, h4⟩ := h
 rw [kcells_len] at h4 hle
 exact ⟨kcells_len L, .inr ⟨g, cap, cur, rfl, hb, h1, by omega, h2, h3, h4⟩⟩
theorem OwK.row {w : World} {g cap base : Nat} {L : List Kd} (h : OwK w base (.slice (some ⟨g, 0, none⟩) L.length cap) L) : base ≤ g ∧ L.length ≤ cap ∧ CRow w g cap (kcells L) := by
 rcases h.2 with ⟨e, _⟩ | ⟨g', cap', cur, e, hb, h1, h2, h3, h4, h5⟩
 · cases e
 · cases e
   exact ⟨hb, h2, cur, h1, h3, h4, by rw [kcells_len]; exact h5⟩
theorem CRow.write {w : World} {g cap : Nat} {xs : List Value} (h : CRow w g cap xs) {o : Nat} {cs : List Value} (ho : o ≤ xs.length) (hc : o + cs.length ≤ cap * 2) :
   ∃ cur : Array Value, w.heap[g]? = some (.cells cur 117 (0, 0)) ∧ o + cs.length ≤ cur.size ∧ CRow (w.setRow g (cur.toList.take o ++ cs ++ cur.toList.drop (o + cs.length)).toArray) g cap (xs.take o ++ cs ++ xs.drop (o + cs.length)) ∧ w.grownBy (w.setRow g (cur.toList.take o ++ cs ++ cur.toList.drop (o + cs.length)).toArray) (some g) ∧ (w.setRow g (cur.toList.take o ++ cs ++ cur.toList.drop (o + cs.length)).toArray).heap.size = w.heap.size := by
 have hle := h.le
 obtain ⟨cur, h1, h2, h3, h4⟩ := h
 refine ⟨cur, h1, by omega, ⟨_, setRow_heap w g cur _ _ _ h1, h2, ?_, ?_⟩, ⟨rfl, rfl, rfl, by rw [setRow_size]; exact Nat.le_refl _, fun k hk hn => setRow_other w g k _ (fun e => hn (by rw [e]))⟩, setRow_size ..⟩
 · simp only [List.size_toArray, List.length_append, List.length_take, List.length_drop, Array.length_toList]
   omega
 · have e1 : cur.toList.take o = xs.take o := by rw [← h4, List.take_take, Nat.min_eq_left (by omega)]
   have lo : (xs.take o).length = o := by rw [List.length_take]; omega
   rw [e1]
   simp only
   by_cases q : o + cs.length ≤ xs.length
   · have e2 : xs.drop (o + cs.length) = (cur.toList.drop (o + cs.length)).take (xs.length - (o + cs.length)) := by
       rw [← List.drop_take, h4]
     have l2 : (xs.take o ++ cs ++ xs.drop (o + cs.length)).length = (xs.take o ++ cs).length + (xs.length - (o + cs.length)) := by
       rw [List.length_append, List.length_drop]
     rw [l2, List.take_append, Nat.add_sub_cancel_left, List.take_of_length_le (by omega), ← e2]
   · have e2 : xs.drop (o + cs.length) = [] := List.drop_of_length_le (by omega)
     rw [e2, List.append_nil, List.take_append, Nat.sub_self, List.take_zero, List.append_nil, List.take_of_length_le (Nat.le_refl _)]
theorem kid_size : (Tryz.prog.info? 117).map (·.size) = some 2 := by
 obtain ⟨i, hi, _, h2, _⟩ := info_kid
 rw [hi]
 simp [h2]
theorem CRow.copy {w : World} {g cap : Nat} {xs : List Value} (h : CRow w g cap xs) {o : Nat} {cs : List Value} (ho : o ≤ xs.length) (hc : o + cs.length ≤ cap * 2) (dLen dCap : Nat) (a : Addr) (sLen sCap : Nat) (ty : TypeId)
   (hn : cs.length = Nat.min sLen dLen * 2) (hsrc : ∀ j v, cs[j]? = some v → w.cell? (a.add j) = some v) (h1 : ∀ v ∈ cs, v.oneCell' = true) :
   ∃ w', (Builtin.copy_ #[50, 50] ty #[.slice (some ⟨g, o, none⟩) dLen dCap, .slice (some a) sLen sCap]).run Tryz.prog w = .ok (goInt (Nat.min sLen dLen)) w' ∧ CRow w' g cap (xs.take o ++ cs ++ xs.drop (o + cs.length)) ∧ w.grownBy w' (some g) ∧ w'.heap.size = w.heap.size := by
 obtain ⟨cur, hg, hfit, hR, hG, hS⟩ := h.write ho hc
 refine ⟨_, ?_, hR, hG, hS⟩
 have hl := run_loadCells_list (P := Tryz.prog) w a cs hsrc
 have hst := run_storeCells_at Tryz.prog g o 117 cs 0 cur w hg (by simpa using hfit) h1
 have hs := kid_size
 cases hq : Tryz.prog.info? 117 with
 | none => rw [hq] at hs; cases hs
 | some i =>
   have hi : i.size = 2 := by rw [hq] at hs; simpa using hs
   simp [Builtin.copy_, run_underlying Tryz.underlying50, Builtin.lenOf, Builtin.firstCells, sizeOf, typeInfo, hq, hi, ← hn, hl, hst]
theorem grown_trans {a b c : World} {r : Option Nat} (h : a.grownBy b r) (k : b.grownBy c r) : a.grownBy c r :=
 ⟨k.os.trans h.os, k.tape.trans h.tape, k.output.trans h.output, Nat.le_trans h.size k.size, fun i hi hn => (k.block i (Nat.lt_of_lt_of_le hi h.size) hn).trans (h.block i hi hn)⟩
theorem grown_new {a b c : World} {r : Option Nat} {g : Nat} (h : a.grownBy b r) (hg : a.heap.size ≤ g) (k : b.grownBy c (some g)) : a.grownBy c r :=
 ⟨k.os.trans h.os, k.tape.trans h.tape, k.output.trans h.output, Nat.le_trans h.size k.size, fun i hi hn => (k.block i (Nat.lt_of_lt_of_le hi h.size) (fun e => by have := Option.some.inj e; omega)).trans (h.block i hi hn)⟩
theorem grown_of {w w' : World} (h : Below w.heap.size w w') (r : Option Nat) : w.grownBy w' r := ⟨h.os, h.tape, h.output, h.size, fun k hk _ => h.block k hk⟩
theorem grown_drew (w : World) (r : Option Nat) : w.grownBy w.drew r := ⟨rfl, rfl, rfl, Nat.le_refl _, fun _ _ _ => rfl⟩
def InsP (w : World) (base : Nat) (v : Value) (L : List Kd) (e : Ending) (w' : World) : Prop :=
 ∃ a' c', e = .returned (.slice a' L.length c') ∧ OwK w' base (.slice a' L.length c') L ∧ (a' = none → c' = 0) ∧ w.grownBy w' v.ownBlock ∧ ∀ b, a'.map (·.block) = some b → v.ownBlock = some b ∨ w.heap.size ≤ b
theorem owk_nil {w : World} {base c : Nat} {l : List Kd} {a : Option Addr} (h : OwK w base (.slice a l.length c) l) : a = none → c = 0 := fun e => by
 rcases h.2 with ⟨e1, _⟩ | ⟨g, cap, cur, e1, _⟩
 · simp only [Value.slice.injEq] at e1; exact e1.2.2
 · rw [e] at e1; simp at e1
theorem own_shapeK {w : World} {base e size n : Nat} {v : Value} {xs : List Value} (h : w.ownsRow base e size v n xs) : ∃ a cap, v = .slice a n cap := by
 rcases h.2 with ⟨hv, hn⟩ | ⟨g, cap, cur, hv, _⟩
 · exact ⟨none, 0, by rw [hv, hn]⟩
 · exact ⟨_, _, hv⟩
theorem insP_of {w w' : World} {base : Nat} {v v' : Value} {L : List Kd} (h : OwK w' base v' L) (hg : w.grownBy w' v.ownBlock) (hb : v'.ownBlock = v.ownBlock ∨ v'.ownBlock = some w.heap.size) : InsP w base v L (.returned v') w' := by
 obtain ⟨a, c, rfl⟩ := h.shape
 refine ⟨a, c, rfl, h, owk_nil h, hg, fun b hb2 => ?_⟩
 cases a with
 | none => cases hb2
 | some ad =>
   have e : b = ad.block := (Option.some.inj hb2).symm
   subst e
   rcases hb with e | e
   · exact .inl e.symm
   · have := Option.some.inj e
     exact .inr (by omega)
set_option maxHeartbeats 2000000 in
theorem insert_end (a : Option Addr) (cap : Nat) (l : List Kd) (y : Kd) (w : World) (base g : Nat) (h : OwK w base (.slice a l.length cap) l) (hg : w.heap[g]? = some (.cells y.cells.toArray 117 (0, 0))) (hb : base ≤ w.heap.size) (hm : l.length ≤ 500) :
   Calls Tryz.prog 238 #[.slice a l.length cap, .int .i64 l.length, .slice (some ⟨g, 0, none⟩) 1 1] w (InsP w base (.slice a l.length cap) (l ++ [y])) := by
 obtain ⟨i0, hi, hz0, hz1, hz2⟩ := info_kid
 have H := hid h
 have HG := hid hg
 have FIN : Hid (∀ v' w', w'.ownsRow base 117 2 v' (l.length + 1) (kcells l ++ y.cells) → w.grownBy w' (Value.slice a l.length cap).ownBlock → (v'.ownBlock = (Value.slice a l.length cap).ownBlock ∨ v'.ownBlock = some w.heap.size) → InsP w base (.slice a l.length cap) (l ++ [y]) (.returned v') w') := hid (fun v' w' h1 h2 h3 => insP_of (by
   show World.ownsRow _ _ _ _ _ _ _
   rw [List.length_append, kcells_snoc]; exact h1) h2 h3)
 have hlc : l.length ≤ cap := by
   rcases h.2 with ⟨e1, e2⟩ | ⟨g, cap', cur, e1, e2, e3, e4, _⟩
   · omega
   · cases e1; exact e4
 have hnil := owk_nil h
 obtain ⟨n, hn⟩ : ∃ n, n = l.length := ⟨_, rfl⟩
 have HN := hid hn
 clear h hg
 rw [← hn] at hm hlc FIN H ⊢
 clear hn
 have hnI : ((n : Int) == (n : Int)) = true := by simp
 have hcI : (n : Int) ≤ cap := by omega
 have h63 : (cap : Int) ≤ 9223372036854775807 := by
   rcases H.out.2 with ⟨e1, e2⟩ | ⟨g, cap', cur, e1, e2, e3, e4, e5, _⟩
   · cases e1; omega
   · cases e1; unfold maxLen at e5; omega
 have H' : Hid (w.ownsRow base 117 2 (.slice a n cap) n (kcells l)) := hid (by have := H.out; unfold OwK at this; rw [← HN.out] at this; exact this)
 clear H
 cases a with
 | none =>
   have c0 := hnil rfl
   subst c0
   have n0 : n = 0 := by omega
   subst n0
   go_enter Tryz.func238, Tryz.ntmps238
   go_wp2_with (at_builtin; refine wpList_append_own_at _ rfl _ _ 50 rfl base 117 i0 Kd.no.val 2 24 Tryz.underlying50 hi hz0 hz1 hz2 (by rfl) (by decide) _ 0 (kcells l) rfl H'.out ⟨g, 0, none⟩ 1 1 y.cells rfl rfl (kid_news HG.out) (kid_one y) (by unfold maxLen; omega) (by omega) hb ?_; intro v9 w9 h1 h2 _ h4)
   obtain ⟨a9, c9, hv9⟩ := own_shapeK h1
   have F9 := hid (FIN.out v9 w9 h1 h2 h4)
   subst hv9
   clear h1 h2 h4
   go_ret
   exact F9.out
 | some ad =>
   obtain ⟨gb, go, rfl⟩ : ∃ gb, True ∧ ad = ⟨gb, 0, none⟩ := by
     rcases H'.out.2 with ⟨e1, e2⟩ | ⟨g, cap', cur, e1, _⟩
     · cases e1
     · cases e1; exact ⟨g, trivial, rfl⟩
   by_cases q : cap = n
   · subst q
     go_enter Tryz.func238, Tryz.ntmps238
     go_wp2_with (at_builtin; refine wpList_append_own_at _ rfl _ _ 50 rfl base 117 i0 Kd.no.val 2 24 Tryz.underlying50 hi hz0 hz1 hz2 (by rfl) (by decide) _ cap (kcells l) rfl H'.out ⟨g, 0, none⟩ 1 1 y.cells rfl rfl (kid_news HG.out) (kid_one y) (by unfold maxLen; omega) (by omega) hb ?_; intro v9 w9 h1 h2 _ h4)
     obtain ⟨a9, c9, hv9⟩ := own_shapeK h1
     have F9 := hid (FIN.out v9 w9 h1 h2 h4)
     subst hv9
     clear h1 h2 h4
     go_ret
     exact F9.out
   · go_enter Tryz.func238, Tryz.ntmps238
     go_wp2_with (at_builtin; refine wpList_append_own_at _ rfl _ _ 50 rfl base 117 i0 Kd.no.val 2 24 Tryz.underlying50 hi hz0 hz1 hz2 (by rfl) (by decide) _ n (kcells l) rfl H'.out ⟨g, 0, none⟩ 1 1 y.cells rfl rfl (kid_news HG.out) (kid_one y) (by unfold maxLen; omega) (by omega) hb ?_; intro v9 w9 h1 h2 _ h4)
     obtain ⟨a9, c9, hv9⟩ := own_shapeK h1
     have F9 := hid (FIN.out v9 w9 h1 h2 h4)
     subst hv9
     clear h1 h2 h4
     go_ret
     exact F9.out
set_option maxHeartbeats 4000000 in
theorem insert_room (gr cap : Nat) (l : List Kd) (i : Nat) (y : Kd) (w : World) (base g : Nat) (h : OwK w base (.slice (some ⟨gr, 0, none⟩) l.length cap) l) (hg : w.heap[g]? = some (.cells y.cells.toArray 117 (0, 0))) (hne : g ≠ gr) (hi : i < l.length) (hroom : l.length + 1 ≤ cap) (hm : l.length ≤ 500) :
   Calls Tryz.prog 238 #[.slice (some ⟨gr, 0, none⟩) l.length cap, .int .i64 i, .slice (some ⟨g, 0, none⟩) 1 1] w (InsP w base (.slice (some ⟨gr, 0, none⟩) l.length cap) (l.take i ++ y :: l.drop i)) := by
 obtain ⟨hbg, hlc, hR⟩ := h.row
 obtain ⟨k1, k2⟩ := kcells_split l i (by omega)
 obtain ⟨k3, k4⟩ := kcells_split l (i + 1) (by omega)
 have hov : ∀ lb cb, (callFunc 253 #[.slice (some ⟨g, 0, none⟩) 1 1, .slice (some ⟨gr, (i + 1) * 2, none⟩) lb cb]).run Tryz.prog w = .ok (.value (.bool false)) w := fun lb cb => by
   obtain ⟨cur, hc1, _, hc2, _⟩ := hR
   rw [run_callFunc_extern Tryz.func253 (by kernel_rfl) (by kernel_rfl) (by kernel_rfl) (e := Extern.SlicesOverlaps.overlaps #[50, 50] #[4]) (by kernel_rfl),
     Lib.run_overlaps_apart w 50 4 117 Tryz.underlying50 2 Tryz.sizeOf117 ⟨g, 0, none⟩ ⟨gr, (i + 1) * 2, none⟩ 1 1 lb cb hne 117 117 2 (cap * 2) (by simp [World.shape?, hg, Kd.cells]) (by simp [World.shape?, hc1, hc2]) (by omega) (by simp [World.frozen?, hg]) (by simp [World.frozen?, hg])]
   rfl
 have hRd : CRow w.drew gr cap (kcells l) := hR.keep rfl
 have C1 : ∀ ty, ∃ w1, (Builtin.copy_ #[50, 50] ty #[.slice (some ⟨gr, (i + 1) * 2, none⟩) (l.length + 1 - (i + 1)) (cap - (i + 1)), .slice (some ⟨gr, i * 2, none⟩) (l.length + 1 - i) (cap - i)]).run Tryz.prog w.drew = .ok (goInt ((l.length - i : Nat) : Int)) w1 ∧ CRow w1 gr cap (kcells (l.take (i + 1)) ++ kcells (l.drop i)) ∧ w.drew.grownBy w1 (some gr) := fun ty => by
   have hmin : Nat.min (l.length + 1 - i) (l.length + 1 - (i + 1)) = l.length - i := by simp only [Nat.min_def]; split <;> omega
   obtain ⟨w1, e1, e2, e3, _⟩ := hRd.copy (o := (i + 1) * 2) (cs := kcells (l.drop i)) (by rw [kcells_len]; omega) (by rw [kcells_len, List.length_drop]; omega) (l.length + 1 - (i + 1)) (cap - (i + 1)) ⟨gr, i * 2, none⟩ (l.length + 1 - i) (cap - i) ty (by rw [hmin, kcells_len, List.length_drop]) (fun j v hj => by
     rw [Addr.add_lit]
     refine hRd.cell ?_
     rw [← k2, List.getElem?_drop] at hj
     exact hj) (kcells_one' _)
   rw [hmin] at e1
   refine ⟨w1, e1, ?_, e3⟩
   have e4 : (kcells l).drop ((i + 1) * 2 + (kcells (l.drop i)).length) = [] := List.drop_of_length_le (by rw [kcells_len, kcells_len, List.length_drop]; omega)
   rw [k3, e4, List.append_nil] at e2
   exact e2
 obtain ⟨w1, e1, R1, G1⟩ := C1 3
 have hg1 : w1.heap[g]? = some (.cells y.cells.toArray 117 (0, 0)) := (G1.block g (lt_blkR hg) (fun e => hne (Option.some.inj e))).trans hg
 have C2 : ∃ w2, (Builtin.copy_ #[50, 50] 3 #[.slice (some ⟨gr, i * 2, none⟩) (l.length + 1 - i) (cap - i), .slice (some ⟨g, 0, none⟩) 1 1]).run Tryz.prog w1 = .ok (goInt 1) w2 ∧ CRow w2 gr cap (kcells (l.take i ++ y :: l.drop i)) ∧ w1.grownBy w2 (some gr) := by
   have hmin : Nat.min 1 (l.length + 1 - i) = 1 := by simp only [Nat.min_def]; split <;> omega
   obtain ⟨w2, e2, e3, e4, _⟩ := R1.copy (o := i * 2) (cs := y.cells) (by rw [List.length_append, kcells_len, kcells_len, List.length_take]; omega) (by show i * 2 + 2 ≤ cap * 2; omega) (l.length + 1 - i) (cap - i) ⟨g, 0, none⟩ 1 1 3 (by rw [hmin]; rfl) (kid_news hg1) (kid_one y)
   rw [hmin] at e2
   refine ⟨w2, e2, ?_, e4⟩
   have l1 : (kcells (l.take (i + 1))).length = (i + 1) * 2 := by rw [kcells_len, List.length_take]; omega
   have t1 : (kcells (l.take (i + 1)) ++ kcells (l.drop i)).take (i * 2) = kcells (l.take i) := by
     rw [List.take_append_of_le_length (by omega), (kcells_split (l.take (i + 1)) i (by rw [List.length_take]; omega)).1, List.take_take, Nat.min_eq_left (by omega)]
   have t2 : (kcells (l.take (i + 1)) ++ kcells (l.drop i)).drop (i * 2 + y.cells.length) = kcells (l.drop i) := by
     show List.drop (i * 2 + 2) _ = _
     rw [show i * 2 + 2 = (kcells (l.take (i + 1))).length by rw [l1]; omega, List.drop_left']
     rfl
   rw [t1, t2] at e3
   rw [kcells_append, kcells_cons, ← List.append_assoc]
   exact e3
 obtain ⟨w2, e2, R2, G2⟩ := C2
 have FIN : Hid (InsP w base (.slice (some ⟨gr, 0, none⟩) l.length cap) (l.take i ++ y :: l.drop i) (.returned (.slice (some ⟨gr, 0, none⟩) (l.length + 1) cap)) w2) := hid (by
   have hl : (l.take i ++ y :: l.drop i).length = l.length + 1 := by simp; omega
   have := R2.own hbg
   rw [hl] at this
   refine ⟨some ⟨gr, 0, none⟩, cap, by rw [hl], by rw [hl]; exact this, fun e => (by cases e), grown_trans (grown_trans (grown_drew w _) G1) G2, fun b e => .inl e⟩)
 have h63 : (cap : Int) ≤ 9223372036854775807 := by
   obtain ⟨cur, _, h5, _⟩ := hR
   unfold maxLen at h5; omega
 have HE1 := hid e1
 have HE2 := hid e2
 obtain ⟨n, hn⟩ : ∃ n, n = l.length := ⟨_, rfl⟩
 rw [← hn] at hm hlc hi hroom FIN HE1 HE2 ⊢
 clear h hg hR hRd C1 e1 R1 G1 hg1 e2 R2 G2 hn k1 k2 k3 k4 hbg
 have hiI : (i : Int) ≤ n := by omega
 have hiN : ¬ ((i : Int) = (n : Int)) := by omega
 have hiB : ((i : Int) == (n : Int)) = false := beq_eq_false_iff_ne.2 hiN
 have hcN : ¬ (cap : Int) < (n : Int) + 1 := by omega
 have hcI : (n : Int) + 1 ≤ cap := by omega
 have hci : ¬ (cap = i) := by omega
 have hci1 : ¬ (cap = i + 1) := by omega
 have hb2 : (i : Int) + 1 ≤ (n : Int) + 1 := by omega
 have hb3 : (i : Int) ≤ (n : Int) + 1 := by omega
 have hw1 : IntKind.i64.wrap ((i : Int) + 1) = (i : Int) + 1 := by rw [IntKind.wrap_i64]; omega
 have hb1 : (0 : Int) ≤ (i : Int) + 1 := by omega
 have htn : ((i : Int) + 1).toNat = i + 1 := by omega
 go_enter Tryz.func238, Tryz.ntmps238
 go_wp2_with (simp only [hov])
 go_region_law (refine step_copy_runI rfl _ _ 50 50 rfl _ _ (by simp [Act.eval, Act.put]) (by simp [Act.eval, Act.put]) HE1.out ?_)
 have e2 := HE2.out
 go_wp2
 go_ret
 exact FIN.out
set_option maxHeartbeats 4000000 in
theorem insert_grow (gr : Nat) (l : List Kd) (i : Nat) (y : Kd) (w : World) (base g : Nat) (h : OwK w base (.slice (some ⟨gr, 0, none⟩) l.length l.length) l) (hg : w.heap[g]? = some (.cells y.cells.toArray 117 (0, 0))) (hb : base ≤ w.heap.size) (hi : i < l.length) (hm : l.length ≤ 500) :
   Calls Tryz.prog 238 #[.slice (some ⟨gr, 0, none⟩) l.length l.length, .int .i64 i, .slice (some ⟨g, 0, none⟩) 1 1] w (InsP w base (.slice (some ⟨gr, 0, none⟩) l.length l.length) (l.take i ++ y :: l.drop i)) := by
 obtain ⟨hbg, hlc, hR⟩ := h.row
 obtain ⟨k1, k2⟩ := kcells_split l i (by omega)
 obtain ⟨i0, hi0, hz0, hz1, hz2⟩ := info_kid
 obtain ⟨G, hG⟩ : ∃ G, G = grownCap w (l.length + 1) l.length 117 := ⟨_, rfl⟩
 have hGn : l.length + 1 ≤ G := by rw [hG]; exact grownCap_ge w _ _ _
 have hG63 : G ≤ maxLen := by rw [hG]; exact grownCap_le_maxLen w (l.length + 1) l.length 117 (by unfold maxLen; omega)
 have hold : (Builtin.firstCells i0.size i (.slice (some ⟨gr, 0, none⟩) i l.length)).run Tryz.prog w.drew = .ok (kcells (l.take i)).toArray w.drew := by
   rw [hz1]
   exact run_firstCells_some w.drew 2 i ⟨gr, 0, none⟩ i l.length (kcells (l.take i)) (by rw [kcells_len, List.length_take]; omega) (fun j v hj => by
     rw [Addr.add_lit, Nat.zero_add]
     refine (hR.keep (w' := w.drew) rfl).cell ?_
     rw [← k1, List.getElem?_take] at hj
     split at hj
     · exact hj
     · cases hj)
 have hrz := Lib.run_append_grow_zeros (P := Tryz.prog) w 50 3 50 117 i0 _ .i64 .i64 Tryz.underlying50 Tryz.underlying3 hi0 hz0 (some ⟨gr, 0, none⟩) i l.length (kcells (l.take i)) hold (l.length + 1 - i) (by omega) (by omega) (by omega) (by omega) (by rw [hz2]; omega) (by rw [hz2, show i + (l.length + 1 - i) = l.length + 1 by omega]; exact growslice_fits (by omega) (by omega))
 rw [show i + (l.length + 1 - i) = l.length + 1 by omega, ← hG] at hrz
 obtain ⟨zs, hzs⟩ : ∃ zs : List Value, zs = (Builtin.zeroCells Kd.no.val.cells (l.length + 1 - i)).toList := ⟨_, rfl⟩
 have hzl : zs.length = (l.length + 1 - i) * 2 := by rw [hzs]; simp [Builtin.zeroCells, Kd.no, Kd.val, Value.cells]
 obtain ⟨W1, hW1⟩ : ∃ W1, W1 = w.drew.alloc (.cells ((kcells (l.take i)).toArray ++ Builtin.zeroCells Kd.no.val.cells (l.length + 1 - i) ++ Builtin.zeroCells Kd.no.val.cells (G - (l.length + 1))) 117) := ⟨_, rfl⟩
 rw [← hW1] at hrz
 have hb1 : Below w.heap.size w W1 := by rw [hW1]; exact (Below.drew (Below.refl _ _)).alloc (Nat.le_refl _) _
 have hn1 : W1.heap[w.heap.size]? = some (.cells ((kcells (l.take i)).toArray ++ Builtin.zeroCells Kd.no.val.cells (l.length + 1 - i) ++ Builtin.zeroCells Kd.no.val.cells (G - (l.length + 1))) 117 (0, 0)) := by
   rw [hW1]
   exact heap_alloc_new w.drew _
 have lt1 : (kcells (l.take i)).length = i * 2 := by rw [kcells_len, List.length_take]; omega
 have R1 : CRow W1 w.heap.size G (kcells (l.take i) ++ zs) := by
   refine ⟨_, hn1, hG63, ?_, ?_⟩
   · simp [Builtin.zeroCells, Kd.no, Kd.val, Value.cells, lt1]
     omega
   · rw [Array.toList_append, Array.toList_append, ← hzs, List.take_append_of_le_length (Nat.le_refl _), List.take_length]
 have hg1 : W1.heap[g]? = some (.cells y.cells.toArray 117 (0, 0)) := (hb1.block g (lt_blkR hg)).trans hg
 have C2 : ∃ w2, (Builtin.copy_ #[50, 50] 3 #[.slice (some ⟨w.heap.size, i * 2, none⟩) (l.length + 1 - i) (G - i), .slice (some ⟨g, 0, none⟩) 1 1]).run Tryz.prog W1 = .ok (goInt 1) w2 ∧ CRow w2 w.heap.size G (kcells (l.take i) ++ y.cells ++ zs.drop 2) ∧ W1.grownBy w2 (some w.heap.size) := by
   have hmin : Nat.min 1 (l.length + 1 - i) = 1 := by simp only [Nat.min_def]; split <;> omega
   obtain ⟨w2, e2, e3, e4, _⟩ := R1.copy (o := i * 2) (cs := y.cells) (by rw [List.length_append]; omega) (by show i * 2 + 2 ≤ G * 2; omega) (l.length + 1 - i) (G - i) ⟨g, 0, none⟩ 1 1 3 (by rw [hmin]; rfl) (kid_news hg1) (kid_one y)
   rw [hmin] at e2
   refine ⟨w2, e2, ?_, e4⟩
   have t1 : (kcells (l.take i) ++ zs).take (i * 2) = kcells (l.take i) := by rw [← lt1, List.take_left']; rfl
   have t2 : (kcells (l.take i) ++ zs).drop (i * 2 + y.cells.length) = zs.drop 2 := by
     show List.drop (i * 2 + 2) _ = _
     rw [← lt1, List.drop_append, List.drop_of_length_le (by omega), Nat.add_sub_cancel_left]
     rfl
   rw [t1, t2] at e3
   exact e3
 obtain ⟨w2, e2, R2, G2⟩ := C2
 have hold2 : CRow w2.drew gr l.length (kcells l) := hR.keep ((G2.block gr (by have := hR.lt; have := hb1.size; omega) (fun e => by have := Option.some.inj e; have := hR.lt; omega)).trans (hb1.block gr hR.lt))
 have C3 : ∃ w3, (Builtin.copy_ #[50, 50] 3 #[.slice (some ⟨w.heap.size, (i + 1) * 2, none⟩) (l.length + 1 - (i + 1)) (G - (i + 1)), .slice (some ⟨gr, i * 2, none⟩) (l.length - i) (l.length - i)]).run Tryz.prog w2.drew = .ok (goInt ((l.length - i : Nat) : Int)) w3 ∧ CRow w3 w.heap.size G (kcells (l.take i ++ y :: l.drop i)) ∧ w2.drew.grownBy w3 (some w.heap.size) := by
   have hmin : Nat.min (l.length - i) (l.length + 1 - (i + 1)) = l.length - i := by simp only [Nat.min_def]; split <;> omega
   have hly : y.cells.length = 2 := rfl
   obtain ⟨w3, e3, e4, e5, _⟩ := (R2.keep (w' := w2.drew) rfl).copy (o := (i + 1) * 2) (cs := kcells (l.drop i)) (by rw [List.length_append, List.length_append, lt1, hly]; omega) (by rw [kcells_len, List.length_drop]; omega) (l.length + 1 - (i + 1)) (G - (i + 1)) ⟨gr, i * 2, none⟩ (l.length - i) (l.length - i) 3 (by rw [hmin, kcells_len, List.length_drop]) (fun j v hj => by
     rw [Addr.add_lit]
     refine hold2.cell ?_
     rw [← k2, List.getElem?_drop] at hj
     exact hj) (kcells_one' _)
   rw [hmin] at e3
   refine ⟨w3, e3, ?_, e5⟩
   have l2 : (kcells (l.take i) ++ y.cells).length = (i + 1) * 2 := by rw [List.length_append, lt1, hly]; omega
   have t1 : (kcells (l.take i) ++ y.cells ++ zs.drop 2).take ((i + 1) * 2) = kcells (l.take i) ++ y.cells := by rw [← l2, List.take_left']; rfl
   have t2 : (kcells (l.take i) ++ y.cells ++ zs.drop 2).drop ((i + 1) * 2 + (kcells (l.drop i)).length) = [] := List.drop_of_length_le (by rw [List.length_append, l2, List.length_drop, hzl, kcells_len, List.length_drop]; omega)
   rw [t1, t2, List.append_nil] at e4
   rw [kcells_append, kcells_cons, ← List.append_assoc]
   exact e4
 obtain ⟨w3, e3, R3, G3⟩ := C3
 have FIN : Hid (InsP w base (.slice (some ⟨gr, 0, none⟩) l.length l.length) (l.take i ++ y :: l.drop i) (.returned (.slice (some ⟨w.heap.size, 0, none⟩) (l.length + 1) G)) w3) := hid (by
   have hl : (l.take i ++ y :: l.drop i).length = l.length + 1 := by simp; omega
   have := R3.own hb
   rw [hl] at this
   exact ⟨some ⟨w.heap.size, 0, none⟩, G, by rw [hl], by rw [hl]; exact this, fun e => (by cases e), grown_new (grown_trans (grown_new (grown_of hb1 _) (Nat.le_refl _) G2) (grown_drew w2 _)) (Nat.le_refl _) G3, fun b e => .inr (Nat.le_of_eq (Option.some.inj e))⟩)
 have HE3 := hid e3
 have HRZ := hid hrz
 have hGI : (G : Int) ≤ 9223372036854775807 := by unfold maxLen at hG63; omega
 have hbs : w.heap.size = w.heap.size := rfl
 obtain ⟨B, hB⟩ : ∃ B, B = w.heap.size := ⟨_, rfl⟩
 rw [← hB] at FIN HE3 HRZ e2
 obtain ⟨n, hn⟩ : ∃ n, n = l.length := ⟨_, rfl⟩
 rw [← hn] at hm hlc hi hGn FIN HE3 HRZ e2 ⊢
 clear h hg hR R1 hg1 R2 G2 hold2 R3 G3 e3 hrz hn k1 k2 hbg hzs hzl hb1 hn1 hW1 lt1 hold hG hi0 hz0 hz1 hz2 hB hbs hG63
 have hiI : (i : Int) ≤ n := by omega
 have hiN : ¬ ((i : Int) = (n : Int)) := by omega
 have hiB : ((i : Int) == (n : Int)) = false := beq_eq_false_iff_ne.2 hiN
 have hcN : (n : Int) < (n : Int) + 1 := by omega
 have hkk : (n : Int) + 1 - (i : Int) = ((n + 1 - i : Nat) : Int) := by omega
 rw [← hkk] at HRZ
 clear hkk
 have hni : ¬ (n = i) := by omega
 have hGi : ¬ (G = i) := by omega
 have hGi1 : ¬ (G = i + 1) := by omega
 have hb2 : (i : Int) + 1 ≤ (n : Int) + 1 := by omega
 have hb3 : (i : Int) ≤ (n : Int) + 1 := by omega
 have hw1 : IntKind.i64.wrap ((i : Int) + 1) = (i : Int) + 1 := by rw [IntKind.wrap_i64]; omega
 have hb1 : (0 : Int) ≤ (i : Int) + 1 := by omega
 have htn : ((i : Int) + 1).toNat = i + 1 := by omega
 have hw3 : IntKind.i64.wrap ((n : Int) + 1 - i) = (n : Int) + 1 - i := by rw [IntKind.wrap_i64]; omega
 go_enter Tryz.func238, Tryz.ntmps238
 go_wp2_with (at_builtin; refine Lib.wpList_append_run _ rfl _ _ _ _ rfl _ _ rfl rfl _ _ HRZ.out ?_)
 go_region_law (refine step_copy_runI rfl _ _ 50 50 rfl _ _ (by simp [Act.eval, Act.put]) (by simp [Act.eval, Act.put]) HE3.out ?_)
 go_wp2
 go_ret
 exact FIN.out
end Go.Proofs.YtpolbbdaippclaaGreat
