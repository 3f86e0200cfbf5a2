/-
  The document's ReadNode. (Written by gen_recrdnd.py.)
-/
import Derived.Test.YtbgninmkglgfeaaRR5
import Derived.Test.YtbgninmkglgfeaaRNr
import Derived.Test.YtbgninmkglgfeaaRN2
import Derived.Laws.IdiomStrings
namespace Go.Proofs.Ytbgninmkglgfeaa
open Go.RowKit Go.ChangeShapes Go.WideShapes Go.ChangeAt
set_option linter.unusedVariables false
set_option linter.unusedSimpArgs false
set_option maxRecDepth 100000
/-- Cells that lie in a block of one type, from base on. -/
def RowAt (w : World) (base : Nat) (t : TypeId) (p : Option Addr) (vs : List Value) : Prop := vs = [] ∨ ∃ (g : Nat) (cs : Array Value) (fr : Nat × Nat), p = some ⟨g, 0, none⟩ ∧ base ≤ g ∧ w.heap[g]? = some (.cells cs t fr) ∧ ∀ (i : Nat) (u : Value), vs[i]? = some u → cs[i]? = some u
/-- A node whose data and entries lie in blocks of their own. -/
def NdAt (w : World) (base : Nat) (x : Nd) : Prop := x.Wf ∧ RowAt w base 5 x.da (x.zs.map u8V) ∧ RowAt w base 74 x.ka (kcells x.ks)
theorem RowAt.later {w w' : World} {base : Nat} {t : TypeId} {p : Option Addr} {vs : List Value} (h : RowAt w base t p vs) (hb : Below w.heap.size w w') : RowAt w' base t p vs := by
  rcases h with h | ⟨g, cs, fr, h1, h2, h3, h4⟩
  · exact .inl h
  · exact .inr ⟨g, cs, fr, h1, h2, (hb.block _ (lt_blkR h3)).trans h3, h4⟩
theorem RowAt.low {w : World} {base b : Nat} {t : TypeId} {p : Option Addr} {vs : List Value} (h : RowAt w base t p vs) (hb : b ≤ base) : RowAt w b t p vs := by
  rcases h with h | ⟨g, cs, fr, h1, h2, h3, h4⟩
  · exact .inl h
  · exact .inr ⟨g, cs, fr, h1, Nat.le_trans hb h2, h3, h4⟩
theorem RowAt.set {w : World} {base : Nat} {t : TypeId} {p : Option Addr} {vs : List Value} {q : Addr} (h : RowAt w base t p vs) (hq : q.block < base) (u : Value) : RowAt (w.setCell q u) base t p vs := by
  rcases h with h | ⟨g, cs, fr, h1, h2, h3, h4⟩
  · exact .inl h
  · exact .inr ⟨g, cs, fr, h1, h2, (heap_setCell_other _ _ _ _ (by omega)).trans h3, h4⟩
theorem RowAt.kf {w w' : World} {r base : Nat} {t : TypeId} {p : Option Addr} {vs : List Value} (h : RowAt w base t p vs) (hk : Kf r w w') (hr : r < base) : RowAt w' base t p vs := by
  rcases h with h | ⟨g, cs, fr, h1, h2, h3, h4⟩
  · exact .inl h
  · exact .inr ⟨g, cs, fr, h1, h2, (hk.block _ (lt_blkR h3) (by omega)).trans h3, h4⟩
theorem RowAt.own {w : World} {base : Nat} {t : TypeId} {sz n : Nat} {v : Value} {p : Option Addr} {m c : Nat} {vs : List Value} (h : w.ownsRow base t sz v n vs) (hv : v = .slice p m c) (hl : n = 0 → vs = []) : RowAt w base t p vs := by
  rcases h.2 with ⟨h1, h2⟩ | ⟨g, cap, cur, h1, h2, h3, h4⟩
  · exact .inl (hl h2)
  · rw [h1] at hv
    simp only [Value.slice.injEq] at hv
    refine .inr ⟨g, cur, _, hv.1.symm, h2, h3, fun i u hu => ?_⟩
    have e := h.cells (g := g) (by rw [h1]; rfl) i u hu
    have e2 : (⟨g, 0, none⟩ : Addr).add i = ⟨g, i, none⟩ := by unfold Addr.add; split <;> simp_all
    rw [e2, cell_of_row w g _ _ t _ h3] at e
    exact e
theorem NdOwn.at {w : World} {base : Nat} {x : Nd} (h : NdOwn w base x) : NdAt w base x := by
  refine ⟨h.1, RowAt.own h.2.1 rfl (fun e => ?_), RowAt.own h.2.2 rfl (fun e => ?_)⟩
  · rw [List.eq_nil_of_length_eq_zero e]; rfl
  · rw [List.eq_nil_of_length_eq_zero e]; rfl
theorem NdAt.later {w w' : World} {base : Nat} {x : Nd} (h : NdAt w base x) (hb : Below w.heap.size w w') : NdAt w' base x := ⟨h.1, h.2.1.later hb, h.2.2.later hb⟩
theorem NdAt.low {w : World} {base b : Nat} {x : Nd} (h : NdAt w base x) (hb : b ≤ base) : NdAt w b x := ⟨h.1, h.2.1.low hb, h.2.2.low hb⟩
theorem NdAt.set {w : World} {base : Nat} {x : Nd} {p : Addr} (h : NdAt w base x) (hp : p.block < base) (u : Value) : NdAt (w.setCell p u) base x := ⟨h.1, h.2.1.set hp u, h.2.2.set hp u⟩
theorem NdAt.ok {w : World} {base : Nat} {x : Nd} (h : NdAt w base x) : x.Ok w := by
  obtain ⟨⟨h1, h2, h3, h4, h5, h6, h7, h8⟩, hd, hk⟩ := h
  refine ⟨h1, h2, h3, h4, ⟨rfl, by unfold maxLen; omega, fun hp => ?_, h5⟩, ⟨by unfold maxLen; omega, fun q hq => (h7 q hq).1, fun hp => ?_⟩⟩
  · rcases hd with hd | ⟨g, cs, fr, e1, e2, e3, e4⟩
    · have := congrArg List.length hd
      simp at this
      rw [this] at hp; exact absurd hp (by simp)
    · refine ⟨g, 0, e1, fun i hi => ?_⟩
      rw [cell_of_row w g _ _ _ _ e3, Nat.zero_add]
      refine e4 i _ ?_
      rw [List.getElem?_map, List.getElem?_eq_getElem hi]
      simp [u8V, List.getD, hi]
  · rcases hk with hk | ⟨g, cs, fr, e1, e2, e3, e4⟩
    · have := congrArg List.length hk
      rw [kcells_len] at this
      simp only [List.length_nil] at this
      omega
    · refine ⟨g, 0, e1, fun i hi => ?_⟩
      have key : ∀ j, j < 2 → ∀ u, (x.ks.getD i Kd.no).cells[j]? = some u → w.cell? ⟨g, 0 + i * 2 + j, none⟩ = some u := fun j hj u hu => by
        rw [cell_of_row w g _ _ _ _ e3, Nat.zero_add]
        exact e4 _ u (by rw [kcells_get _ _ _ hi hj]; exact hu)
      exact ⟨key 0 (by omega) _ rfl, key 1 (by omega) _ rfl⟩
theorem bs_inB (s : ByteArray) : InB (Fr.bs s) := fun i => by
  rcases Nat.lt_or_ge i (Fr.bs s).length with h | h
  · have := bs_in s ((Fr.bs s)[i]) (List.getElem_mem _)
    simpa [List.getD, h] using this
  · simp [List.getD, h]
/-- Where the loop over the entries stands. -/
def KsAt (n : Nat) (z1 : List Int) (m : Nat) (b : Bool) (z : List Int) (L : List Kd) : Prop :=
  kidsN n z1 = bif b then none else match kidsN (n - m) z with
    | none => none
    | some (l, u) => some (L ++ l, u)
theorem KsAt.start (n : Nat) (z : List Int) : KsAt n z 0 false z [] := by
  unfold KsAt
  rw [Nat.sub_zero]
  cases kidsN n z with
  | none => rfl
  | some p => rfl
theorem KsAt.next {n m : Nat} {z1 z z2 z3 : List Int} {L : List Kd} {s : ByteArray} {f : Int} {b2 b3 : Bool} (h : KsAt n z1 m false z L) (hm : m < n) (e : Tr false z = (s, b2, z2)) (e2 : Nr b2 z2 4 = (f, b3, z3)) : KsAt n z1 (m + 1) b3 z3 (L ++ [⟨s, f⟩]) := by
  unfold KsAt at *
  rw [h]
  obtain ⟨d, hd⟩ : ∃ d, n - m = d + 1 := ⟨n - m - 1, by omega⟩
  have hd2 : n - (m + 1) = d := by omega
  rw [hd, hd2]
  simp only [kidsN, kidP, cond_false]
  rcases tr_short e with ⟨rfl, q⟩ | ⟨rfl, ys, q, rfl⟩
  · cases nr_bad e2
    rw [q]; rfl
  · rw [q]
    simp only
    rw [nr_num e2]
    cases b3 with
    | true => rfl
    | false =>
      simp only [cond_false]
      cases kidsN d z3 with
      | none => rfl
      | some p => simp
theorem KsAt.end {n : Nat} {z1 z : List Int} {L : List Kd} (h : KsAt n z1 n false z L) : kidsN n z1 = some (L, z) := by
  unfold KsAt at h
  rw [Nat.sub_self] at h
  simpa [kidsN] using h
/-- What the document's ReadNode says, against the plain parser. -/
theorem node_doc {zs : List Int} {n0 n1 n2 n3 : Int} {b0 b1 b2 b3 b4 b5 : Bool} {z0 z1 z2 z3 z4 z5 z : List Int} {s4 : ByteArray} {N : Nat} {b : Bool} {L : List Kd}
    (e0 : Nr false zs 4 = (n0, b0, z0)) (e1 : Nr b0 z0 1 = (n1, b1, z1)) (e2 : Nr b1 z1 2 = (n2, b2, z2)) (e3 : Nr b2 z2 2 = (n3, b3, z3)) (e4 : Tr b3 z3 = (s4, b4, z4)) (e5 : Nr b4 z4 1 = ((N : Int), b5, z5))
    (hb : b = true → b5 = true ∨ kidsN N z5 = none) (hk : b = false → b5 = false ∧ kidsN N z5 = some (L, z)) (hL : b = false → L.length = N) (hin : InB z3) :
    nodeAll zs = if b = false ∧ z.length = 0 ∧ nodeOk ⟨n0, n1, n2, n3, none, 0, Fr.bs s4, none, 0, L⟩ = true then some ⟨n0, n1, n2, n3, none, 0, Fr.bs s4, none, 0, L⟩ else none := by
  unfold nodeAll nodeP
  have bad : b5 = true → (if b = false ∧ z.length = 0 ∧ nodeOk ⟨n0, n1, n2, n3, none, 0, Fr.bs s4, none, 0, L⟩ = true then some (⟨n0, n1, n2, n3, none, 0, Fr.bs s4, none, 0, L⟩ : Nd) else none) = none := fun h => by
    rw [if_neg]
    rintro ⟨q, _⟩
    have := (hk q).1
    rw [h] at this; cases this
  rw [nr_num e0]
  cases b0 with
  | true =>
    cases nr_bad e1; cases nr_bad e2; cases nr_bad e3; cases tr_bad e4; cases nr_bad e5
    rw [bad rfl]; rfl
  | false =>
  simp only [cond_false]
  rw [nr_num e1]
  cases b1 with
  | true =>
    cases nr_bad e2; cases nr_bad e3; cases tr_bad e4; cases nr_bad e5
    rw [bad rfl]; rfl
  | false =>
  simp only [cond_false]
  rw [nr_num e2]
  cases b2 with
  | true =>
    cases nr_bad e3; cases tr_bad e4; cases nr_bad e5
    rw [bad rfl]; rfl
  | false =>
  simp only [cond_false]
  rw [nr_num e3]
  cases b3 with
  | true =>
    cases tr_bad e4; cases nr_bad e5
    rw [bad rfl]; rfl
  | false =>
  simp only [cond_false]
  rcases tr_short e4 with ⟨rfl, q4⟩ | ⟨rfl, ys, q4, rfl⟩
  · cases nr_bad e5
    rw [q4, bad rfl]
  rw [q4]
  simp only
  unfold kidsP
  rw [nr_num e5]
  cases b5 with
  | true => rw [bad rfl]; rfl
  | false =>
  simp only [cond_false, Int.toNat_natCast]
  have hys : Fr.bs (Fr.tx ys) = ys := Fr.bs_tx ys (fun x hx => by
    obtain ⟨i, hi, rfl⟩ := List.getElem_of_mem hx
    have := (shortP_take hin q4) i
    simpa [List.getD, hi] using this)
  rw [hys]
  cases b with
  | true =>
    have := (hb rfl).elim (fun h => by cases h) id
    by_cases q : (N : Int) ≤ 12
    · rw [if_pos q, this]; simp
    · rw [if_neg q]; simp
  | false =>
    rw [(hk rfl).2]
    have hL2 := hL rfl
    by_cases q : (N : Int) ≤ 12
    · rw [if_pos q]
      simp only
      cases hn : nodeOk ⟨n0, n1, n2, n3, none, 0, ys, none, 0, L⟩ with
      | false => simp
      | true =>
        cases z with
        | nil => simp
        | cons u t => simp
    · rw [if_neg q, if_neg]
      rintro ⟨_, _, h⟩
      unfold nodeOk at h
      have : 12 < L.length := by omega
      simp only [decide_eq_true this, Bool.or_true, Bool.not_true, Bool.false_and] at h
      cases h
theorem bytes_below (w : World) (s : ByteArray) (cp : Nat) : Below w.heap.size w (w.drew.alloc (.cells (bytesRow s cp) 5 ((bytesRow s cp).size, (bytesRow s cp).size + 1))) :=
  (Below.drew (Below.refl w.heap.size w)).alloc (Nat.le_refl _) _
/-- '[]byte(s)' lays the text's bytes. -/
theorem bytes_row (w : World) (s : ByteArray) (cp : Nat) {base : Nat} (hb : base ≤ w.heap.size) : RowAt (w.drew.alloc (.cells (bytesRow s cp) 5 ((bytesRow s cp).size, (bytesRow s cp).size + 1))) base 5 (some ⟨w.heap.size, 0, none⟩) ((Fr.bs s).map u8V) := by
  refine .inr ⟨w.heap.size, _, _, rfl, hb, heap_alloc_new w.drew _, fun i u hu => ?_⟩
  unfold Fr.bs at hu
  rw [List.getElem?_map, List.getElem?_map] at hu
  rcases hd : s.data.toList[i]? with _ | x
  · rw [hd] at hu; cases hu
  · rw [hd] at hu
    simp only [Option.map_some, Option.some.injEq] at hu
    rw [← hu]
    have hlt : i < s.data.size := by
      rcases Nat.lt_or_ge i s.data.size with q | q
      · exact q
      · rw [List.getElem?_eq_none (by simpa using q)] at hd; cases hd
    unfold bytesRow
    rw [Array.getElem?_append_left (by simpa using hlt)]
    simp at hd
    simp [hd, u8V]
/-- A node laid into a block, cell by cell. -/
def ndW (g : Nat) (x : Nd) (W : World) : World :=
  (((((W.setCell ⟨g, 0, none⟩ (.int .u32 x.fid)).setCell ⟨g, 1, none⟩ (.int .u8 x.k)).setCell ⟨g, 2, none⟩ (.int .u16 x.md)).setCell ⟨g, 3, none⟩ (.int .u16 x.ln)).setCell ⟨g, 4, none⟩ (.slice x.da x.zs.length x.dc)).setCell ⟨g, 5, none⟩ (.slice x.ka x.ks.length x.kc)
theorem ndW_kf {w W : World} {x : Nd} (h : Kf (w.heap.size + 1) w W) : Below w.heap.size w (ndW w.heap.size x W) :=
  ((((((h.far (Nat.le_refl _)).far (Nat.le_refl _)).far (Nat.le_refl _)).far (Nat.le_refl _)).far (Nat.le_refl _)).far (Nat.le_refl _)).below (Nat.le_refl _) (Nat.le_succ _)
theorem ndW_block {W : World} {g : Nat} {x : Nd} (h : W.heap[g]? = some (.cells Nd.no.cells.toArray 39 (0, 0))) : (ndW g x W).heap[g]? = some (.cells x.cells.toArray 39 (0, 0)) :=
  setN (setN (setN (setN (setN (setN h 0 _) 1 _) 2 _) 3 _) 4 _) 5 _
theorem ndW_at {W : World} {g base : Nat} {x y : Nd} (h : NdAt W base y) (hg : g < base) : NdAt (ndW g x W) base y :=
  (((((h.set hg _).set hg _).set hg _).set hg _).set hg _).set hg _
theorem RowAt.grown {w w' : World} {base b sz n : Nat} {t e : TypeId} {p : Option Addr} {vs xs : List Value} {v : Value} (h : RowAt w base t p vs) (hown : w.ownsRow b e sz v n xs) (hne : t ≠ e) (hg : w.grownBy w' v.ownBlock) : RowAt w' base t p vs := by
  rcases h with h | ⟨g, cs, fr, h1, h2, h3, h4⟩
  · exact .inl h
  · refine .inr ⟨g, cs, fr, h1, h2, (hg.block g (lt_blkR h3) (fun q => ?_)).trans h3, h4⟩
    rcases hown.2 with ⟨rfl, _⟩ | ⟨g', cap, cur, rfl, _, hg', _⟩
    · cases q
    · cases q
      rw [hg'] at h3
      cases h3
      exact hne rfl
theorem step_appK (w : World) {ops : Array Oper} {o : Oper} {a : Act} {K : Act → World → Prop} {Q : Exit → Act → World → Prop} {E : Prop} (hgd : o.guard = none) (s x : Operand)
    (ho : o.op = .call { callee := .builtin .append, args := #[s, x], argTypes := #[37, 37] }) (base : Nat) (v : Value) (n : Nat) (xs : List Value) (hs : a.eval s = v) (hown : w.ownsRow base 74 2 v n xs)
    (g : Nat) (y : Kd) (hx : a.eval x = .slice (some ⟨g, 0, none⟩) 1 1) (hb : w.heap[g]? = some (.cells y.cells.toArray 74 (0, 0))) (h63 : n ≤ 1000) (hbase : base ≤ w.heap.size)
    (h : ∀ v' w', w'.ownsRow base 74 2 v' (n + 1) (xs ++ y.cells) → w.grownBy w' v.ownBlock → K (a.put o.dst v') w') :
    if Region.wanted o (yielded ops a.tmps) = true then Oper.wp Try.prog o a w K Q else E := by
  rw [if_pos (by simp [Region.wanted, hgd])]
  obtain ⟨i0, hi, hz0, hz1, hz2⟩ := info_kid
  refine wp_append_own w s x 37 ho base 74 i0 Kd.no.val 2 24 Try.underlying37 hi hz0 hz1 hz2 (by rfl) (by decide) v n xs hs hown ⟨g, 0, none⟩ 1 1 y.cells hx rfl (kid_news hb) (kid_one y) (by unfold maxLen; omega) (by omega) hbase ?_
  intro v' w' h2 h3 _
  exact h v' w' h2 h3
/-- What stands while the document's ReadNode goes through the entries. -/
def NdL (w wr : World) (n0 n1 n2 n3 : Int) (q5 cp : Nat) (ys : List Int) (va : Option Addr) (vc : Nat) (L : List Kd) (b : Bool) (z : List Int) : Prop :=
  wr.heap[w.heap.size + 2]? = some (.cells (Nd.cells ⟨n0, n1, n2, n3, some ⟨q5, 0, none⟩, cp, ys, va, vc, L⟩).toArray 39 (0, 0)) ∧
  wr.heap[w.heap.size]? = some (.cells Nd.no.cells.toArray 39 (0, 0)) ∧ RdR wr (w.heap.size + 1) b z ∧ Kf (w.heap.size + 1) w wr ∧ w.heap.size + 3 ≤ wr.heap.size ∧
  RowAt wr (w.heap.size + 3) 5 (some ⟨q5, 0, none⟩) (ys.map u8V) ∧ wr.ownsRow (w.heap.size + 3) 74 2 (.slice va L.length vc) L.length (kcells L) ∧ (∀ q ∈ L, q.Wf ∧ q.nm.size ≤ 255)
/-- What the document's ReadNode answers. -/
def RrnP (w : World) (zs : List Int) (e : Ending) (w' : World) : Prop :=
  Below w.heap.size w w' ∧ match nodeAll zs with
    | none => e = .returned (.tuple #[Nd.no.val, .int .i64 3])
    | some x => ∃ da dc ka kc, e = .returned (.tuple #[(x.lie da dc ka kc).val, .int .i64 0]) ∧ NdAt w' w.heap.size (x.lie da dc ka kc)
set_option maxHeartbeats 8000000 in
theorem rReadNode_c (a : Option Addr) (n c : Nat) (zs : List Int) (w : World) (h : IsB w a n zs) (hc : n ≤ c) (hl : Lies2 w a n c) :
    Calls Try.prog 12 #[.slice a n c] w fun e w' => RrnP w zs e w' := by
  obtain ⟨i0, hi, hz0, hz1, hz2⟩ := info_kid
  rcases e0 : Nr false zs 4 with ⟨n0, b0, z0⟩
  rcases e1 : Nr b0 z0 1 with ⟨n1, b1, z1⟩
  rcases e2 : Nr b1 z1 2 with ⟨n2, b2, z2⟩
  rcases e3 : Nr b2 z2 2 with ⟨n3, b3, z3⟩
  rcases e4 : Tr b3 z3 with ⟨s4, b4, z4⟩
  rcases e5 : Nr b4 z4 1 with ⟨n5, b5, z5⟩
  have i_ : InB zs := h.2.2.2
  have g0 := Nr_bd i_ false 4
  have j0 := Nr_in i_ false 4
  rw [e0] at g0 j0
  simp only at g0 j0
  have g1 := Nr_bd j0 b0 1
  have j1 := Nr_in j0 b0 1
  rw [e1] at g1 j1
  simp only at g1 j1
  have g2 := Nr_bd j1 b1 2
  have j2 := Nr_in j1 b1 2
  rw [e2] at g2 j2
  simp only at g2 j2
  have g3 := Nr_bd j2 b2 2
  have j3 := Nr_in j2 b2 2
  rw [e3] at g3 j3
  simp only at g3 j3
  have g4 := Tr_size j3 b3
  have j4 := Tr_in j3 b3
  rw [e4] at g4 j4
  simp only at g4 j4
  have g5 := Nr_bd j4 b4 1
  have j5 := Nr_in j4 b4 1
  rw [e5] at g5 j5
  simp only at g5 j5
  have u0 : IntKind.u32.wrap n0 = n0 := by rw [IntKind.wrap_u32]; omega
  have u1 : IntKind.u8.wrap n1 = n1 := by rw [IntKind.wrap_u8]; omega
  have u2 : IntKind.u16.wrap n2 = n2 := by rw [IntKind.wrap_u16]; omega
  have u3 : IntKind.u16.wrap n3 = n3 := by rw [IntKind.wrap_u16]; omega
  obtain ⟨N, rfl⟩ : ∃ N : Nat, n5 = (N : Int) := ⟨n5.toNat, by omega⟩
  have hN : N < 256 := by omega
  have u5 : IntKind.i64.wrap (N : Int) = N := by rw [IntKind.wrap_i64]; omega
  have WFH : Hid (∀ L : List Kd, L.length ≤ 255 → (∀ q ∈ L, q.Wf ∧ q.nm.size ≤ 255) → ∀ da dc ka kc, Nd.Wf ⟨n0, n1, n2, n3, da, dc, Fr.bs s4, ka, kc, L⟩) := hid (fun L hL hw da dc ka kc => ⟨⟨g0.1, by simpa using g0.2⟩, ⟨g1.1, by simpa using g1.2⟩, ⟨g2.1, by simpa using g2.2⟩, ⟨g3.1, by simpa using g3.2⟩, bs_inB s4, by simp only [Fr.bs_length]; exact g4, hw, hL⟩)
  have DOC := hid (fun b z L h1 h2 h3 => node_doc (b := b) (z := z) (L := L) e0 e1 e2 e3 e4 e5 h1 h2 h3 j3)
  have J5 : Hid (InB z5) := hid j5
  have b0_ := below_1 w (.cells Nd.no.cells.toArray 39)
  have b1_ := below_1 (w.alloc (.cells Nd.no.cells.toArray 39)) (.cells #[.slice a n c, .bool false] 63)
  have b2_ := below_1 ((w.alloc (.cells Nd.no.cells.toArray 39)).alloc (.cells #[.slice a n c, .bool false] 63)) (.cells Nd.no.cells.toArray 39)
  have hA := heap_alloc_new w (.cells Nd.no.cells.toArray 39)
  have hB := heap_alloc_new (w.alloc (.cells Nd.no.cells.toArray 39)) (.cells #[.slice a n c, .bool false] 63)
  have hC := heap_alloc_new ((w.alloc (.cells Nd.no.cells.toArray 39)).alloc (.cells #[.slice a n c, .bool false] 63)) (.cells Nd.no.cells.toArray 39)
  rw [show (w.alloc (.cells Nd.no.cells.toArray 39)).heap.size = w.heap.size + 1 by simp] at hB
  rw [show ((w.alloc (.cells Nd.no.cells.toArray 39)).alloc (.cells #[.slice a n c, .bool false] 63)).heap.size = w.heap.size + 2 by simp] at hC
  have hA2 := (b2_.block _ (lt_blkR ((b1_.block _ (lt_blkR hA)).trans hA))).trans ((b1_.block _ (lt_blkR hA)).trans hA)
  have hB2 := (b2_.block _ (lt_blkR hB)).trans hB
  have bV := (b0_.trans (b1_.mono b0_.size)).trans (b2_.mono (Nat.le_trans b0_.size b1_.size))
  have HR := hid (rdr_box h hc hl bV (Nat.le_succ _) hB2)
  have K : Hid (Kf (w.heap.size + 1) w (((w.alloc (.cells Nd.no.cells.toArray 39)).alloc (.cells #[.slice a n c, .bool false] 63)).alloc (.cells Nd.no.cells.toArray 39))) := hid (Kf.of bV)
  have SZ : Hid (w.heap.size + 3 ≤ (((w.alloc (.cells Nd.no.cells.toArray 39)).alloc (.cells #[.slice a n c, .bool false] 63)).alloc (.cells Nd.no.cells.toArray 39)).heap.size) := hid (by simp)
  have hG : w.heap.size + 1 < w.heap.size + 2 := by omega
  have HA := hid hA2
  have HX := hid hC
  have t0 := hid True.intro
  have E0 := hid e0
  have E1 := hid e1
  have E2 := hid e2
  have E3 := hid e3
  have E4 := hid e4
  have E5 := hid e5
  have HS4 : Hid (s4.size ≤ 255) := hid g4
  clear i_ j0 g0 e0 j1 g1 e1 j2 g2 e2 j3 g3 e3 j4 g4 e4 j5 g5 e5 h hA hB hC hA2 hB2 b0_ b1_ b2_ bV hc hl
  have KC := hid (fun (W : World) (x : ByteArray) => run_bytes_of_string (P := Try.prog) W 9 22 5 x Try.underlying9 Try.underlying22 Try.underlying5)
  go_enter Try.func12, Try.ntmps12
  go_upto_region 7 with (first
    | (have _q := t3.out; clear _q; go_at_call 31; refine (rdN2 HR.out E3.out).mono ?_; rintro _ w4 ⟨rfl, hk9, hr9⟩
       have HX9 := hid ((hk9.block _ (lt_blkR HX.out) (by omega)).trans HX.out)
       have HA9 := hid ((hk9.block _ (lt_blkR HA.out) (by omega)).trans HA.out)
       obtain ⟨c3, f3⟩ := cellN HX9.out 3 rfl
       have HXn := hid (setN HX9.out 3 (.int .u16 n3))
       have HAn : Hid ((w4.setCell ⟨w.heap.size + 2, 3, none⟩ (.int .u16 n3)).heap[w.heap.size]? = _) := hid ((heap_setCell_other _ _ _ _ (by show w.heap.size ≠ w.heap.size + 2; omega)).trans HA9.out)
       have HRn : Hid (RdR (w4.setCell ⟨w.heap.size + 2, 3, none⟩ (.int .u16 n3)) (w.heap.size + 1) b3 z3) := hid (hr9.set hG)
       have Kn : Hid (Kf (w.heap.size + 1) w (w4.setCell ⟨w.heap.size + 2, 3, none⟩ (.int .u16 n3))) := hid ((K.out.trans hk9).far (by omega))
       have SZn : Hid (w.heap.size + 3 ≤ (w4.setCell ⟨w.heap.size + 2, 3, none⟩ (.int .u16 n3)).heap.size) := hid (by have := Nat.le_trans SZ.out hk9.size; simpa [World.setCell] using this)
       have t4 := hid True.intro
       clear hk9 hr9 HX9 HA9 HX HA HR K SZ t3
       have HX := HXn
       have HA := HAn
       have HR := HRn
       have K := Kn
       have SZ := SZn
       clear HXn HAn HRn Kn SZn)
    | (have _q := t2.out; clear _q; go_at_call 31; refine (rdN2 HR.out E2.out).mono ?_; rintro _ w3 ⟨rfl, hk9, hr9⟩
       have HX9 := hid ((hk9.block _ (lt_blkR HX.out) (by omega)).trans HX.out)
       have HA9 := hid ((hk9.block _ (lt_blkR HA.out) (by omega)).trans HA.out)
       obtain ⟨c2, f2⟩ := cellN HX9.out 2 rfl
       have HXn := hid (setN HX9.out 2 (.int .u16 n2))
       have HAn : Hid ((w3.setCell ⟨w.heap.size + 2, 2, none⟩ (.int .u16 n2)).heap[w.heap.size]? = _) := hid ((heap_setCell_other _ _ _ _ (by show w.heap.size ≠ w.heap.size + 2; omega)).trans HA9.out)
       have HRn : Hid (RdR (w3.setCell ⟨w.heap.size + 2, 2, none⟩ (.int .u16 n2)) (w.heap.size + 1) b2 z2) := hid (hr9.set hG)
       have Kn : Hid (Kf (w.heap.size + 1) w (w3.setCell ⟨w.heap.size + 2, 2, none⟩ (.int .u16 n2))) := hid ((K.out.trans hk9).far (by omega))
       have SZn : Hid (w.heap.size + 3 ≤ (w3.setCell ⟨w.heap.size + 2, 2, none⟩ (.int .u16 n2)).heap.size) := hid (by have := Nat.le_trans SZ.out hk9.size; simpa [World.setCell] using this)
       have t3 := hid True.intro
       clear hk9 hr9 HX9 HA9 HX HA HR K SZ t2
       have HX := HXn
       have HA := HAn
       have HR := HRn
       have K := Kn
       have SZ := SZn
       clear HXn HAn HRn Kn SZn)
    | (have _q := t1.out; clear _q; go_at_call 31; refine (rdN1 HR.out E1.out).mono ?_; rintro _ w2 ⟨rfl, hk9, hr9⟩
       have HX9 := hid ((hk9.block _ (lt_blkR HX.out) (by omega)).trans HX.out)
       have HA9 := hid ((hk9.block _ (lt_blkR HA.out) (by omega)).trans HA.out)
       obtain ⟨c1, f1⟩ := cellN HX9.out 1 rfl
       have HXn := hid (setN HX9.out 1 (.int .u8 n1))
       have HAn : Hid ((w2.setCell ⟨w.heap.size + 2, 1, none⟩ (.int .u8 n1)).heap[w.heap.size]? = _) := hid ((heap_setCell_other _ _ _ _ (by show w.heap.size ≠ w.heap.size + 2; omega)).trans HA9.out)
       have HRn : Hid (RdR (w2.setCell ⟨w.heap.size + 2, 1, none⟩ (.int .u8 n1)) (w.heap.size + 1) b1 z1) := hid (hr9.set hG)
       have Kn : Hid (Kf (w.heap.size + 1) w (w2.setCell ⟨w.heap.size + 2, 1, none⟩ (.int .u8 n1))) := hid ((K.out.trans hk9).far (by omega))
       have SZn : Hid (w.heap.size + 3 ≤ (w2.setCell ⟨w.heap.size + 2, 1, none⟩ (.int .u8 n1)).heap.size) := hid (by have := Nat.le_trans SZ.out hk9.size; simpa [World.setCell] using this)
       have t2 := hid True.intro
       clear hk9 hr9 HX9 HA9 HX HA HR K SZ t1
       have HX := HXn
       have HA := HAn
       have HR := HRn
       have K := Kn
       have SZ := SZn
       clear HXn HAn HRn Kn SZn)
    | (have _q := t0.out; clear _q; go_at_call 31; refine (rdN4 HR.out E0.out).mono ?_; rintro _ w1 ⟨rfl, hk9, hr9⟩
       have HX9 := hid ((hk9.block _ (lt_blkR HX.out) (by omega)).trans HX.out)
       have HA9 := hid ((hk9.block _ (lt_blkR HA.out) (by omega)).trans HA.out)
       obtain ⟨c0, f0⟩ := cellN HX9.out 0 rfl
       have HXn := hid (setN HX9.out 0 (.int .u32 n0))
       have HAn : Hid ((w1.setCell ⟨w.heap.size + 2, 0, none⟩ (.int .u32 n0)).heap[w.heap.size]? = _) := hid ((heap_setCell_other _ _ _ _ (by show w.heap.size ≠ w.heap.size + 2; omega)).trans HA9.out)
       have HRn : Hid (RdR (w1.setCell ⟨w.heap.size + 2, 0, none⟩ (.int .u32 n0)) (w.heap.size + 1) b0 z0) := hid (hr9.set hG)
       have Kn : Hid (Kf (w.heap.size + 1) w (w1.setCell ⟨w.heap.size + 2, 0, none⟩ (.int .u32 n0))) := hid ((K.out.trans hk9).far (by omega))
       have SZn : Hid (w.heap.size + 3 ≤ (w1.setCell ⟨w.heap.size + 2, 0, none⟩ (.int .u32 n0)).heap.size) := hid (by have := Nat.le_trans SZ.out hk9.size; simpa [World.setCell] using this)
       have t1 := hid True.intro
       clear hk9 hr9 HX9 HA9 HX HA HR K SZ t0
       have HX := HXn
       have HA := HAn
       have HR := HRn
       have K := Kn
       have SZ := SZn
       clear HXn HAn HRn Kn SZn))
  go_wp2_with (have _q := t4.out; clear _q; go_at_call 32; refine (rdT HR.out E4.out).mono ?_; rintro _ w5 ⟨rfl, hk9, hr9⟩
               have HX9 := hid ((hk9.block _ (lt_blkR HX.out) (by omega)).trans HX.out)
               have HA9 := hid ((hk9.block _ (lt_blkR HA.out) (by omega)).trans HA.out)
               have HR9 := hid hr9
               have K9 := hid (K.out.trans hk9)
               have SZ9 := hid (Nat.le_trans SZ.out hk9.size)
               clear hk9 hr9 HX HA HR K SZ t4)
  rw [KC.out w5 s4]
  have ROW := hid (bytes_row w5 s4 (grownCap w5 s4.size 0 5) (base := w.heap.size + 3) SZ9.out)
  have B5 := hid (bytes_below w5 s4 (grownCap w5 s4.size 0 5))
  generalize w5.drew.alloc (.cells (bytesRow s4 (grownCap w5 s4.size 0 5)) 5 ((bytesRow s4 (grownCap w5 s4.size 0 5)).size, (bytesRow s4 (grownCap w5 s4.size 0 5)).size + 1)) = W5 at *
  generalize grownCap w5 s4.size 0 5 = cp at *
  have YL : Hid (s4.size = (Fr.bs s4).length) := hid (Fr.bs_length s4).symm
  generalize Fr.bs s4 = ys at *
  rw [YL.out]
  have HX5 := hid ((B5.out.block _ (lt_blkR HX9.out)).trans HX9.out)
  obtain ⟨c4, f4⟩ := cellN HX5.out 4 rfl
  obtain ⟨q5, hq5⟩ : ∃ q5, q5 = w5.heap.size := ⟨_, rfl⟩
  rw [← hq5] at ROW ⊢
  have HXn := hid (setN HX5.out 4 (.slice (some ⟨q5, 0, none⟩) ys.length cp))
  have HAn : Hid ((W5.setCell ⟨w.heap.size + 2, 4, none⟩ (.slice (some ⟨q5, 0, none⟩) ys.length cp)).heap[w.heap.size]? = _) := hid ((heap_setCell_other _ _ _ _ (by show w.heap.size ≠ w.heap.size + 2; omega)).trans ((B5.out.block _ (lt_blkR HA9.out)).trans HA9.out))
  have HRn : Hid (RdR (W5.setCell ⟨w.heap.size + 2, 4, none⟩ (.slice (some ⟨q5, 0, none⟩) ys.length cp)) (w.heap.size + 1) b4 z4) := hid ((HR9.out.later B5.out).set hG)
  have Kn : Hid (Kf (w.heap.size + 1) w (W5.setCell ⟨w.heap.size + 2, 4, none⟩ (.slice (some ⟨q5, 0, none⟩) ys.length cp))) := hid ((K9.out.trans (Kf.of B5.out)).far (by omega))
  have SZn : Hid (w.heap.size + 3 ≤ (W5.setCell ⟨w.heap.size + 2, 4, none⟩ (.slice (some ⟨q5, 0, none⟩) ys.length cp)).heap.size) := hid (by have := Nat.le_trans SZ9.out B5.out.size; simpa [World.setCell] using this)
  have ROWn : Hid (RowAt (W5.setCell ⟨w.heap.size + 2, 4, none⟩ (.slice (some ⟨q5, 0, none⟩) ys.length cp)) (w.heap.size + 3) 5 (some ⟨q5, 0, none⟩) (ys.map u8V)) := hid (ROW.out.set (by show w.heap.size + 2 < w.heap.size + 3; omega) _)
  clear HX9 HA9 HR9 K9 SZ9 HX5 ROW B5 hq5 KC YL
  go_wp2_with (go_at_call 31; refine (rdN1 HRn.out E5.out).mono ?_; rintro _ w6 ⟨rfl, hk9, hr9⟩
               have HX6 := hid ((hk9.block _ (lt_blkR HXn.out) (by omega)).trans HXn.out)
               have HA6 := hid ((hk9.block _ (lt_blkR HAn.out) (by omega)).trans HAn.out)
               have HR6 := hid hr9
               have K6 := hid (Kn.out.trans hk9)
               have SZ6 := hid (Nat.le_trans SZn.out hk9.size)
               have ROW6 := hid (ROWn.out.kf hk9 (by omega))
               clear hk9 hr9 HXn HAn HRn Kn SZn ROWn)
  clear c0 f0 c1 f1 c2 f2 c3 f3 c4 f4 E0 E1 E2 E3 E4 E5
  go_loopg [7] N (fun gk i wr => ∃ (L : List Kd) (b : Bool) (z : List Int) (va : Option Addr) (vc : Nat), L.length + gk = N ∧ i = .int .i64 L.length ∧ Hid (NdL w wr n0 n1 n2 n3 q5 cp ys va vc L b z) ∧ Hid (b = true → b5 = true ∨ kidsN N z5 = none) ∧ Hid (b = false → b5 = false ∧ KsAt N z5 L.length false z L))
  case atStart =>
    refine ⟨[], b5, z5, none, 0, by simp, rfl, hid ⟨HX6.out, HA6.out, HR6.out, K6.out, SZ6.out, ROW6.out, World.ownsRow_nil _ _ _ _, fun q hq => by cases hq⟩, hid (fun e => .inl e), hid (fun e => ⟨e, KsAt.start _ _⟩)⟩
  case round =>
    clear HX6 HA6 HR6 K6 SZ6 ROW6
    obtain ⟨L, b, z, va, vc, hLN, rfl, HI, HB1, HB2⟩ := hrel
    obtain ⟨hX, hA, hR, hK, hS, hW, hO, hQ⟩ := HI.out
    have HX := hid hX
    have HA := hid hA
    have HR := hid hR
    have K := hid hK
    have SZ := hid hS
    have ROW := hid hW
    have OW := hid hO
    have HQ := hid hQ
    obtain ⟨ra, rl, rc, rbox, rI, _⟩ := hR
    obtain ⟨rb0, rb1, _, _⟩ := cellsF rbox
    have hzl : z.length = rl := rI.1
    obtain ⟨y0, y1, y2, y3, y4, y5⟩ := nd_cells hX
    dsimp only at y0 y1 y2 y3 y4 y5
    clear rbox rI hX hA hK hS hW hO hQ HI
    have zfz : ∀ i, wr.frozen? ⟨w.heap.size, i, none⟩ = false := fun i => by simp [World.frozen?, HA.out]
    cases b with
    | true =>
      have EP : Hid (nodeAll zs = none) := hid (by
        rw [DOC.out true z L HB1.out (fun e => by cases e) (fun e => by cases e)]
        exact if_neg (fun h => by cases h.1))
      obtain ⟨o0, o1, o2, o3, o4, o5⟩ := nd_cells (x := Nd.no) HA.out
      dsimp only [Nd.no] at o0 o1 o2 o3 o4 o5
      have FIN : Hid (RrnP w zs (.returned (.tuple #[Nd.no.val, .int .i64 3])) (ndW w.heap.size Nd.no wr)) := hid ⟨ndW_kf K.out, by rw [EP.out]⟩
      clear HB1 HB2 DOC WFH EP
      by_cases hlt : L.length < N
      · have hltI : (L.length : Int) < N := by omega
        go_wp2
        change bodyPost _ _ _ _ _ (ndW w.heap.size Nd.no wr)
        have CH := ndW_block (x := Nd.no) HA.out
        generalize ndW w.heap.size Nd.no wr = Wf at *
        obtain ⟨z0_, z1_, z2_, z3_, z4_, z5_⟩ := nd_cells CH
        dsimp only [Nd.no] at z0_ z1_ z2_ z3_ z4_ z5_
        refine bodyPost_ret (v := .tuple #[Nd.no.val, .int .i64 3]) (by simp [results, Try.results12, go_sem, Nd.val, Nd.no, z0_, z1_, z2_, z3_, z4_, z5_]) rfl FIN.out
      · have hltI : ¬ (L.length : Int) < N := by omega
        go_wp2
        change bodyPost _ _ _ _ _ (ndW w.heap.size Nd.no wr)
        have CH := ndW_block (x := Nd.no) HA.out
        generalize ndW w.heap.size Nd.no wr = Wf at *
        obtain ⟨z0_, z1_, z2_, z3_, z4_, z5_⟩ := nd_cells CH
        dsimp only [Nd.no] at z0_ z1_ z2_ z3_ z4_ z5_
        refine bodyPost_ret (v := .tuple #[Nd.no.val, .int .i64 3]) (by simp [results, Try.results12, go_sem, Nd.val, Nd.no, z0_, z1_, z2_, z3_, z4_, z5_]) rfl FIN.out
    | false =>
      by_cases hlt : L.length < N
      · have hltI : (L.length : Int) < N := by omega
        rcases e8 : Tr false z with ⟨s, b2, z2⟩
        rcases e9 : Nr b2 z2 4 with ⟨f, b3, z3'⟩
        have hzin := HR.out.in
        have sS := Tr_size hzin false
        have j8 := Tr_in hzin false
        rw [e8] at sS j8
        have gf := Nr_bd j8 b2 4
        rw [e9] at gf
        simp only at gf sS
        have uf : IntKind.u32.wrap f = f := by rw [IntKind.wrap_u32]; omega
        have KW : Hid (Kd.Wf ⟨s, f⟩ ∧ s.size ≤ 255) := hid ⟨⟨by simp only [maxLen]; omega, gf.1, by simpa using gf.2⟩, sS⟩
        have E9 := hid e9
        have NX := hid (KsAt.next (HB2.out rfl).2 hlt e8 e9)
        have B5F := hid (HB2.out rfl).1
        have TC := hid (rdT HR.out e8)
        clear e8 e9 hzin sS j8 gf HB1 HB2 DOC WFH HR zfz
        go_upto_region 13 with (go_at_call 32; refine TC.out.mono ?_; rintro _ w7 ⟨rfl, hk9, hr9⟩
                                have HX7 := hid ((hk9.block _ (lt_blkR HX.out) (by omega)).trans HX.out)
                                have HA7 := hid ((hk9.block _ (lt_blkR HA.out) (by omega)).trans HA.out)
                                have HR7 := hid hr9
                                have K7 := hid (K.out.trans hk9)
                                have SZ7 := hid (Nat.le_trans SZ.out hk9.size)
                                have ROW7 := hid (ROW.out.kf hk9 (by omega))
                                have OW7 := hid (own_kf OW.out hk9 (by omega))
                                clear hk9 hr9 HX HA K SZ ROW OW TC)
        clear y0 y1 y2 y3 y4 y5 rb0 rb1
        have l7 := (nd_cells HX7.out).2.2.2.2.2
        dsimp only at l7
        have l7d : w7.drew.cell? ⟨w.heap.size + 2, 5, none⟩ = some (.slice va L.length vc) := l7
        have bd : Below w7.heap.size w7 w7.drew := Below.drew (Below.refl _ _)
        have HR7d := hid (HR7.out.later bd)
        have HX7d := hid ((bd.block _ (lt_blkR HX7.out)).trans HX7.out)
        have HA7d := hid ((bd.block _ (lt_blkR HA7.out)).trans HA7.out)
        have K7d := hid (K7.out.trans (Kf.of bd))
        have SZ7d := hid (Nat.le_trans SZ7.out bd.size)
        have ROW7d := hid (ROW7.out.later bd)
        have OW7d := hid (own_latR OW7.out bd)
        clear bd HX7 HA7 HR7 K7 SZ7 ROW7 OW7
        go_region_law (first
          | (refine step_appK _ (by rfl) _ _ (by rfl) (w.heap.size + 3) (.slice va L.length vc) _ _ (by rfl) OW8.out w8.heap.size ⟨s, f⟩ (by rfl) N8.out (by omega) (Nat.le_trans SZ8.out (Nat.le_refl _)) ?_
             intro v9 w9 hown9 hgrow9
             have bl := below_grownR (Below.refl (w.heap.size + 3) _) OW8.out (Nat.le_refl _) SZ8.out hgrow9
             have HX9 := hid ((bl.block _ (by omega)).trans HX8.out)
             have HA9 := hid ((bl.block _ (by omega)).trans HA8.out)
             have HR9 := hid (HR8.out.low bl (by omega))
             have K9 := hid (K8.out.low (bl.mono (by omega)))
             have SZ9 := hid (Nat.le_trans SZ8.out hgrow9.size)
             have ROW9 := hid (ROW8.out.grown OW8.out (by decide) hgrow9)
             have OW9 := hid hown9
             obtain ⟨m0, m1⟩ := cellN HX9.out 5 rfl
             obtain ⟨a9, c9, rfl⟩ := own_shapeR hown9
             clear hown9 hgrow9 bl)
          | (go_simp; go_at_call 31; refine (rdN4 HR7d.out E9.out).mono ?_; rintro _ w8 ⟨rfl, hk9, hr9⟩
             have b8 := below_1 w8 (.cells (Kd.cells ⟨s, f⟩).toArray 74)
             have hx8 := (hk9.block _ (lt_blkR HX7d.out) (by omega)).trans HX7d.out
             have l8 := (nd_cells hx8).2.2.2.2.2
             have hx9 := (b8.block _ (lt_blkR hx8)).trans hx8
             have l9 := (nd_cells hx9).2.2.2.2.2
             have HX8 := hid hx9
             have HA8 := hid ((b8.block _ (lt_blkR ((hk9.block _ (lt_blkR HA7d.out) (by omega)).trans HA7d.out))).trans ((hk9.block _ (lt_blkR HA7d.out) (by omega)).trans HA7d.out))
             have HR8 := hid (hr9.later b8)
             have K8 := hid ((K7d.out.trans hk9).trans (Kf.of b8))
             have SZ8 := hid (Nat.le_trans (Nat.le_trans SZ7d.out hk9.size) b8.size)
             have ROW8 := hid ((ROW7d.out.kf hk9 (by omega)).later b8)
             have OW8 := hid (own_latR (own_kf OW7d.out hk9 (by omega)) b8)
             have N8 := hid (heap_alloc_new w8 (.cells (Kd.cells ⟨s, f⟩).toArray 74))
             dsimp only [Kd.cells] at l8 l9
             clear hk9 hr9 b8 hx8 hx9))
        all_goals
          have FI : Hid (NdL w (w9.setCell ⟨w.heap.size + 2, 5, none⟩ (.slice a9 (L.length + 1) c9)) n0 n1 n2 n3 q5 cp ys a9 c9 (L ++ [⟨s, f⟩]) b3 z3') := hid (by
            have el : (L ++ [(⟨s, f⟩ : Kd)]).length = L.length + 1 := by simp
            refine ⟨?_, (heap_setCell_other _ _ _ _ (by show w.heap.size ≠ w.heap.size + 2; omega)).trans HA9.out, HR9.out.set hG, K9.out.far (by omega), by have := SZ9.out; simpa [World.setCell] using this, ROW9.out.set (by show w.heap.size + 2 < w.heap.size + 3; omega) _, ?_, ?_⟩
            · show _ = some (Obj.cells [.int .u32 n0, .int .u8 n1, .int .u16 n2, .int .u16 n3, .slice (some ⟨q5, 0, none⟩) ys.length cp, .slice a9 (L ++ [(⟨s, f⟩ : Kd)]).length c9].toArray _ _)
              rw [el]
              exact setN HX9.out 5 _
            · rw [el, kcells_snoc]
              exact own_set OW9.out (by show w.heap.size + 2 < w.heap.size + 3; omega) _
            · intro q hq
              rcases List.mem_append.1 hq with h | h
              · exact HQ.out q h
              · rw [List.mem_singleton.1 h]; exact KW.out)
          have el2 : Hid ((L ++ [(⟨s, f⟩ : Kd)]).length = L.length + 1) := hid (by simp)
          clear HX9 HA9 HR9 K9 SZ9 ROW9 OW9
          go_wp2
          go_roundg (gk - 1)
          case measure => omega
          case rel =>
            refine ⟨L ++ [⟨s, f⟩], b3, z3', a9, c9, by rw [el2.out]; omega, by rw [el2.out]; go_num, FI, hid (fun e => .inr ?_), hid (fun e => ⟨B5F.out, ?_⟩)⟩
            · have := NX.out
              unfold KsAt at this
              rw [this, e]; rfl
            · have := NX.out
              rw [e] at this
              rw [el2.out]; exact this
      · have hltI : ¬ (L.length : Int) < N := by omega
        have hLe : L.length = N := by omega
        have KE : kidsN N z5 = some (L, z) := by have := (HB2.out rfl).2; rw [hLe] at this; exact this.end
        have D := hid (DOC.out false z L (fun e => by cases e) (fun _ => ⟨(HB2.out rfl).1, KE⟩) (fun _ => hLe))
        have AT : Hid (NdAt wr (w.heap.size + 3) ⟨n0, n1, n2, n3, some ⟨q5, 0, none⟩, cp, ys, va, vc, L⟩) := hid ⟨WFH.out L (by omega) HQ.out _ _ _ _, ROW.out, RowAt.own OW.out rfl (fun e => by rw [List.eq_nil_of_length_eq_zero e]; rfl)⟩
        have AC := hid (alone_c ⟨n0, n1, n2, n3, some ⟨q5, 0, none⟩, cp, ys, va, vc, L⟩ wr AT.out.ok)
        rw [show nodeOk ⟨n0, n1, n2, n3, some ⟨q5, 0, none⟩, cp, ys, va, vc, L⟩ = nodeOk ⟨n0, n1, n2, n3, none, 0, ys, none, 0, L⟩ from rfl] at AC
        clear HB1 HB2 DOC WFH KE ROW OW hLe hLN hN u5
        by_cases q : rl = 0
        · subst q
          cases hn : nodeOk ⟨n0, n1, n2, n3, none, 0, ys, none, 0, L⟩ with
          | true =>
            have EP : Hid (nodeAll zs = some ⟨n0, n1, n2, n3, none, 0, ys, none, 0, L⟩) := hid (by rw [D.out, if_pos ⟨rfl, hzl, hn⟩])
            rw [hn] at AC
            unfold Nd.val at AC
            clear D hn hzl
            go_wp2_with (go_at_call 33; refine AC.out.mono ?_; rintro _ w7 ⟨rfl, hb7⟩
                         have hx7 := (hb7.block _ (lt_blkR HX.out)).trans HX.out
                         have ha7 := (hb7.block _ (lt_blkR HA.out)).trans HA.out
                         obtain ⟨o0, o1, o2, o3, o4, o5⟩ := nd_cells (x := Nd.no) ha7
                         obtain ⟨p0, p1, p2, p3, p4, p5⟩ := nd_cells hx7
                         have zf7 : ∀ i, w7.frozen? ⟨w.heap.size, i, none⟩ = false := fun i => by simp [World.frozen?, ha7]
                         dsimp only [Nd.no] at o0 o1 o2 o3 o4 o5 p0 p1 p2 p3 p4 p5
                         have HA7 := hid ha7
                         have K7 := hid (K.out.trans (Kf.of hb7))
                         have AT7 := hid (AT.out.later hb7)
                         clear hb7 hx7 ha7)
            have FIN : Hid (RrnP w zs (.returned (.tuple #[Nd.val ⟨n0, n1, n2, n3, some ⟨q5, 0, none⟩, cp, ys, va, vc, L⟩, .int .i64 0])) (ndW w.heap.size ⟨n0, n1, n2, n3, some ⟨q5, 0, none⟩, cp, ys, va, vc, L⟩ w7)) := hid ⟨ndW_kf K7.out, by
              rw [EP.out]
              exact ⟨some ⟨q5, 0, none⟩, cp, va, vc, rfl, (ndW_at AT7.out (by omega)).low (by omega)⟩⟩
            change bodyPost _ _ _ _ _ (ndW w.heap.size ⟨n0, n1, n2, n3, some ⟨q5, 0, none⟩, cp, ys, va, vc, L⟩ w7)
            have CH := ndW_block (x := ⟨n0, n1, n2, n3, some ⟨q5, 0, none⟩, cp, ys, va, vc, L⟩) HA7.out
            generalize ndW w.heap.size ⟨n0, n1, n2, n3, some ⟨q5, 0, none⟩, cp, ys, va, vc, L⟩ w7 = Wf at *
            obtain ⟨z0_, z1_, z2_, z3_, z4_, z5_⟩ := nd_cells CH
            dsimp only at z0_ z1_ z2_ z3_ z4_ z5_
            refine bodyPost_ret (v := .tuple #[Nd.val ⟨n0, n1, n2, n3, some ⟨q5, 0, none⟩, cp, ys, va, vc, L⟩, .int .i64 0]) (by simp [results, Try.results12, go_sem, Nd.val, z0_, z1_, z2_, z3_, z4_, z5_]) rfl FIN.out
          | false =>
            have EP : Hid (nodeAll zs = none) := hid (by rw [D.out]; exact if_neg (fun h => by rw [hn] at h; cases h.2.2))
            rw [hn] at AC
            unfold Nd.val at AC
            clear D hn hzl
            go_wp2_with (go_at_call 33; refine AC.out.mono ?_; rintro _ w7 ⟨rfl, hb7⟩
                         have ha7 := (hb7.block _ (lt_blkR HA.out)).trans HA.out
                         obtain ⟨o0, o1, o2, o3, o4, o5⟩ := nd_cells (x := Nd.no) ha7
                         have zf7 : ∀ i, w7.frozen? ⟨w.heap.size, i, none⟩ = false := fun i => by simp [World.frozen?, ha7]
                         dsimp only [Nd.no] at o0 o1 o2 o3 o4 o5
                         have HA7 := hid ha7
                         have K7 := hid (K.out.trans (Kf.of hb7))
                         clear hb7 ha7)
            have FIN : Hid (RrnP w zs (.returned (.tuple #[Nd.no.val, .int .i64 3])) (ndW w.heap.size Nd.no w7)) := hid ⟨ndW_kf K7.out, by rw [EP.out]⟩
            change bodyPost _ _ _ _ _ (ndW w.heap.size Nd.no w7)
            have CH := ndW_block (x := Nd.no) HA7.out
            generalize ndW w.heap.size Nd.no w7 = Wf at *
            obtain ⟨z0_, z1_, z2_, z3_, z4_, z5_⟩ := nd_cells CH
            dsimp only [Nd.no] at z0_ z1_ z2_ z3_ z4_ z5_
            refine bodyPost_ret (v := .tuple #[Nd.no.val, .int .i64 3]) (by simp [results, Try.results12, go_sem, Nd.val, Nd.no, z0_, z1_, z2_, z3_, z4_, z5_]) rfl FIN.out
        · have qB : ((rl : Int) != 0) = true := by rw [bne_iff_ne]; omega
          have EP : Hid (nodeAll zs = none) := hid (by rw [D.out]; exact if_neg (fun h => q (by omega)))
          obtain ⟨o0, o1, o2, o3, o4, o5⟩ := nd_cells (x := Nd.no) HA.out
          dsimp only [Nd.no] at o0 o1 o2 o3 o4 o5
          have FIN : Hid (RrnP w zs (.returned (.tuple #[Nd.no.val, .int .i64 3])) (ndW w.heap.size Nd.no wr)) := hid ⟨ndW_kf K.out, by rw [EP.out]⟩
          clear D AC hzl
          go_wp2
          change bodyPost _ _ _ _ _ (ndW w.heap.size Nd.no wr)
          have CH := ndW_block (x := Nd.no) HA.out
          generalize ndW w.heap.size Nd.no wr = Wf at *
          obtain ⟨z0_, z1_, z2_, z3_, z4_, z5_⟩ := nd_cells CH
          dsimp only [Nd.no] at z0_ z1_ z2_ z3_ z4_ z5_
          refine bodyPost_ret (v := .tuple #[Nd.no.val, .int .i64 3]) (by simp [results, Try.results12, go_sem, Nd.val, Nd.no, z0_, z1_, z2_, z3_, z4_, z5_]) rfl FIN.out
end Go.Proofs.Ytbgninmkglgfeaa
