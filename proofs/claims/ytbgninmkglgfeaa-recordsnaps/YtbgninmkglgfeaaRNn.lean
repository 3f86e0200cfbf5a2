/-
  A node out of its bytes: takeNode of the package record. (Written by gen_rectaken.py.)
-/
import Derived.Test.YtbgninmkglgfeaaRSh
import Derived.Test.YtbgninmkglgfeaaRNk
import Derived.Test.YtbgninmkglgfeaaRR1
import Derived.Test.YtbgninmkglgfeaaRDr
import Derived.Test.YtbgninmkglgfeaaRF1
namespace Go.Proofs.Ytbgninmkglgfeaa
open Go.RowKit Go.ChangeShapes Go.WideShapes Go.ChangeAt Go.Maps Go.Shelf
set_option linter.unusedVariables false
set_option linter.unusedSimpArgs false
/-- 'append(nil, x...)' of bytes that may be none. -/
theorem wpList_appN (w : World) {ops : Array Oper} {rest : List Oper} {o : Oper} {a : Act} {Q : Exit → Act → World → Prop} (hgd : o.guard = none) (s x : Operand)
    (ho : o.op = .call { callee := .builtin .append, args := #[s, x], argTypes := #[22, 22] }) (base : Nat) (hs : a.eval s = .slice none 0 0)
    (pa : Option Addr) (m c : Nat) (zs : List Int) (hx : a.eval x = .slice pa m c) (hb : IsB w pa m zs) (hc : pa = none → c = 0) (h63 : m ≤ 1000000) (hbase : base ≤ w.heap.size)
    (h : ∀ v' w', OwB w' base v' zs → Below w.heap.size w w' → wpList Try.prog ops Q rest (a.put o.dst v') w') : wpList Try.prog ops Q (o :: rest) a w := by
  obtain ⟨i0, hi, hz0, hz1, hz2⟩ := info_parts8
  have hown : w.ownsRow base 5 1 (.slice none 0 0) 0 [] := World.ownsRow_nil _ _ _ _
  have hg : ∀ w', w.grownBy w' (Value.slice none 0 0).ownBlock → Below w.heap.size w w' := fun w' g => ⟨g.os, g.tape, g.output, g.size, fun k hk => g.block k hk (fun e => by cases e)⟩
  have hl := hb.1
  cases pa with
  | none =>
    have hm : m = 0 := by
      rcases Nat.eq_zero_or_pos m with h0 | h0
      · exact h0
      · obtain ⟨b, off, e, _⟩ := hb.2.2.1 h0; cases e
    subst hm
    have hz : zs = [] := List.eq_nil_of_length_eq_zero hb.1
    subst hz
    have hc0 := hc rfl
    subst hc0
    refine wpList_append_own_none hgd s x 22 ho base 5 i0 1 Try.underlying22 hi _ 0 [] hs hown hx ?_
    exact h _ w (World.ownsRow_nil _ _ _ _) (Below.refl _ _)
  | some ad =>
    by_cases hm : m = 0
    · subst hm
      have hz : zs = [] := List.eq_nil_of_length_eq_zero hb.1
      subst hz
      refine wpList_append_own w hgd s x 22 ho base 5 i0 (.int .u8 0) 1 1 Try.underlying22 hi hz0 hz1 hz2 rfl (by decide) _ 0 [] hs hown ad 0 c [] hx rfl (fun j u hu => by simp at hu) (fun u hu => by cases hu) (by unfold maxLen; omega) (by omega) hbase ?_
      intro v' w' h1 h2 h3
      exact h v' w' (by unfold OwB; simpa using h1) (hg _ h2)
    · obtain ⟨b, off, e, _⟩ := hb.2.2.1 (by omega)
      cases e
      refine wpList_append_own w hgd s x 22 ho base 5 i0 (.int .u8 0) 1 1 Try.underlying22 hi hz0 hz1 hz2 rfl (by decide) _ 0 [] hs hown ⟨b, off, none⟩ m c (zs.map u8V) hx (by simp [hl]) (isB_newsF hb) (u8V_one zs) (by unfold maxLen; omega) (by omega) hbase ?_
      intro v' w' h1 h2 h3
      refine h v' w' ?_ (hg _ h2)
      unfold OwB
      rw [hl]
      simpa using h1
/-- A node, with where its data and its entries lie. -/
def Nd.lie (x : Nd) (da : Option Addr) (dc : Nat) (ka : Option Addr) (kc : Nat) : Nd := ⟨x.fid, x.k, x.md, x.ln, da, dc, x.zs, ka, kc, x.ks⟩
theorem nodeOk_lie (x : Nd) (da : Option Addr) (dc : Nat) (ka : Option Addr) (kc : Nat) : nodeOk (x.lie da dc ka kc) = nodeOk x := rfl
def Nd.no : Nd := ⟨0, 0, 0, 0, none, 0, [], none, 0, []⟩
/-- Numbers within their bounds, bytes, few entries. -/
def Nd.Wf (x : Nd) : Prop := (0 ≤ x.fid ∧ x.fid < 4294967296) ∧ (0 ≤ x.k ∧ x.k < 256) ∧ (0 ≤ x.md ∧ x.md < 65536) ∧ (0 ≤ x.ln ∧ x.ln < 65536) ∧ InB x.zs ∧ x.zs.length ≤ 255 ∧ (∀ q ∈ x.ks, q.Wf ∧ q.nm.size ≤ 255) ∧ x.ks.length ≤ 255
/-- A node that the call owns. -/
def NdOwn (w : World) (base : Nat) (x : Nd) : Prop := x.Wf ∧ OwB w base (.slice x.da x.zs.length x.dc) x.zs ∧ w.ownsRow base 74 2 (.slice x.ka x.ks.length x.kc) x.ks.length (kcells x.ks)
theorem NdOwn.ok {w : World} {base : Nat} {x : Nd} (h : NdOwn w base x) : x.Ok w := by
  obtain ⟨⟨h1, h2, h3, h4, h5, h6, h7, h8⟩, hd, hk⟩ := h
  refine ⟨h1, h2, h3, h4, ?_, ?_⟩
  · obtain ⟨p, c, e, hB, _⟩ := own_isBF rfl (by unfold maxLen; omega) h5 hd
    simp only [Value.slice.injEq] at e
    rw [e.1]; exact hB
  · obtain ⟨p, c, e, hB, _⟩ := isKs_own hk (fun q hq => (h7 q hq).1) (by omega)
    simp only [Value.slice.injEq] at e
    rw [e.1]; exact hB
theorem NdOwn.later {w w' : World} {base : Nat} {x : Nd} (h : NdOwn w base x) (hb : Below w.heap.size w w') : NdOwn w' base x := ⟨h.1, h.2.1.later hb, own_latR h.2.2 hb⟩
theorem NdOwn.kr {w w' : World} {r base : Nat} {x : Nd} (h : NdOwn w base x) (hk : Kr r w w') (hr : r < base) : NdOwn w' base x := ⟨h.1, own_kr h.2.1 hk hr, own_kr h.2.2 hk hr⟩
theorem NdOwn.low {w : World} {base b : Nat} {x : Nd} (h : NdOwn w base x) (hb : b ≤ base) : NdOwn w b x := ⟨h.1, own_low h.2.1 hb, own_low h.2.2 hb⟩
theorem NdOwn.set {w : World} {base : Nat} {x : Nd} {p : Addr} (h : NdOwn w base x) (hp : p.block < base) (u : Value) : NdOwn (w.setCell p u) base x := ⟨h.1, own_set h.2.1 hp u, own_set h.2.2 hp u⟩
/-- What bytes say, as a node, and what is left. -/
def nodeP (z0 : List Int) : Option (Nd × List Int) :=
  match numP 4 z0 with
  | none => none
  | some (fid, z1) =>
  match numP 1 z1 with
  | none => none
  | some (k, z2) =>
  match numP 2 z2 with
  | none => none
  | some (md, z3) =>
  match numP 2 z3 with
  | none => none
  | some (ln, z4) =>
  match shortP z4 with
  | none => none
  | some (ys, z5) =>
  match kidsP z5 with
  | none => none
  | some (ks, z6) =>
  if nodeOk ⟨fid, k, md, ln, none, 0, ys, none, 0, ks⟩ = true then some (⟨fid, k, md, ln, none, 0, ys, none, 0, ks⟩, z6) else none
def TakesN (w : World) (r : Nat) (res : Option (Nd × List Int)) (e : Ending) (w' : World) : Prop :=
  Kr r w w' ∧ match res with
    | some (x, rest) => (∃ da dc ka kc, e = .returned (x.lie da dc ka kc).val ∧ NdOwn w' w.heap.size (x.lie da dc ka kc)) ∧ ∃ a c, Rdr w' r a c rest
    | none => e = PN
theorem takesK_none {w w' : World} {r : Nat} {e : Ending} (h : TakesK w r none e w') : Kr r w w' ∧ e = PN := h
theorem takesK_some {w w' : World} {r : Nat} {l : List Kd} {t : List Int} {e : Ending} (h : TakesK w r (some (l, t)) e w') : Kr r w w' ∧ (∃ v, e = .returned v ∧ w'.ownsRow w.heap.size 74 2 v l.length (kcells l)) ∧ ∃ a c, Rdr w' r a c t := h
theorem short2_none {w w' : World} {r : Nat} {e : Ending} (h : ShortPost2 w r none e w') : Kr r w w' ∧ e = PN := h
theorem short2_some {w w' : World} {r : Nat} {ys t : List Int} {e : Ending} (h : ShortPost2 w r (some (ys, t)) e w') : Kr r w w' ∧ (∃ p c', e = .returned (.slice p ys.length c') ∧ IsB w' p ys.length ys ∧ ys.length ≤ c' ∧ (p = none ∧ c' = 0 ∨ ∃ b off, p = some ⟨b, off, none⟩ ∧ b < r)) ∧ ∃ a c, Rdr w' r a c t := h
theorem kidsP_in {zs t : List Int} {l : List Kd} (h : InB zs) (hp : kidsP zs = some (l, t)) : (∀ x ∈ l, x.Wf ∧ x.nm.size ≤ 255) ∧ InB t ∧ l.length ≤ 12 := by
  unfold kidsP at hp
  rcases h0 : numP 1 zs with _ | ⟨m, u⟩
  · rw [h0] at hp; cases hp
  rw [h0] at hp; simp only at hp
  obtain ⟨b0, i1⟩ := numP_in h h0
  split at hp
  · obtain ⟨q1, q2, q3⟩ := kidsN_in _ i1 hp
    exact ⟨q1, q2, by omega⟩
  · cases hp
theorem shortP_take {zs ys t : List Int} (h : InB zs) (hp : shortP zs = some (ys, t)) : InB ys := by
  unfold shortP at hp
  rcases hn : numP 1 zs with _ | ⟨m, u⟩
  · rw [hn] at hp; cases hp
  · rw [hn] at hp
    simp only at hp
    split at hp
    · simp only [Option.some.injEq, Prod.mk.injEq] at hp
      rw [← hp.1]
      exact (numP_in h hn).2.take _
    · cases hp
/-- What is read is within bounds. -/
theorem node_wf {z0 : List Int} (h : InB z0) {fid : Int} {z1 : List Int} (h0 : numP 4 z0 = some (fid, z1)) {k : Int} {z2 : List Int} (h1 : numP 1 z1 = some (k, z2)) {md : Int} {z3 : List Int} (h2 : numP 2 z2 = some (md, z3)) {ln : Int} {z4 : List Int} (h3 : numP 2 z3 = some (ln, z4)) {ys : List Int} {z5 : List Int} (h4 : shortP z4 = some (ys, z5)) {ks : List Kd} {z6 : List Int} (h5 : kidsP z5 = some (ks, z6)) (da : Option Addr) (dc : Nat) (ka : Option Addr) (kc : Nat) : Nd.Wf ⟨fid, k, md, ln, da, dc, ys, ka, kc, ks⟩ := by
  obtain ⟨b0, i0⟩ := numP_in h h0
  obtain ⟨b1, i1⟩ := numP_in i0 h1
  obtain ⟨b2, i2⟩ := numP_in i1 h2
  obtain ⟨b3, i3⟩ := numP_in i2 h3
  obtain ⟨b4, i4⟩ := shortP_in i3 h4
  obtain ⟨b5, i5, b6⟩ := kidsP_in i4 h5
  exact ⟨⟨b0.1, by simpa using b0.2⟩, ⟨b1.1, by simpa using b1.2⟩, ⟨b2.1, by simpa using b2.2⟩, ⟨b3.1, by simpa using b3.2⟩, shortP_take i3 h4, b4, b5, by show ks.length ≤ 255; omega⟩
set_option maxRecDepth 20000 in
set_option maxHeartbeats 4000000 in
theorem takeNode_n0 {r : Nat} {a : Option Addr} {c : Nat} {z0 : List Int} {w : World} (h : Rdr w r a c z0) (h0 : numP 4 z0 = none) :
    Calls Try.prog 30 #[.pointer (some ⟨r, 0, none⟩)] w (TakesN w r none) := by
  have b0 := below_1 w (.cells Nd.no.cells.toArray 39)
  have hr0 := lt_blkR h.1
  have hR0 := rdr_later h b0
  have K0 : Hid (Kr r w (w.alloc (.cells Nd.no.cells.toArray 39))) := hid (Kr.of b0)
  have M0 : Hid (Kr r (w.alloc (.cells Nd.no.cells.toArray 39)) (w.alloc (.cells Nd.no.cells.toArray 39))) := hid (Kr.refl _ _)
  have C0 := hid (takeFid_c hR0)
  rw [h0] at C0
  have t0 := hid True.intro
  have hin := rdr_in h
  clear h b0 hR0 hin 
  go_enter Try.func30, Try.ntmps30
  go_wp2_with (first
    | (have _q := t0.out; clear _q; go_at_call 52; refine C0.out.mono ?_
       intro e9 w9 h9
       obtain ⟨hk9, rfl⟩ := takes_none h9
       have K9 := hid (K0.out.trans hk9)
       clear h9 hk9 t0))
  exact ⟨rfl, K9.out, rfl⟩
set_option maxRecDepth 20000 in
set_option maxHeartbeats 4000000 in
theorem takeNode_n1 {r : Nat} {a : Option Addr} {c : Nat} {z0 : List Int} {w : World} (h : Rdr w r a c z0) {fid : Int} {z1 : List Int} (h0 : numP 4 z0 = some (fid, z1)) (h1 : numP 1 z1 = none) :
    Calls Try.prog 30 #[.pointer (some ⟨r, 0, none⟩)] w (TakesN w r none) := by
  have b0 := below_1 w (.cells Nd.no.cells.toArray 39)
  have hr0 := lt_blkR h.1
  have hR0 := rdr_later h b0
  have K0 : Hid (Kr r w (w.alloc (.cells Nd.no.cells.toArray 39))) := hid (Kr.of b0)
  have M0 : Hid (Kr r (w.alloc (.cells Nd.no.cells.toArray 39)) (w.alloc (.cells Nd.no.cells.toArray 39))) := hid (Kr.refl _ _)
  have C0 := hid (takeFid_c hR0)
  rw [h0] at C0
  have t0 := hid True.intro
  have hin := rdr_in h
  obtain ⟨d0, i0⟩ := numP_in hin h0
  clear h b0 hR0 hin d0 i0
  go_enter Try.func30, Try.ntmps30
  go_wp2_with (first
    | (have _q := t0.out; clear _q; go_at_call 52; refine C0.out.mono ?_
       intro e9 w1 h9
       obtain ⟨hk9, rfl, a1, c1, hR1⟩ := takes_some h9
       have K1 := hid (K0.out.trans hk9)
       have M1 := hid (M0.out.trans hk9)
       have C1 := hid (tnum_c 1 hR1 (by omega))
       rw [h1] at C1
       have t1 := hid True.intro
       clear h9 hk9 t0 hR1)
    | (have _q := t1.out; clear _q; go_at_call 51; refine C1.out.mono ?_
       intro e9 w9 h9
       obtain ⟨hk9, rfl⟩ := takes_none h9
       have K9 := hid (K1.out.trans hk9)
       clear h9 hk9 t1))
  exact ⟨rfl, K9.out, rfl⟩
set_option maxRecDepth 20000 in
set_option maxHeartbeats 4000000 in
theorem takeNode_n2 {r : Nat} {a : Option Addr} {c : Nat} {z0 : List Int} {w : World} (h : Rdr w r a c z0) {fid : Int} {z1 : List Int} (h0 : numP 4 z0 = some (fid, z1)) {k : Int} {z2 : List Int} (h1 : numP 1 z1 = some (k, z2)) (h2 : numP 2 z2 = none) :
    Calls Try.prog 30 #[.pointer (some ⟨r, 0, none⟩)] w (TakesN w r none) := by
  have b0 := below_1 w (.cells Nd.no.cells.toArray 39)
  have hr0 := lt_blkR h.1
  have hR0 := rdr_later h b0
  have K0 : Hid (Kr r w (w.alloc (.cells Nd.no.cells.toArray 39))) := hid (Kr.of b0)
  have M0 : Hid (Kr r (w.alloc (.cells Nd.no.cells.toArray 39)) (w.alloc (.cells Nd.no.cells.toArray 39))) := hid (Kr.refl _ _)
  have C0 := hid (takeFid_c hR0)
  rw [h0] at C0
  have t0 := hid True.intro
  have hin := rdr_in h
  obtain ⟨d0, i0⟩ := numP_in hin h0
  obtain ⟨d1, i1⟩ := numP_in i0 h1
  have e1 : IntKind.u8.wrap k = k := by rw [IntKind.wrap_u8']; simp at d1; omega
  clear h b0 hR0 hin d0 i0 d1 i1
  go_enter Try.func30, Try.ntmps30
  go_wp2_with (first
    | (have _q := t0.out; clear _q; go_at_call 52; refine C0.out.mono ?_
       intro e9 w1 h9
       obtain ⟨hk9, rfl, a1, c1, hR1⟩ := takes_some h9
       have K1 := hid (K0.out.trans hk9)
       have M1 := hid (M0.out.trans hk9)
       have C1 := hid (tnum_c 1 hR1 (by omega))
       rw [h1] at C1
       have t1 := hid True.intro
       clear h9 hk9 t0 hR1)
    | (have _q := t1.out; clear _q; go_at_call 51; refine C1.out.mono ?_
       intro e9 w2 h9
       obtain ⟨hk9, rfl, a2, c2, hR2⟩ := takes_some h9
       have K2 := hid (K1.out.trans hk9)
       have M2 := hid (M1.out.trans hk9)
       have C2 := hid (tnum_c 2 hR2 (by omega))
       rw [h2] at C2
       have t2 := hid True.intro
       clear h9 hk9 t1 hR2)
    | (have _q := t2.out; clear _q; go_at_call 51; refine C2.out.mono ?_
       intro e9 w9 h9
       obtain ⟨hk9, rfl⟩ := takes_none h9
       have K9 := hid (K2.out.trans hk9)
       clear h9 hk9 t2))
  exact ⟨rfl, K9.out, rfl⟩
set_option maxRecDepth 20000 in
set_option maxHeartbeats 4000000 in
theorem takeNode_n3 {r : Nat} {a : Option Addr} {c : Nat} {z0 : List Int} {w : World} (h : Rdr w r a c z0) {fid : Int} {z1 : List Int} (h0 : numP 4 z0 = some (fid, z1)) {k : Int} {z2 : List Int} (h1 : numP 1 z1 = some (k, z2)) {md : Int} {z3 : List Int} (h2 : numP 2 z2 = some (md, z3)) (h3 : numP 2 z3 = none) :
    Calls Try.prog 30 #[.pointer (some ⟨r, 0, none⟩)] w (TakesN w r none) := by
  have b0 := below_1 w (.cells Nd.no.cells.toArray 39)
  have hr0 := lt_blkR h.1
  have hR0 := rdr_later h b0
  have K0 : Hid (Kr r w (w.alloc (.cells Nd.no.cells.toArray 39))) := hid (Kr.of b0)
  have M0 : Hid (Kr r (w.alloc (.cells Nd.no.cells.toArray 39)) (w.alloc (.cells Nd.no.cells.toArray 39))) := hid (Kr.refl _ _)
  have C0 := hid (takeFid_c hR0)
  rw [h0] at C0
  have t0 := hid True.intro
  have hin := rdr_in h
  obtain ⟨d0, i0⟩ := numP_in hin h0
  obtain ⟨d1, i1⟩ := numP_in i0 h1
  have e1 : IntKind.u8.wrap k = k := by rw [IntKind.wrap_u8']; simp at d1; omega
  obtain ⟨d2, i2⟩ := numP_in i1 h2
  have e2 : IntKind.u16.wrap md = md := by rw [IntKind.wrap_u16]; simp at d2; omega
  clear h b0 hR0 hin d0 i0 d1 i1 d2 i2
  go_enter Try.func30, Try.ntmps30
  go_wp2_with (first
    | (have _q := t0.out; clear _q; go_at_call 52; refine C0.out.mono ?_
       intro e9 w1 h9
       obtain ⟨hk9, rfl, a1, c1, hR1⟩ := takes_some h9
       have K1 := hid (K0.out.trans hk9)
       have M1 := hid (M0.out.trans hk9)
       have C1 := hid (tnum_c 1 hR1 (by omega))
       rw [h1] at C1
       have t1 := hid True.intro
       clear h9 hk9 t0 hR1)
    | (have _q := t1.out; clear _q; go_at_call 51; refine C1.out.mono ?_
       intro e9 w2 h9
       obtain ⟨hk9, rfl, a2, c2, hR2⟩ := takes_some h9
       have K2 := hid (K1.out.trans hk9)
       have M2 := hid (M1.out.trans hk9)
       have C2 := hid (tnum_c 2 hR2 (by omega))
       rw [h2] at C2
       have t2 := hid True.intro
       clear h9 hk9 t1 hR2)
    | (have _q := t2.out; clear _q; go_at_call 51; refine C2.out.mono ?_
       intro e9 w3 h9
       obtain ⟨hk9, rfl, a3, c3, hR3⟩ := takes_some h9
       have K3 := hid (K2.out.trans hk9)
       have M3 := hid (M2.out.trans hk9)
       have C3 := hid (tnum_c 2 hR3 (by omega))
       rw [h3] at C3
       have t3 := hid True.intro
       clear h9 hk9 t2 hR3)
    | (have _q := t3.out; clear _q; go_at_call 51; refine C3.out.mono ?_
       intro e9 w9 h9
       obtain ⟨hk9, rfl⟩ := takes_none h9
       have K9 := hid (K3.out.trans hk9)
       clear h9 hk9 t3))
  exact ⟨rfl, K9.out, rfl⟩
set_option maxRecDepth 20000 in
set_option maxHeartbeats 4000000 in
theorem takeNode_n4 {r : Nat} {a : Option Addr} {c : Nat} {z0 : List Int} {w : World} (h : Rdr w r a c z0) {fid : Int} {z1 : List Int} (h0 : numP 4 z0 = some (fid, z1)) {k : Int} {z2 : List Int} (h1 : numP 1 z1 = some (k, z2)) {md : Int} {z3 : List Int} (h2 : numP 2 z2 = some (md, z3)) {ln : Int} {z4 : List Int} (h3 : numP 2 z3 = some (ln, z4)) (h4 : shortP z4 = none) :
    Calls Try.prog 30 #[.pointer (some ⟨r, 0, none⟩)] w (TakesN w r none) := by
  have b0 := below_1 w (.cells Nd.no.cells.toArray 39)
  have hr0 := lt_blkR h.1
  have hR0 := rdr_later h b0
  have K0 : Hid (Kr r w (w.alloc (.cells Nd.no.cells.toArray 39))) := hid (Kr.of b0)
  have M0 : Hid (Kr r (w.alloc (.cells Nd.no.cells.toArray 39)) (w.alloc (.cells Nd.no.cells.toArray 39))) := hid (Kr.refl _ _)
  have C0 := hid (takeFid_c hR0)
  rw [h0] at C0
  have t0 := hid True.intro
  have hin := rdr_in h
  obtain ⟨d0, i0⟩ := numP_in hin h0
  obtain ⟨d1, i1⟩ := numP_in i0 h1
  have e1 : IntKind.u8.wrap k = k := by rw [IntKind.wrap_u8']; simp at d1; omega
  obtain ⟨d2, i2⟩ := numP_in i1 h2
  have e2 : IntKind.u16.wrap md = md := by rw [IntKind.wrap_u16]; simp at d2; omega
  obtain ⟨d3, i3⟩ := numP_in i2 h3
  have e3 : IntKind.u16.wrap ln = ln := by rw [IntKind.wrap_u16]; simp at d3; omega
  clear h b0 hR0 hin d0 i0 d1 i1 d2 i2 d3 i3
  go_enter Try.func30, Try.ntmps30
  go_wp2_with (first
    | (have _q := t0.out; clear _q; go_at_call 52; refine C0.out.mono ?_
       intro e9 w1 h9
       obtain ⟨hk9, rfl, a1, c1, hR1⟩ := takes_some h9
       have K1 := hid (K0.out.trans hk9)
       have M1 := hid (M0.out.trans hk9)
       have C1 := hid (tnum_c 1 hR1 (by omega))
       rw [h1] at C1
       have t1 := hid True.intro
       clear h9 hk9 t0 hR1)
    | (have _q := t1.out; clear _q; go_at_call 51; refine C1.out.mono ?_
       intro e9 w2 h9
       obtain ⟨hk9, rfl, a2, c2, hR2⟩ := takes_some h9
       have K2 := hid (K1.out.trans hk9)
       have M2 := hid (M1.out.trans hk9)
       have C2 := hid (tnum_c 2 hR2 (by omega))
       rw [h2] at C2
       have t2 := hid True.intro
       clear h9 hk9 t1 hR2)
    | (have _q := t2.out; clear _q; go_at_call 51; refine C2.out.mono ?_
       intro e9 w3 h9
       obtain ⟨hk9, rfl, a3, c3, hR3⟩ := takes_some h9
       have K3 := hid (K2.out.trans hk9)
       have M3 := hid (M2.out.trans hk9)
       have C3 := hid (tnum_c 2 hR3 (by omega))
       rw [h3] at C3
       have t3 := hid True.intro
       clear h9 hk9 t2 hR3)
    | (have _q := t3.out; clear _q; go_at_call 51; refine C3.out.mono ?_
       intro e9 w4 h9
       obtain ⟨hk9, rfl, a4, c4, hR4⟩ := takes_some h9
       have K4 := hid (K3.out.trans hk9)
       have M4 := hid (M3.out.trans hk9)
       have C4 := hid (short2_c hR4)
       rw [h4] at C4
       have t4 := hid True.intro
       clear h9 hk9 t3 hR4)
    | (have _q := t4.out; clear _q; go_at_call 63; refine C4.out.mono ?_
       intro e9 w9 h9
       obtain ⟨hk9, rfl⟩ := short2_none h9
       have K9 := hid (K4.out.trans hk9)
       clear h9 hk9 t4))
  exact ⟨rfl, K9.out, rfl⟩
set_option maxRecDepth 20000 in
set_option maxHeartbeats 4000000 in
theorem takeNode_n5 {r : Nat} {a : Option Addr} {c : Nat} {z0 : List Int} {w : World} (h : Rdr w r a c z0) {fid : Int} {z1 : List Int} (h0 : numP 4 z0 = some (fid, z1)) {k : Int} {z2 : List Int} (h1 : numP 1 z1 = some (k, z2)) {md : Int} {z3 : List Int} (h2 : numP 2 z2 = some (md, z3)) {ln : Int} {z4 : List Int} (h3 : numP 2 z3 = some (ln, z4)) {ys : List Int} {z5 : List Int} (h4 : shortP z4 = some (ys, z5)) (h5 : kidsP z5 = none) :
    Calls Try.prog 30 #[.pointer (some ⟨r, 0, none⟩)] w (TakesN w r none) := by
  have b0 := below_1 w (.cells Nd.no.cells.toArray 39)
  have hr0 := lt_blkR h.1
  have hR0 := rdr_later h b0
  have K0 : Hid (Kr r w (w.alloc (.cells Nd.no.cells.toArray 39))) := hid (Kr.of b0)
  have M0 : Hid (Kr r (w.alloc (.cells Nd.no.cells.toArray 39)) (w.alloc (.cells Nd.no.cells.toArray 39))) := hid (Kr.refl _ _)
  have C0 := hid (takeFid_c hR0)
  rw [h0] at C0
  have t0 := hid True.intro
  have hin := rdr_in h
  obtain ⟨d0, i0⟩ := numP_in hin h0
  obtain ⟨d1, i1⟩ := numP_in i0 h1
  have e1 : IntKind.u8.wrap k = k := by rw [IntKind.wrap_u8']; simp at d1; omega
  obtain ⟨d2, i2⟩ := numP_in i1 h2
  have e2 : IntKind.u16.wrap md = md := by rw [IntKind.wrap_u16]; simp at d2; omega
  obtain ⟨d3, i3⟩ := numP_in i2 h3
  have e3 : IntKind.u16.wrap ln = ln := by rw [IntKind.wrap_u16]; simp at d3; omega
  obtain ⟨d4, i4⟩ := shortP_in i3 h4
  have LY : Hid (ys.length ≤ 255) := hid d4
  clear h b0 hR0 hin d0 i0 d1 i1 d2 i2 d3 i3 d4 i4
  go_enter Try.func30, Try.ntmps30
  go_wp2_with (first
    | (have _q := t0.out; clear _q; go_at_call 52; refine C0.out.mono ?_
       intro e9 w1 h9
       obtain ⟨hk9, rfl, a1, c1, hR1⟩ := takes_some h9
       have K1 := hid (K0.out.trans hk9)
       have M1 := hid (M0.out.trans hk9)
       have C1 := hid (tnum_c 1 hR1 (by omega))
       rw [h1] at C1
       have t1 := hid True.intro
       clear h9 hk9 t0 hR1)
    | (have _q := t1.out; clear _q; go_at_call 51; refine C1.out.mono ?_
       intro e9 w2 h9
       obtain ⟨hk9, rfl, a2, c2, hR2⟩ := takes_some h9
       have K2 := hid (K1.out.trans hk9)
       have M2 := hid (M1.out.trans hk9)
       have C2 := hid (tnum_c 2 hR2 (by omega))
       rw [h2] at C2
       have t2 := hid True.intro
       clear h9 hk9 t1 hR2)
    | (have _q := t2.out; clear _q; go_at_call 51; refine C2.out.mono ?_
       intro e9 w3 h9
       obtain ⟨hk9, rfl, a3, c3, hR3⟩ := takes_some h9
       have K3 := hid (K2.out.trans hk9)
       have M3 := hid (M2.out.trans hk9)
       have C3 := hid (tnum_c 2 hR3 (by omega))
       rw [h3] at C3
       have t3 := hid True.intro
       clear h9 hk9 t2 hR3)
    | (have _q := t3.out; clear _q; go_at_call 51; refine C3.out.mono ?_
       intro e9 w4 h9
       obtain ⟨hk9, rfl, a4, c4, hR4⟩ := takes_some h9
       have K4 := hid (K3.out.trans hk9)
       have M4 := hid (M3.out.trans hk9)
       have C4 := hid (short2_c hR4)
       rw [h4] at C4
       have t4 := hid True.intro
       clear h9 hk9 t3 hR4)
    | (have _q := t4.out; clear _q; go_at_call 63; refine C4.out.mono ?_
       intro e9 w5 h9
       obtain ⟨hk9, ⟨p5, pc5, rfl, hI5, hl5, hp5⟩, a5, c5, hR5⟩ := short2_some h9
       have K5a := hid (K4.out.trans hk9)
       have M5a := hid (M4.out.trans hk9)
       have I5 := hid hI5
       have HR5 := hid hR5
       have PN5 : Hid (p5 = none → pc5 = 0) := hid (fun e => by rcases hp5 with q | ⟨b, off, q, _⟩; exact q.2; rw [q] at e; cases e)
       have t4a := hid True.intro
       clear h9 hk9 t4 hR5 hI5 hp5)
    | (have _q := t4a.out; clear _q; at_builtin; refine wpList_appN _ rfl _ _ rfl (w.heap.size + 1) rfl p5 ys.length pc5 ys rfl I5.out PN5.out (by have := LY.out; omega) (by have := M5a.out.size; simp at this; omega) ?_
       intro v5 u5 ho5 hb5
       have K5 := hid (K5a.out.trans (Kr.of hb5))
       have M5 := hid (M5a.out.trans (Kr.of hb5))
       have O5 := hid ho5
       have hR5 := rdr_later HR5.out hb5
       have C5 := hid (takeListK_c hR5)
       rw [h5] at C5
       have t5 := hid True.intro
       obtain ⟨da, dc, rfl⟩ := own_shapeR ho5
       clear ho5 hb5 t4a hR5 K5a M5a I5 PN5 HR5)
    | (have _q := t5.out; clear _q; go_at_call 64; refine C5.out.mono ?_
       intro e9 w9 h9
       obtain ⟨hk9, rfl⟩ := takesK_none h9
       have K9 := hid (K5.out.trans hk9)
       clear h9 hk9 t5))
  exact ⟨rfl, K9.out, rfl⟩
set_option maxRecDepth 20000 in
set_option maxHeartbeats 4000000 in
theorem takeNode_s {r : Nat} {a : Option Addr} {c : Nat} {z0 : List Int} {w : World} (h : Rdr w r a c z0) {fid : Int} {z1 : List Int} (h0 : numP 4 z0 = some (fid, z1)) {k : Int} {z2 : List Int} (h1 : numP 1 z1 = some (k, z2)) {md : Int} {z3 : List Int} (h2 : numP 2 z2 = some (md, z3)) {ln : Int} {z4 : List Int} (h3 : numP 2 z3 = some (ln, z4)) {ys : List Int} {z5 : List Int} (h4 : shortP z4 = some (ys, z5)) {ks : List Kd} {z6 : List Int} (h5 : kidsP z5 = some (ks, z6)) (hr : nodeOk ⟨fid, k, md, ln, none, 0, ys, none, 0, ks⟩ = true) :
    Calls Try.prog 30 #[.pointer (some ⟨r, 0, none⟩)] w (TakesN w r (some (⟨fid, k, md, ln, none, 0, ys, none, 0, ks⟩, z6))) := by
  have b0 := below_1 w (.cells Nd.no.cells.toArray 39)
  have hr0 := lt_blkR h.1
  have hR0 := rdr_later h b0
  have K0 : Hid (Kr r w (w.alloc (.cells Nd.no.cells.toArray 39))) := hid (Kr.of b0)
  have M0 : Hid (Kr r (w.alloc (.cells Nd.no.cells.toArray 39)) (w.alloc (.cells Nd.no.cells.toArray 39))) := hid (Kr.refl _ _)
  have C0 := hid (takeFid_c hR0)
  rw [h0] at C0
  have t0 := hid True.intro
  have hin := rdr_in h
  obtain ⟨d0, i0⟩ := numP_in hin h0
  obtain ⟨d1, i1⟩ := numP_in i0 h1
  have e1 : IntKind.u8.wrap k = k := by rw [IntKind.wrap_u8']; simp at d1; omega
  obtain ⟨d2, i2⟩ := numP_in i1 h2
  have e2 : IntKind.u16.wrap md = md := by rw [IntKind.wrap_u16]; simp at d2; omega
  obtain ⟨d3, i3⟩ := numP_in i2 h3
  have e3 : IntKind.u16.wrap ln = ln := by rw [IntKind.wrap_u16]; simp at d3; omega
  obtain ⟨d4, i4⟩ := shortP_in i3 h4
  have LY : Hid (ys.length ≤ 255) := hid d4
  have WF := hid (fun da dc ka kc => node_wf hin h0 h1 h2 h3 h4 h5 da dc ka kc)
  have HB0 := hid (heap_alloc_new w (.cells Nd.no.cells.toArray 39))
  clear h b0 hR0 hin d0 i0 d1 i1 d2 i2 d3 i3 d4 i4
  have HRT := hid hr
  clear hr
  go_enter Try.func30, Try.ntmps30
  go_wp2_with (first
    | (have _q := t0.out; clear _q; go_at_call 52; refine C0.out.mono ?_
       intro e9 w1 h9
       obtain ⟨hk9, rfl, a1, c1, hR1⟩ := takes_some h9
       have K1 := hid (K0.out.trans hk9)
       have M1 := hid (M0.out.trans hk9)
       have C1 := hid (tnum_c 1 hR1 (by omega))
       rw [h1] at C1
       have t1 := hid True.intro
       clear h9 hk9 t0 hR1)
    | (have _q := t1.out; clear _q; go_at_call 51; refine C1.out.mono ?_
       intro e9 w2 h9
       obtain ⟨hk9, rfl, a2, c2, hR2⟩ := takes_some h9
       have K2 := hid (K1.out.trans hk9)
       have M2 := hid (M1.out.trans hk9)
       have C2 := hid (tnum_c 2 hR2 (by omega))
       rw [h2] at C2
       have t2 := hid True.intro
       clear h9 hk9 t1 hR2)
    | (have _q := t2.out; clear _q; go_at_call 51; refine C2.out.mono ?_
       intro e9 w3 h9
       obtain ⟨hk9, rfl, a3, c3, hR3⟩ := takes_some h9
       have K3 := hid (K2.out.trans hk9)
       have M3 := hid (M2.out.trans hk9)
       have C3 := hid (tnum_c 2 hR3 (by omega))
       rw [h3] at C3
       have t3 := hid True.intro
       clear h9 hk9 t2 hR3)
    | (have _q := t3.out; clear _q; go_at_call 51; refine C3.out.mono ?_
       intro e9 w4 h9
       obtain ⟨hk9, rfl, a4, c4, hR4⟩ := takes_some h9
       have K4 := hid (K3.out.trans hk9)
       have M4 := hid (M3.out.trans hk9)
       have C4 := hid (short2_c hR4)
       rw [h4] at C4
       have t4 := hid True.intro
       clear h9 hk9 t3 hR4)
    | (have _q := t4.out; clear _q; go_at_call 63; refine C4.out.mono ?_
       intro e9 w5 h9
       obtain ⟨hk9, ⟨p5, pc5, rfl, hI5, hl5, hp5⟩, a5, c5, hR5⟩ := short2_some h9
       have K5a := hid (K4.out.trans hk9)
       have M5a := hid (M4.out.trans hk9)
       have I5 := hid hI5
       have HR5 := hid hR5
       have PN5 : Hid (p5 = none → pc5 = 0) := hid (fun e => by rcases hp5 with q | ⟨b, off, q, _⟩; exact q.2; rw [q] at e; cases e)
       have t4a := hid True.intro
       clear h9 hk9 t4 hR5 hI5 hp5)
    | (have _q := t4a.out; clear _q; at_builtin; refine wpList_appN _ rfl _ _ rfl (w.heap.size + 1) rfl p5 ys.length pc5 ys rfl I5.out PN5.out (by have := LY.out; omega) (by have := M5a.out.size; simp at this; omega) ?_
       intro v5 u5 ho5 hb5
       have K5 := hid (K5a.out.trans (Kr.of hb5))
       have M5 := hid (M5a.out.trans (Kr.of hb5))
       have O5 := hid ho5
       have hR5 := rdr_later HR5.out hb5
       have C5 := hid (takeListK_c hR5)
       rw [h5] at C5
       have t5 := hid True.intro
       obtain ⟨da, dc, rfl⟩ := own_shapeR ho5
       clear ho5 hb5 t4a hR5 K5a M5a I5 PN5 HR5)
    | (have _q := t5.out; clear _q; go_at_call 64; refine C5.out.mono ?_
       intro e9 w6 h9
       obtain ⟨hk9, ⟨v6, rfl, hO6⟩, a6, c6, hR6⟩ := takesK_some h9
       have K6 := hid (K5.out.trans hk9)
       have M6 := hid (M5.out.trans hk9)
       have OD := hid (own_kr O5.out hk9 (by omega))
       have OK6 := hid (own_low hO6 (base' := w.heap.size + 1) (by have := M5.out.size; simp at this; omega))
       obtain ⟨ka, kc, rfl⟩ := own_shapeR hO6
       have NO6 : Hid (NdOwn w6 (w.heap.size + 1) ⟨fid, k, md, ln, da, dc, ys, ka, kc, ks⟩) := hid ⟨WF.out da dc ka kc, OD.out, OK6.out⟩
       have HR6 := hid hR6
       have HB6 := hid ((M6.out.block w.heap.size (by simp) (by omega)).trans HB0.out)
       have HX6 := hid (heap_alloc_new w6 (.cells (⟨fid, k, md, ln, da, dc, ys, ka, kc, ks⟩ : Nd).cells.toArray 39))
       have B6 := hid (below_1 w6 (.cells (⟨fid, k, md, ln, da, dc, ys, ka, kc, ks⟩ : Nd).cells.toArray 39))
       have NO7 := hid (NO6.out.later B6.out)
       have RC := hid (rightNode_c (⟨fid, k, md, ln, da, dc, ys, ka, kc, ks⟩ : Nd) _ NO7.out.ok)
       rw [show nodeOk (⟨fid, k, md, ln, da, dc, ys, ka, kc, ks⟩ : Nd) = true from HRT.out] at RC
       obtain ⟨p0, p1, p2, p3, p4, p5⟩ := nd_cells HX6.out
       dsimp only [Nd.cells, Nd.val] at p0 p1 p2 p3 p4 p5 RC HX6 B6 NO7
       have t6 := hid True.intro
       clear h9 hk9 t5 hR6 hO6 O5 OD OK6)
    | (have _q := t6.out; clear _q; go_at_call 46; refine RC.out.mono ?_; rintro _ w10 ⟨rfl, hb10⟩
       have B10 := hid (B6.out.trans (hb10.mono B6.out.size))
       have K10 := hid (K6.out.trans (Kr.of B10.out))
       have HR10 := hid (rdr_later HR6.out B10.out)
       have HX10 := hid ((hb10.block _ (lt_blkR HX6.out)).trans HX6.out)
       have HB10 := hid ((B10.out.block _ (lt_blkR HB6.out)).trans HB6.out)
       have NO10 := hid (NO6.out.later B10.out)
       obtain ⟨p0, p1, p2, p3, p4, p5⟩ := nd_cells (x := ⟨fid, k, md, ln, da, dc, ys, ka, kc, ks⟩) HX10.out
       obtain ⟨q0, q1, q2, q3, q4, q5⟩ := nd_cells (x := Nd.no) HB10.out
       have fz : ∀ i, w10.frozen? ⟨w.heap.size, i, none⟩ = false := fun i => by simp [World.frozen?, HB10.out]
       dsimp only [Nd.no] at p0 p1 p2 p3 p4 p5 q0 q1 q2 q3 q4 q5
       clear hb10 t6)
    | (go_at_call 54; refine (refuse_f _).mono ?_; rintro _ wf ⟨rfl, hwf⟩; have hwf2 := hwf.symm; clear hwf; subst hwf2))
  refine bodyPost_ret (v := Nd.val ⟨fid, k, md, ln, da, dc, ys, ka, kc, ks⟩) (by simp [results, Try.results30, go_sem, Nd.val, q0, q1, q2, q3, q4, q5]) rfl ⟨((((((K10.out.new (Nat.le_refl _) 0 _).new (Nat.le_refl _) 1 _).new (Nat.le_refl _) 2 _).new (Nat.le_refl _) 3 _).new (Nat.le_refl _) 4 _).new (Nat.le_refl _) 5 _), ⟨da, dc, ka, kc, rfl, ?_⟩, _, _, (rdr_new (rdr_new (rdr_new (rdr_new (rdr_new (rdr_new HR10.out hr0 0 _) hr0 1 _) hr0 2 _) hr0 3 _) hr0 4 _) hr0 5 _)⟩
  exact ((((((NO10.out.set (Nat.lt_succ_self _) _).set (Nat.lt_succ_self _) _).set (Nat.lt_succ_self _) _).set (Nat.lt_succ_self _) _).set (Nat.lt_succ_self _) _).set (Nat.lt_succ_self _) _).low (Nat.le_succ _)
set_option maxRecDepth 20000 in
set_option maxHeartbeats 4000000 in
theorem takeNode_w {r : Nat} {a : Option Addr} {c : Nat} {z0 : List Int} {w : World} (h : Rdr w r a c z0) {fid : Int} {z1 : List Int} (h0 : numP 4 z0 = some (fid, z1)) {k : Int} {z2 : List Int} (h1 : numP 1 z1 = some (k, z2)) {md : Int} {z3 : List Int} (h2 : numP 2 z2 = some (md, z3)) {ln : Int} {z4 : List Int} (h3 : numP 2 z3 = some (ln, z4)) {ys : List Int} {z5 : List Int} (h4 : shortP z4 = some (ys, z5)) {ks : List Kd} {z6 : List Int} (h5 : kidsP z5 = some (ks, z6)) (hr : nodeOk ⟨fid, k, md, ln, none, 0, ys, none, 0, ks⟩ = false) :
    Calls Try.prog 30 #[.pointer (some ⟨r, 0, none⟩)] w (TakesN w r none) := by
  have b0 := below_1 w (.cells Nd.no.cells.toArray 39)
  have hr0 := lt_blkR h.1
  have hR0 := rdr_later h b0
  have K0 : Hid (Kr r w (w.alloc (.cells Nd.no.cells.toArray 39))) := hid (Kr.of b0)
  have M0 : Hid (Kr r (w.alloc (.cells Nd.no.cells.toArray 39)) (w.alloc (.cells Nd.no.cells.toArray 39))) := hid (Kr.refl _ _)
  have C0 := hid (takeFid_c hR0)
  rw [h0] at C0
  have t0 := hid True.intro
  have hin := rdr_in h
  obtain ⟨d0, i0⟩ := numP_in hin h0
  obtain ⟨d1, i1⟩ := numP_in i0 h1
  have e1 : IntKind.u8.wrap k = k := by rw [IntKind.wrap_u8']; simp at d1; omega
  obtain ⟨d2, i2⟩ := numP_in i1 h2
  have e2 : IntKind.u16.wrap md = md := by rw [IntKind.wrap_u16]; simp at d2; omega
  obtain ⟨d3, i3⟩ := numP_in i2 h3
  have e3 : IntKind.u16.wrap ln = ln := by rw [IntKind.wrap_u16]; simp at d3; omega
  obtain ⟨d4, i4⟩ := shortP_in i3 h4
  have LY : Hid (ys.length ≤ 255) := hid d4
  have WF := hid (fun da dc ka kc => node_wf hin h0 h1 h2 h3 h4 h5 da dc ka kc)
  have HB0 := hid (heap_alloc_new w (.cells Nd.no.cells.toArray 39))
  clear h b0 hR0 hin d0 i0 d1 i1 d2 i2 d3 i3 d4 i4
  have HRT := hid hr
  clear hr
  go_enter Try.func30, Try.ntmps30
  go_wp2_with (first
    | (have _q := t0.out; clear _q; go_at_call 52; refine C0.out.mono ?_
       intro e9 w1 h9
       obtain ⟨hk9, rfl, a1, c1, hR1⟩ := takes_some h9
       have K1 := hid (K0.out.trans hk9)
       have M1 := hid (M0.out.trans hk9)
       have C1 := hid (tnum_c 1 hR1 (by omega))
       rw [h1] at C1
       have t1 := hid True.intro
       clear h9 hk9 t0 hR1)
    | (have _q := t1.out; clear _q; go_at_call 51; refine C1.out.mono ?_
       intro e9 w2 h9
       obtain ⟨hk9, rfl, a2, c2, hR2⟩ := takes_some h9
       have K2 := hid (K1.out.trans hk9)
       have M2 := hid (M1.out.trans hk9)
       have C2 := hid (tnum_c 2 hR2 (by omega))
       rw [h2] at C2
       have t2 := hid True.intro
       clear h9 hk9 t1 hR2)
    | (have _q := t2.out; clear _q; go_at_call 51; refine C2.out.mono ?_
       intro e9 w3 h9
       obtain ⟨hk9, rfl, a3, c3, hR3⟩ := takes_some h9
       have K3 := hid (K2.out.trans hk9)
       have M3 := hid (M2.out.trans hk9)
       have C3 := hid (tnum_c 2 hR3 (by omega))
       rw [h3] at C3
       have t3 := hid True.intro
       clear h9 hk9 t2 hR3)
    | (have _q := t3.out; clear _q; go_at_call 51; refine C3.out.mono ?_
       intro e9 w4 h9
       obtain ⟨hk9, rfl, a4, c4, hR4⟩ := takes_some h9
       have K4 := hid (K3.out.trans hk9)
       have M4 := hid (M3.out.trans hk9)
       have C4 := hid (short2_c hR4)
       rw [h4] at C4
       have t4 := hid True.intro
       clear h9 hk9 t3 hR4)
    | (have _q := t4.out; clear _q; go_at_call 63; refine C4.out.mono ?_
       intro e9 w5 h9
       obtain ⟨hk9, ⟨p5, pc5, rfl, hI5, hl5, hp5⟩, a5, c5, hR5⟩ := short2_some h9
       have K5a := hid (K4.out.trans hk9)
       have M5a := hid (M4.out.trans hk9)
       have I5 := hid hI5
       have HR5 := hid hR5
       have PN5 : Hid (p5 = none → pc5 = 0) := hid (fun e => by rcases hp5 with q | ⟨b, off, q, _⟩; exact q.2; rw [q] at e; cases e)
       have t4a := hid True.intro
       clear h9 hk9 t4 hR5 hI5 hp5)
    | (have _q := t4a.out; clear _q; at_builtin; refine wpList_appN _ rfl _ _ rfl (w.heap.size + 1) rfl p5 ys.length pc5 ys rfl I5.out PN5.out (by have := LY.out; omega) (by have := M5a.out.size; simp at this; omega) ?_
       intro v5 u5 ho5 hb5
       have K5 := hid (K5a.out.trans (Kr.of hb5))
       have M5 := hid (M5a.out.trans (Kr.of hb5))
       have O5 := hid ho5
       have hR5 := rdr_later HR5.out hb5
       have C5 := hid (takeListK_c hR5)
       rw [h5] at C5
       have t5 := hid True.intro
       obtain ⟨da, dc, rfl⟩ := own_shapeR ho5
       clear ho5 hb5 t4a hR5 K5a M5a I5 PN5 HR5)
    | (have _q := t5.out; clear _q; go_at_call 64; refine C5.out.mono ?_
       intro e9 w6 h9
       obtain ⟨hk9, ⟨v6, rfl, hO6⟩, a6, c6, hR6⟩ := takesK_some h9
       have K6 := hid (K5.out.trans hk9)
       have M6 := hid (M5.out.trans hk9)
       have OD := hid (own_kr O5.out hk9 (by omega))
       have OK6 := hid (own_low hO6 (base' := w.heap.size + 1) (by have := M5.out.size; simp at this; omega))
       obtain ⟨ka, kc, rfl⟩ := own_shapeR hO6
       have NO6 : Hid (NdOwn w6 (w.heap.size + 1) ⟨fid, k, md, ln, da, dc, ys, ka, kc, ks⟩) := hid ⟨WF.out da dc ka kc, OD.out, OK6.out⟩
       have HR6 := hid hR6
       have HB6 := hid ((M6.out.block w.heap.size (by simp) (by omega)).trans HB0.out)
       have HX6 := hid (heap_alloc_new w6 (.cells (⟨fid, k, md, ln, da, dc, ys, ka, kc, ks⟩ : Nd).cells.toArray 39))
       have B6 := hid (below_1 w6 (.cells (⟨fid, k, md, ln, da, dc, ys, ka, kc, ks⟩ : Nd).cells.toArray 39))
       have NO7 := hid (NO6.out.later B6.out)
       have RC := hid (rightNode_c (⟨fid, k, md, ln, da, dc, ys, ka, kc, ks⟩ : Nd) _ NO7.out.ok)
       rw [show nodeOk (⟨fid, k, md, ln, da, dc, ys, ka, kc, ks⟩ : Nd) = false from HRT.out] at RC
       obtain ⟨p0, p1, p2, p3, p4, p5⟩ := nd_cells HX6.out
       dsimp only [Nd.cells, Nd.val] at p0 p1 p2 p3 p4 p5 RC HX6 B6 NO7
       have t6 := hid True.intro
       clear h9 hk9 t5 hR6 hO6 O5 OD OK6)
    | (have _q := t6.out; clear _q; go_at_call 46; refine RC.out.mono ?_; rintro _ w10 ⟨rfl, hb10⟩
       have B10 := hid (B6.out.trans (hb10.mono B6.out.size))
       have K10 := hid (K6.out.trans (Kr.of B10.out))
       have HR10 := hid (rdr_later HR6.out B10.out)
       have HX10 := hid ((hb10.block _ (lt_blkR HX6.out)).trans HX6.out)
       have HB10 := hid ((B10.out.block _ (lt_blkR HB6.out)).trans HB6.out)
       have NO10 := hid (NO6.out.later B10.out)
       obtain ⟨p0, p1, p2, p3, p4, p5⟩ := nd_cells (x := ⟨fid, k, md, ln, da, dc, ys, ka, kc, ks⟩) HX10.out
       obtain ⟨q0, q1, q2, q3, q4, q5⟩ := nd_cells (x := Nd.no) HB10.out
       have fz : ∀ i, w10.frozen? ⟨w.heap.size, i, none⟩ = false := fun i => by simp [World.frozen?, HB10.out]
       dsimp only [Nd.no] at p0 p1 p2 p3 p4 p5 q0 q1 q2 q3 q4 q5
       clear hb10 t6)
    | (go_at_call 54; refine (refuse_t _).mono ?_; rintro _ wf ⟨rfl, hwf⟩; have hwf2 := hwf.symm; clear hwf; subst hwf2))
  exact ⟨rfl, K10.out, rfl⟩
theorem takeNode_c {r : Nat} {a : Option Addr} {c : Nat} {z0 : List Int} {w : World} (h : Rdr w r a c z0) :
    Calls Try.prog 30 #[.pointer (some ⟨r, 0, none⟩)] w (TakesN w r (nodeP z0)) := by
  unfold nodeP
  rcases h0 : numP 4 z0 with _ | ⟨fid, z1⟩
  · exact takeNode_n0 h h0
  simp only
  rcases h1 : numP 1 z1 with _ | ⟨k, z2⟩
  · exact takeNode_n1 h h0 h1
  simp only
  rcases h2 : numP 2 z2 with _ | ⟨md, z3⟩
  · exact takeNode_n2 h h0 h1 h2
  simp only
  rcases h3 : numP 2 z3 with _ | ⟨ln, z4⟩
  · exact takeNode_n3 h h0 h1 h2 h3
  simp only
  rcases h4 : shortP z4 with _ | ⟨ys, z5⟩
  · exact takeNode_n4 h h0 h1 h2 h3 h4
  simp only
  rcases h5 : kidsP z5 with _ | ⟨ks, z6⟩
  · exact takeNode_n5 h h0 h1 h2 h3 h4 h5
  simp only
  cases hr : nodeOk ⟨fid, k, md, ln, none, 0, ys, none, 0, ks⟩ with
  | true => exact takeNode_s h h0 h1 h2 h3 h4 h5 hr
  | false => exact takeNode_w h h0 h1 h2 h3 h4 h5 hr
end Go.Proofs.Ytbgninmkglgfeaa
