/-
  The document's tree: copied: nodes whose lists are their own.
  The document's tree: trees in memory; set and less on them; where nodes lie does not matter.
  The document's tree: create.
  The document's tree: hard.
  The document's tree: remove.
  The document's tree: rename.
-/
import Derived.Test.YtloojakcknnilaaGreatSyAg
import Derived.Laws.IdiomStrings
import Derived.Deep.RegionHeld3
namespace Go.Proofs.YtloojakcknnilaaGreat
open Go.RowKit Go.ChangeShapes Go.WideShapes Go.ChangeAt Go.Maps Go.Shelf
set_option linter.unusedVariables false
set_option linter.unusedSimpArgs false
set_option maxRecDepth 100000
/-- What is nil has no room. -/
def Nd.Nil (x : Nd) : Prop := (x.da = none → x.dc = 0) ∧ (x.ka = none → x.kc = 0)
/-- A node's numbers, bytes and entries are within their bounds, and few. -/
def Nd.Fit (x : Nd) : Prop := (0 ≤ x.fid ∧ x.fid < 4294967296) ∧ (0 ≤ x.k ∧ x.k < 256) ∧ (0 ≤ x.md ∧ x.md < 65536) ∧ (0 ≤ x.ln ∧ x.ln < 65536) ∧ InB x.zs ∧ (∀ q ∈ x.ks, q.Wf) ∧ x.zs.length ≤ 1000 ∧ x.ks.length ≤ 1000
/-- A node whose data and entries lie in rows of their own. -/
def NdR (w : World) (base : Nat) (x : Nd) : Prop := x.Fit ∧ x.Nil ∧ RowAt w base 5 x.da (x.zs.map u8V) ∧ RowAt w base 72 x.ka (kcells x.ks)
theorem NdR.later {w w' : World} {base : Nat} {x : Nd} (h : NdR w base x) (hb : Below w.heap.size w w') : NdR w' base x := ⟨h.1, h.2.1, h.2.2.1.later hb, h.2.2.2.later hb⟩
theorem RowAt.lowR {w : World} {base b : Nat} {t : TypeId} {p : Option Addr} {vs : List Value} (h : RowAt w base t p vs) (hb : b ≤ base) : RowAt w b t p vs := by
  rcases h with h | ⟨g, cs, fr, h1, h2, h3, h4⟩
  · exact .inl h
  · exact .inr ⟨g, cs, fr, h1, by omega, h3, h4⟩
theorem NdR.low {w : World} {base b : Nat} {x : Nd} (h : NdR w base x) (hb : b ≤ base) : NdR w b x := ⟨h.1, h.2.1, h.2.2.1.lowR hb, h.2.2.2.lowR hb⟩
theorem NdR.ok {w : World} {base : Nat} {x : Nd} (h : NdR w base x) : x.Ok w := by
  obtain ⟨⟨h1, h2, h3, h4, h5, h6, h7, h8⟩, _, hd, hk⟩ := h
  refine ⟨h1, h2, h3, h4, ⟨rfl, by unfold maxLen; omega, fun hp => ?_, h5⟩, ⟨by unfold maxLen; omega, h6, fun hp => ?_⟩⟩
  · rcases hd with hd | ⟨g, cs, fr, e1, e2, e3, e4⟩
    · have := congrArg List.length hd
      simp at this
      rw [this] at hp
      exact absurd hp (by simp)
    · refine ⟨g, 0, e1, fun i hi => ?_⟩
      rw [cell_of_row w g _ _ _ fr e3]
      refine e4 (0 + i) _ ?_
      simp [List.getElem?_map, List.getD, hi, u8V]
  · rcases hk with hk | ⟨g, cs, fr, e1, e2, e3, e4⟩
    · have := congrArg List.length hk
      rw [kcells_len] at this
      simp only [List.length_nil] at this
      omega
    · refine ⟨g, 0, e1, fun i hi => ?_⟩
      have key : ∀ j, j < 2 → ∀ u, (x.ks.getD i Kd.no).cells[j]? = some u → w.cell? ⟨g, 0 + i * 2 + j, none⟩ = some u := fun j hj u hu => by
        rw [cell_of_row w g _ _ _ fr e3]
        refine e4 (0 + i * 2 + j) _ ?_
        rw [Nat.zero_add, kcells_get x.ks i j hi hj]
        exact hu
      exact ⟨key 0 (by omega) _ rfl, key 1 (by omega) _ rfl⟩
theorem NdR.grown {w w' : World} {base b : Nat} {x : Nd} {v : Value} {L : List Nd} (h : NdR w base x) (hown : OwN w b v L) (hg : w.grownBy w' v.ownBlock) : NdR w' base x :=
  ⟨h.1, h.2.1, h.2.2.1.grown hown (by decide) hg, h.2.2.2.grown hown (by decide) hg⟩
theorem own_empty_at {w : World} {e : TypeId} {size g base : Nat} (h : w.heap[g]? = some (.cells #[] e (0, 0))) (hb : base ≤ g) : w.ownsRow base e size (.slice (some ⟨g, 0, none⟩) 0 0) 0 [] :=
  ⟨by simp, .inr ⟨g, 0, #[], rfl, hb, h, Nat.le_refl _, Nat.zero_le _, by simp, by simp⟩⟩
/-- 'append([]byte{}, x...)'. -/
theorem wpList_cpB (w : World) {ops : Array Oper} {rest : List Oper} {o : Oper} {a : Act} {Q : Exit → Act → World → Prop} (hgd : o.guard = none) (s x : Operand)
    (ho : o.op = .call { callee := .builtin .append, args := #[s, x], argTypes := #[55, 55] }) (g : Nat) (hs : a.eval s = .slice (some ⟨g, 0, none⟩) 0 0) (hg0 : w.heap[g]? = some (.cells #[] 5 (0, 0)))
    (pa : Option Addr) (m c : Nat) (zs : List Int) (hx : a.eval x = .slice pa m c) (hb : IsB w pa m zs) (hc : pa = none → c = 0) (h63 : m ≤ 1000000)
    (h : ∀ v' w', OwB w' g v' zs → w.grownBy w' (some g) → wpList Tryz.prog ops Q rest (a.put o.dst v') w') : wpList Tryz.prog ops Q (o :: rest) a w := by
  obtain ⟨i0, hi, hz0, hz1, hz2⟩ := info_parts8
  have hown : w.ownsRow g 5 1 (.slice (some ⟨g, 0, none⟩) 0 0) 0 [] := own_empty_at hg0 (Nat.le_refl _)
  have hl := hb.1
  have hgs := lt_blkR hg0
  cases pa with
  | none =>
    have hm : m = 0 := by
      rcases Nat.eq_zero_or_pos m with h0 | h0
      · exact h0
      · obtain ⟨b, off, e, _⟩ := hb.2.2.1 h0; cases e
    subst hm
    have hz : zs = [] := List.eq_nil_of_length_eq_zero hb.1
    subst hz
    have hc0 := hc rfl
    subst hc0
    refine wpList_append_own_none hgd s x 55 ho g 5 i0 1 Tryz.underlying55 hi _ 0 [] hs hown hx ?_
    exact h _ w hown (World.grownBy.refl w _)
  | some ad =>
    by_cases hm : m = 0
    · subst hm
      have hz : zs = [] := List.eq_nil_of_length_eq_zero hb.1
      subst hz
      refine wpList_append_own w hgd s x 55 ho g 5 i0 (.int .u8 0) 1 1 Tryz.underlying55 hi hz0 hz1 hz2 rfl (by decide) _ 0 [] hs hown ad 0 c [] hx rfl (fun j u hu => by simp at hu) (fun u hu => by cases hu) (by unfold maxLen; omega) (by omega) (by omega) ?_
      intro v' w' h1 h2 h3
      exact h v' w' (by unfold OwB; simpa using h1) h2
    · obtain ⟨b, off, e, _⟩ := hb.2.2.1 (by omega)
      cases e
      refine wpList_append_own w hgd s x 55 ho g 5 i0 (.int .u8 0) 1 1 Tryz.underlying55 hi hz0 hz1 hz2 rfl (by decide) _ 0 [] hs hown ⟨b, off, none⟩ m c (zs.map u8V) hx (by simp [hl]) (isB_newsF hb) (u8V_one zs) (by unfold maxLen; omega) (by omega) (by omega) ?_
      intro v' w' h1 h2 h3
      refine h v' w' ?_ h2
      unfold OwB
      rw [hl]
      simpa using h1
theorem ks_news {w : World} {b off : Nat} {l : List Kd} (h : IsKs w (some ⟨b, off, none⟩) l) : ∀ j u, (kcells l)[j]? = some u → w.cell? ((⟨b, off, none⟩ : Addr).add j) = some u := fun j u hu => by
  have hj : j < l.length * 2 := by rw [← kcells_len]; exact (List.getElem?_eq_some_iff.1 hu).1
  have e : (⟨b, off, none⟩ : Addr).add j = ⟨b, off + j, none⟩ := by unfold Addr.add; split <;> simp_all
  have hd : j / 2 * 2 + j % 2 = j := by omega
  have hi : j / 2 < l.length := by omega
  obtain ⟨k0, k1⟩ := h.at hi
  rw [e]
  rw [← hd, kcells_get l (j / 2) (j % 2) hi (by omega)] at hu
  have hm : j % 2 = 0 ∨ j % 2 = 1 := by omega
  rcases hm with hm | hm
  · rw [hm] at hu hd
    have : u = .string (l.getD (j / 2) Kd.no).nm := by simpa [Kd.cells] using hu.symm
    rw [this, ← k0]
    congr 2
    omega
  · rw [hm] at hu hd
    have : u = .int .u32 (l.getD (j / 2) Kd.no).fid := by simpa [Kd.cells] using hu.symm
    rw [this, ← k1]
    congr 2
    omega
theorem kcells_one (l : List Kd) : ∀ u ∈ kcells l, u.oneCell' = true := fun u hu => by
  unfold kcells at hu
  rw [List.mem_flatMap] at hu
  obtain ⟨x, _, hx⟩ := hu
  exact kid_one x u hx
/-- 'append([]api.Kid{}, x...)'. -/
theorem wpList_cpK (w : World) {ops : Array Oper} {rest : List Oper} {o : Oper} {a : Act} {Q : Exit → Act → World → Prop} (hgd : o.guard = none) (s x : Operand)
    (ho : o.op = .call { callee := .builtin .append, args := #[s, x], argTypes := #[56, 56] }) (g : Nat) (hs : a.eval s = .slice (some ⟨g, 0, none⟩) 0 0) (hg0 : w.heap[g]? = some (.cells #[] 72 (0, 0)))
    (pa : Option Addr) (m c : Nat) (l : List Kd) (hx : a.eval x = .slice pa m c) (hb : IsKs w pa l) (hl : m = l.length) (hc : pa = none → c = 0) (h63 : m ≤ 100000)
    (h : ∀ v' w', OwK w' g v' l → w.grownBy w' (some g) → wpList Tryz.prog ops Q rest (a.put o.dst v') w') : wpList Tryz.prog ops Q (o :: rest) a w := by
  obtain ⟨i0, hi, hz0, hz1, hz2⟩ := info_kid
  have hown : w.ownsRow g 72 2 (.slice (some ⟨g, 0, none⟩) 0 0) 0 [] := own_empty_at hg0 (Nat.le_refl _)
  have hgs := lt_blkR hg0
  cases pa with
  | none =>
    have hm : l = [] := by
      cases l with
      | nil => rfl
      | cons y ys => obtain ⟨b, off, e, _⟩ := hb.2.2 (by simp); cases e
    subst hm
    simp only [List.length_nil] at hl
    subst hl
    have hc0 := hc rfl
    subst hc0
    refine wpList_append_own_none hgd s x 56 ho g 72 i0 2 Tryz.underlying56 hi _ 0 [] hs hown hx ?_
    exact h _ w hown (World.grownBy.refl w _)
  | some ad =>
    by_cases hm : l.length = 0
    · have hz : l = [] := List.eq_nil_of_length_eq_zero hm
      subst hz
      subst hl
      refine wpList_append_own w hgd s x 56 ho g 72 i0 Kd.no.val 2 24 Tryz.underlying56 hi hz0 hz1 hz2 (by rfl) (by decide) _ 0 [] hs hown ad 0 c [] hx rfl (fun j u hu => by simp at hu) (fun u hu => by cases hu) (by unfold maxLen; omega) (by omega) (by omega) ?_
      intro v' w' h1 h2 h3
      exact h v' w' (by unfold OwK; exact h1) h2
    · obtain ⟨b, off, e, _⟩ := hb.2.2 (by omega)
      cases e
      subst hl
      refine wpList_append_own w hgd s x 56 ho g 72 i0 Kd.no.val 2 24 Tryz.underlying56 hi hz0 hz1 hz2 (by rfl) (by decide) _ 0 [] hs hown ⟨b, off, none⟩ l.length c (kcells l) hx (by rw [kcells_len]) (ks_news hb) (kcells_one l) (by unfold maxLen; omega) (by omega) (by omega) ?_
      intro v' w' h1 h2 h3
      refine h v' w' ?_ h2
      unfold OwK
      simpa using h1
theorem OwB.shapeR {w : World} {base : Nat} {v : Value} {zs : List Int} (h : OwB w base v zs) : ∃ a cap, v = .slice a zs.length cap ∧ (a = none → cap = 0) ∧ RowAt w base 5 a (zs.map u8V) := by
  have hz : zs.length = 0 → zs.map u8V = [] := fun e => by rw [List.eq_nil_of_length_eq_zero e]; rfl
  rcases h.2 with ⟨hv, hn⟩ | ⟨g, cap, cur, hv, hrest⟩
  · exact ⟨none, 0, by rw [hv, hn], fun _ => rfl, .inl (hz hn)⟩
  · exact ⟨_, _, hv, (fun e => by cases e), RowAt.own h hv hz⟩
theorem OwK.shapeR {w : World} {base : Nat} {v : Value} {l : List Kd} (h : OwK w base v l) : ∃ a cap, v = .slice a l.length cap ∧ (a = none → cap = 0) ∧ RowAt w base 72 a (kcells l) := by
  have hz : l.length = 0 → kcells l = [] := fun e => by rw [List.eq_nil_of_length_eq_zero e]; rfl
  rcases h.2 with ⟨hv, hn⟩ | ⟨g, cap, cur, hv, hrest⟩
  · exact ⟨none, 0, by rw [hv, hn], fun _ => rfl, .inl (hz hn)⟩
  · exact ⟨_, _, hv, (fun e => by cases e), RowAt.own h hv hz⟩
theorem RowAt.setR {w : World} {base : Nat} {t : TypeId} {p : Option Addr} {vs : List Value} {q : Addr} {cs : Array Value} {e : TypeId} {fr : Nat × Nat} (h : RowAt w base t p vs) (hq : w.heap[q.block]? = some (.cells cs e fr)) (hne : t ≠ e) (u : Value) : RowAt (w.setCell q u) base t p vs := by
  rcases h with h | ⟨g, cs', fr', h1, h2, h3, h4⟩
  · exact .inl h
  · refine .inr ⟨g, cs', fr', h1, h2, ?_, h4⟩
    have : g ≠ q.block := fun e1 => by
      subst e1
      rw [hq] at h3
      cases h3
      exact hne rfl
    rw [Below.heap_setCell _ _ _ _ this]
    exact h3
end Go.Proofs.YtloojakcknnilaaGreat
namespace Go.Proofs.YtloojakcknnilaaGreat
open Go.RowKit Go.ChangeShapes Go.WideShapes Go.ChangeAt Go.Maps Go.Shelf
set_option linter.unusedVariables false
set_option linter.unusedSimpArgs false
set_option maxRecDepth 100000
/-- A node that can be read, with few bytes and entries. -/
def NdP (w : World) (x : Nd) : Prop := x.Ok w ∧ x.Nil ∧ x.zs.length ≤ 1000 ∧ x.ks.length ≤ 1000
theorem NdP.later {w w' : World} {x : Nd} (h : NdP w x) (hb : Below w.heap.size w w') : NdP w' x := ⟨h.1.later hb, h.2⟩
/-- Nodes that can be read. -/
def Tr (w : World) (a : Option Addr) (l : List Nd) : Prop := IsNs w a l ∧ ∀ x ∈ l, x.Nil ∧ x.zs.length ≤ 1000 ∧ x.ks.length ≤ 1000
theorem Tr.later {w w' : World} {a : Option Addr} {l : List Nd} (h : Tr w a l) (hb : Below w.heap.size w w') : Tr w' a l := ⟨h.1.later hb, h.2⟩
theorem Tr.nil (w : World) : Tr w none [] := ⟨⟨Nat.zero_le _, (fun x hx => by cases hx), fun hp => absurd hp (by simp)⟩, fun x hx => by cases hx⟩
theorem Tr.nd {w : World} {a : Option Addr} {l : List Nd} (h : Tr w a l) {x : Nd} (hx : x ∈ l) : NdP w x := ⟨h.1.2.1 x hx, h.2 x hx⟩
theorem Tr.get {w : World} {a : Option Addr} {l : List Nd} (h : Tr w a l) {f : Int} {x : Nd} (hx : getF l f = some x) : NdP w x := h.nd (getF_mem hx).1
theorem Tr.of {w : World} {base : Nat} {v : Value} {L : List Nd} (h : OwN w base v L) (hk : ∀ x ∈ L, NdP w x) (hm : L.length ≤ 100000) : ∃ a cap, v = .slice a L.length cap ∧ Tr w a L := by
  obtain ⟨a, cap, e, hI⟩ := h.is (fun x hx => (hk x hx).1) hm
  exact ⟨a, cap, e, hI, fun x hx => (hk x hx).2⟩
theorem NdR.p {w : World} {base : Nat} {x : Nd} (h : NdR w base x) : NdP w x := ⟨h.ok, h.2.1, h.1.2.2.2.2.2.2.1, h.1.2.2.2.2.2.2.2⟩
theorem setFold_len (n : Nd) : ∀ (l : List Nd) (p : List Nd × Bool), (l.foldl (setS n) p).1.length + (if (l.foldl (setS n) p).2 then 0 else 1) ≤ p.1.length + l.length + (if p.2 then 0 else 1)
  | [], p => Nat.le_refl _
  | x :: t, p => by
    rw [List.foldl_cons]
    have ih := setFold_len n t (setS n p x)
    have : (setS n p x).1.length + (if (setS n p x).2 then 0 else 1) ≤ p.1.length + 1 + (if p.2 then 0 else 1) := by
      unfold setS
      cases p.2 <;> cases decide (n.fid ≤ x.fid) <;> cases (x.fid != n.fid) <;> simp
    simp only [List.length_cons]
    omega
theorem setL_len (l : List Nd) (n : Nd) : (setL l n).length ≤ l.length + 1 := by
  have := setFold_len n l ([], false)
  unfold setL
  split
  · rename_i h; rw [h] at this; simp at this; omega
  · rename_i h
    rw [Bool.not_eq_true] at h
    rw [h] at this
    simp only [List.length_append, List.length_cons, List.length_nil]
    simp at this
    omega
theorem outL_len2 (l : List Nd) (f : Int) : (outL l f).length ≤ l.length := List.length_filter_le _ _
theorem getF_er (l : List Nd) (f : Int) : getF (l.map Nd.er) f = (getF l f).map Nd.er := by
  unfold getF
  rw [List.find?_map]
  rfl
/-- A node with another number of links. -/
def Nd.lnk (x : Nd) (n : Int) : Nd := ⟨x.fid, x.k, x.md, n, x.da, x.dc, x.zs, x.ka, x.kc, x.ks⟩
theorem lessL_len (l : List Nd) (x : Nd) : (lessL l x).length ≤ l.length + 1 := by
  unfold lessL
  split
  · have := outL_len2 l x.fid; omega
  · exact setL_len _ _
theorem entS_mem (s : ByteArray) (f : Int) (p : List Kd × Bool) (x y : Kd) (h : y ∈ (entS s f p x).1) : y ∈ p.1 ∨ y = ⟨s, f⟩ ∨ y = x := by
  unfold entS at h
  simp only at h
  rcases List.mem_append.1 h with h | h
  · split at h
    · rcases List.mem_append.1 h with h | h
      · exact .inl h
      · exact .inr (.inl (by simpa using h))
    · exact .inl h
  · split at h
    · exact .inr (.inr (by simpa using h))
    · cases h
theorem entFold_mem (s : ByteArray) (f : Int) : ∀ (l : List Kd) (p : List Kd × Bool) (y : Kd), y ∈ (l.foldl (entS s f) p).1 → y ∈ p.1 ∨ y = ⟨s, f⟩ ∨ y ∈ l
  | [], p, y, h => .inl h
  | x :: t, p, y, h => by
    rw [List.foldl_cons] at h
    rcases entFold_mem s f t _ y h with h | h | h
    · rcases entS_mem s f p x y h with h | h | h
      · exact .inl h
      · exact .inr (.inl h)
      · exact .inr (.inr (by rw [h]; exact List.mem_cons_self))
    · exact .inr (.inl h)
    · exact .inr (.inr (List.mem_cons_of_mem _ h))
theorem entL_mem {l : List Kd} {s : ByteArray} {f : Int} {y : Kd} (h : y ∈ entL l s f) : y = ⟨s, f⟩ ∨ y ∈ l := by
  have key : y ∈ (l.foldl (entS s f) ([], f == 0)).1 → y = ⟨s, f⟩ ∨ y ∈ l := fun h => by
    rcases entFold_mem s f l _ y h with h | h | h
    · cases h
    · exact .inl h
    · exact .inr h
  unfold entL at h
  split at h
  · exact key h
  · rcases List.mem_append.1 h with h | h
    · exact key h
    · exact .inl (by simpa using h)
theorem entFold_len (s : ByteArray) (f : Int) : ∀ (l : List Kd) (p : List Kd × Bool), (l.foldl (entS s f) p).1.length + (if (l.foldl (entS s f) p).2 then 0 else 1) ≤ p.1.length + l.length + (if p.2 then 0 else 1)
  | [], p => Nat.le_refl _
  | x :: t, p => by
    rw [List.foldl_cons]
    have ih := entFold_len s f t (entS s f p x)
    have : (entS s f p x).1.length + (if (entS s f p x).2 then 0 else 1) ≤ p.1.length + 1 + (if p.2 then 0 else 1) := by
      unfold entS
      cases p.2 <;> cases leS s x.nm <;> cases decide (x.nm ≠ s) <;> simp
    simp only [List.length_cons]
    omega
theorem entL_len (l : List Kd) (s : ByteArray) (f : Int) : (entL l s f).length ≤ l.length + 1 := by
  have := entFold_len s f l ([], f == 0)
  generalize hq : (f == 0) = q at this
  unfold entL
  rw [hq]
  generalize (l.foldl (entS s f) ([], q)) = r at *
  cases hr : r.2 <;> cases q <;> simp [hr] at this ⊢ <;> omega
end Go.Proofs.YtloojakcknnilaaGreat
namespace Go.Proofs.YtloojakcknnilaaGreat
open Go.RowKit Go.ChangeShapes Go.WideShapes Go.ChangeAt Go.Maps Go.Shelf
set_option linter.unusedVariables false
set_option linter.unusedSimpArgs false
set_option maxRecDepth 100000
/-- What a call of the document's tree answers: an error's number, nodes. -/
def ResT (w : World) (r : Int × List Nd) (e : Ending) (w' : World) : Prop := ∃ a' c' l', e = .returned (.tuple #[.slice a' l'.length c', .int .i64 r.1]) ∧ Tr w' a' l' ∧ l'.map Nd.er = r.2 ∧ Below w.heap.size w w'
theorem ResT.err {w w' : World} {r : Int × List Nd} {c : Int} (h : r = (c, [])) (hb : Below w.heap.size w w') : ResT w r (.returned (.tuple #[.slice none 0 0, .int .i64 c])) w' := ⟨none, 0, [], by rw [h]; rfl, Tr.nil _, by rw [h]; rfl, hb⟩
theorem ResT.ok {w w' : World} {r : Int × List Nd} {L : List Nd} {a : Option Addr} {c : Nat} (ht : Tr w' a L) (h : r = (0, L.map Nd.er)) (hb : Below w.heap.size w w') : ResT w r (.returned (.tuple #[.slice a L.length c, .int .i64 0])) w' := ⟨a, c, L, by rw [h], ht, by rw [h], hb⟩
/-- A text's bytes. -/
def txB (s : ByteArray) : List Int := s.data.toList.map fun b => (b.toNat : Int)
theorem txB_len (s : ByteArray) : (txB s).length = s.size := by unfold txB; simp
theorem txB_in (s : ByteArray) : InB (txB s) := fun i => by
  by_cases h : i < (txB s).length
  · rw [List.getD, List.getElem?_eq_getElem h]
    obtain ⟨b, _, e⟩ := List.mem_map.1 (List.getElem_mem h)
    have := b.toNat_lt
    simp only [Option.getD_some]
    rw [← e]
    omega
  · rw [List.getD, List.getElem?_eq_none (by omega)]
    simp
theorem row_text {W : World} {s : ByteArray} {cap g base : Nat} {fr : Nat × Nat} (h : W.heap[g]? = some (.cells (bytesRow s cap) 5 fr)) (hb : base ≤ g) : RowAt W base 5 (some ⟨g, 0, none⟩) ((txB s).map u8V) := by
  refine .inr ⟨g, _, fr, rfl, hb, h, fun i u hu => ?_⟩
  have hi : i < s.data.size := by
    have := (List.getElem?_eq_some_iff.1 hu).1
    simpa [txB] using this
  rw [bytesRow_at s cap i hi, ← hu]
  simp only [txB, List.map_map, List.getElem?_map, Array.getElem?_toList, Array.getElem?_eq_getElem hi, Option.map_some]
  rfl
theorem dirE_ok {o : Option Nd} (h : dirE o = 0) : o = some (dirN o) ∧ (dirN o).k = 2 := by
  cases o with
  | none => cases h
  | some x =>
    unfold dirE at h
    simp only at h
    split at h
    · rename_i q; simp [dirN, q]
    · cases h
/-- The node that is made. -/
def newN (o : Rec) : Nd := ⟨o.fid, if o.k = 2 then 2 else if o.k = 3 then 3 else 1, o.md, 1, none, 0, if o.k = 3 then txB o.dt else [], none, 0, []⟩
/-- Create, Mkdir, Symlink. -/
def createL (l : List Nd) (o : Rec) : Int × List Nd :=
  if dirE (getF l o.dir) ≠ 0 then (dirE (getF l o.dir), [])
  else if kidI (dirN (getF l o.dir)).ks o.nm ≠ 0 ∨ (getF l o.fid).isSome = true then (6, [])
  else if 40 ≤ l.length ∨ 12 ≤ (dirN (getF l o.dir)).ks.length then (4, [])
  else (0, setL (setL l ((dirN (getF l o.dir)).kids none 0 (entL (dirN (getF l o.dir)).ks o.nm o.fid))) (newN o))
end Go.Proofs.YtloojakcknnilaaGreat
namespace Go.Proofs.YtloojakcknnilaaGreat
open Go.RowKit Go.ChangeShapes Go.WideShapes Go.ChangeAt Go.Maps Go.Shelf
set_option linter.unusedVariables false
set_option linter.unusedSimpArgs false
set_option maxRecDepth 100000
/-- Hard. -/
def hardL (l : List Nd) (o : Rec) : Int × List Nd :=
  if (getF l o.fid).isSome = false then (5, [])
  else if ((getF l o.fid).getD Nd.no).k = 2 then (8, [])
  else if dirE (getF l o.dir) ≠ 0 then (dirE (getF l o.dir), [])
  else if kidI (dirN (getF l o.dir)).ks o.nm ≠ 0 then (6, [])
  else if 12 ≤ (dirN (getF l o.dir)).ks.length then (4, [])
  else (0, setL (setL l ((dirN (getF l o.dir)).kids none 0 (entL (dirN (getF l o.dir)).ks o.nm o.fid))) (((getF l o.fid).getD Nd.no).lnk (((getF l o.fid).getD Nd.no).ln + 1)))
end Go.Proofs.YtloojakcknnilaaGreat
namespace Go.Proofs.YtloojakcknnilaaGreat
open Go.RowKit Go.ChangeShapes Go.WideShapes Go.ChangeAt Go.Maps Go.Shelf
set_option linter.unusedVariables false
set_option linter.unusedSimpArgs false
set_option maxRecDepth 100000
/-- Unlink, Rmdir. -/
def removeL (l : List Nd) (o : Rec) : Int × List Nd :=
  if lookE (getF l o.dir) o.nm ≠ 0 then (lookE (getF l o.dir) o.nm, [])
  else if o.k = 5 ∧ ((getF l (lookI (getF l o.dir) o.nm)).getD Nd.no).k = 2 then (8, [])
  else if o.k = 6 ∧ ((getF l (lookI (getF l o.dir) o.nm)).getD Nd.no).k ≠ 2 then (7, [])
  else if o.k = 6 ∧ 0 < ((getF l (lookI (getF l o.dir) o.nm)).getD Nd.no).ks.length then (9, [])
  else (0, lessL (setL l (((getF l o.dir).getD Nd.no).kids none 0 (entL ((getF l o.dir).getD Nd.no).ks o.nm 0))) ((getF l (lookI (getF l o.dir) o.nm)).getD Nd.no))
theorem lookE_ok {o : Option Nd} {s : ByteArray} (h : lookE o s = 0) : o = some (o.getD Nd.no) ∧ (o.getD Nd.no).k = 2 ∧ lookI o s = kidI (o.getD Nd.no).ks s ∧ lookI o s ≠ 0 := by
  cases o with
  | none => cases h
  | some x =>
    unfold lookE at h
    simp only at h
    split at h
    · rename_i q
      split at h
      · cases h
      · rename_i q2
        refine ⟨rfl, q, ?_, ?_⟩
        · simp [lookI, q]
        · simpa [lookI, q] using q2
    · cases h
end Go.Proofs.YtloojakcknnilaaGreat
namespace Go.Proofs.YtloojakcknnilaaGreat
open Go.RowKit Go.ChangeShapes Go.WideShapes Go.ChangeAt Go.Maps Go.Shelf
set_option linter.unusedVariables false
set_option linter.unusedSimpArgs false
set_option maxRecDepth 100000
/-- What stands in the way is let go of. -/
def freeL (l : List Nd) (o : Option Nd) : List Nd := match o with
  | some x => lessL l x
  | none => l
/-- The tree behind a Rename that can be done. -/
def movedL (l : List Nd) (o : Rec) (f : Int) (d : List Nd) : List Nd :=
  setL (setL d (((getF d o.dir).getD Nd.no).kids none 0 (entL ((getF d o.dir).getD Nd.no).ks o.nm 0)))
    (((getF (setL d (((getF d o.dir).getD Nd.no).kids none 0 (entL ((getF d o.dir).getD Nd.no).ks o.nm 0))) o.to).getD Nd.no).kids none 0 (entL ((getF (setL d (((getF d o.dir).getD Nd.no).kids none 0 (entL ((getF d o.dir).getD Nd.no).ks o.nm 0))) o.to).getD Nd.no).ks o.nm2 f))
/-- Rename. -/
def renameL (l : List Nd) (o : Rec) : Int × List Nd :=
  if lookE (getF l o.dir) o.nm ≠ 0 then (lookE (getF l o.dir) o.nm, [])
  else if dirE (getF l o.to) ≠ 0 then (dirE (getF l o.to), [])
  else if ((getF l (lookI (getF l o.dir) o.nm)).getD Nd.no).k = 2 ∧ abN l (lookI (getF l o.dir) o.nm) (l.length + 1) o.to = true then (10, [])
  else if kidI (dirN (getF l o.to)).ks o.nm2 = lookI (getF l o.dir) o.nm then (0, l)
  else if ((getF l (kidI (dirN (getF l o.to)).ks o.nm2)).isSome && ((getF l (kidI (dirN (getF l o.to)).ks o.nm2)).getD Nd.no).k == 2 && ((getF l (lookI (getF l o.dir) o.nm)).getD Nd.no).k != 2) = true then (8, [])
  else if ((getF l (kidI (dirN (getF l o.to)).ks o.nm2)).isSome && ((getF l (kidI (dirN (getF l o.to)).ks o.nm2)).getD Nd.no).k != 2 && ((getF l (lookI (getF l o.dir) o.nm)).getD Nd.no).k == 2) = true then (7, [])
  else if ((getF l (kidI (dirN (getF l o.to)).ks o.nm2)).isSome && decide (0 < ((getF l (kidI (dirN (getF l o.to)).ks o.nm2)).getD Nd.no).ks.length)) = true then (9, [])
  else if (!(getF l (kidI (dirN (getF l o.to)).ks o.nm2)).isSome && o.to != o.dir && decide (12 ≤ (dirN (getF l o.to)).ks.length)) = true then (4, [])
  else (0, movedL l o (lookI (getF l o.dir) o.nm) (freeL l (getF l (kidI (dirN (getF l o.to)).ks o.nm2))))
theorem ndp_no (w : World) : NdP w Nd.no := ⟨no_ok w, ⟨fun _ => rfl, fun _ => rfl⟩, Nat.zero_le _, Nat.zero_le _⟩
theorem Tr.getd {w : World} {a : Option Addr} {l : List Nd} (h : Tr w a l) (f : Int) : NdP w ((getF l f).getD Nd.no) := by
  cases hg : getF l f with
  | none => exact ndp_no w
  | some x => exact h.get hg
end Go.Proofs.YtloojakcknnilaaGreat
