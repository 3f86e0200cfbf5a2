/-
  The document's tree: copied: nodes whose lists are their own.
  The document's tree: trees in memory; set and less on them; where nodes lie does not matter.
-/
import Derived.Test.YtkokjkaclcjnjaaDoorTrAq
namespace Go.Proofs.YtkokjkaclcjnjaaDoor
open Go.RowKit Go.ChangeShapes Go.WideShapes Go.ChangeAt Go.Maps Go.Shelf
set_option linter.unusedVariables false
set_option linter.unusedSimpArgs false
set_option maxRecDepth 100000
def Nd.Nil (x : Nd) : Prop := (x.da = none → x.dc = 0) ∧ (x.ka = none → x.kc = 0)
def Nd.Fit (x : Nd) : Prop := (0 ≤ x.fid ∧ x.fid < 4294967296) ∧ (0 ≤ x.k ∧ x.k < 256) ∧ (0 ≤ x.md ∧ x.md < 65536) ∧ (0 ≤ x.ln ∧ x.ln < 65536) ∧ InB x.zs ∧ (∀ q ∈ x.ks, q.Wf) ∧ x.zs.length ≤ 1000 ∧ x.ks.length ≤ 1000
def NdR (w : World) (base : Nat) (x : Nd) : Prop := x.Fit ∧ x.Nil ∧ RowAt w base 5 x.da (x.zs.map u8V) ∧ RowAt w base 71 x.ka (kcells x.ks)
theorem NdR.later {w w' : World} {base : Nat} {x : Nd} (h : NdR w base x) (hb : Below w.heap.size w w') : NdR w' base x := ⟨h.1, h.2.1, h.2.2.1.later hb, h.2.2.2.later hb⟩
theorem RowAt.lowR {w : World} {base b : Nat} {t : TypeId} {p : Option Addr} {vs : List Value} (h : RowAt w base t p vs) (hb : b ≤ base) : RowAt w b t p vs := by
 rcases h with h | ⟨g, cs, fr, h1, h2, h3, h4⟩
 · exact .inl h
 · exact .inr ⟨g, cs, fr, h1, by omega, h3, h4⟩
theorem NdR.low {w : World} {base b : Nat} {x : Nd} (h : NdR w base x) (hb : b ≤ base) : NdR w b x := ⟨h.1, h.2.1, h.2.2.1.lowR hb, h.2.2.2.lowR hb⟩
theorem NdR.ok {w : World} {base : Nat} {x : Nd} (h : NdR w base x) : x.Ok w := by
 obtain ⟨⟨h1, h2, h3, h4, h5, h6, h7, h8⟩, _, hd, hk⟩ := h
 refine ⟨h1, h2, h3, h4, ⟨rfl, by unfold maxLen; omega, fun hp => ?_, h5⟩, ⟨by unfold maxLen; omega, h6, fun hp => ?_⟩⟩
 · rcases hd with hd | ⟨g, cs, fr, e1, e2, e3, e4⟩
   · have := congrArg List.length hd
     simp at this
     rw [this] at hp
     exact absurd hp (by simp)
   · refine ⟨g, 0, e1, fun i hi => ?_⟩
     rw [cell_of_row w g _ _ _ fr e3]
     refine e4 (0 + i) _ ?_
     simp [List.getElem?_map, List.getD, hi, u8V]
 · rcases hk with hk | ⟨g, cs, fr, e1, e2, e3, e4⟩
   · have := congrArg List.length hk
     rw [kcells_len] at this
     simp only [List.length_nil] at this
     omega
   · refine ⟨g, 0, e1, fun i hi => ?_⟩
     have key : ∀ j, j < 2 → ∀ u, (x.ks.getD i Kd.no).cells[j]? = some u → w.cell? ⟨g, 0 + i * 2 + j, none⟩ = some u := fun j hj u hu => by
       rw [cell_of_row w g _ _ _ fr e3]
       refine e4 (0 + i * 2 + j) _ ?_
       rw [Nat.zero_add, kcells_get x.ks i j hi hj]
       exact hu
     exact ⟨key 0 (by omega) _ rfl, key 1 (by omega) _ rfl⟩
theorem NdR.grown {w w' : World} {base b : Nat} {x : Nd} {v : Value} {L : List Nd} (h : NdR w base x) (hown : OwN w b v L) (hg : w.grownBy w' v.ownBlock) : NdR w' base x :=
 ⟨h.1, h.2.1, h.2.2.1.grown hown (by decide) hg, h.2.2.2.grown hown (by decide) hg⟩
theorem own_empty_at {w : World} {e : TypeId} {size g base : Nat} (h : w.heap[g]? = some (.cells #[] e (0, 0))) (hb : base ≤ g) : w.ownsRow base e size (.slice (some ⟨g, 0, none⟩) 0 0) 0 [] :=
 ⟨by simp, .inr ⟨g, 0, #[], rfl, hb, h, Nat.le_refl _, Nat.zero_le _, by simp, by simp⟩⟩
theorem wpList_cpB (w : World) {ops : Array Oper} {rest : List Oper} {o : Oper} {a : Act} {Q : Exit → Act → World → Prop} (hgd : o.guard = none) (s x : Operand)
   (ho : o.op = .call { callee := .builtin .append, args := #[s, x], argTypes := #[32, 32] }) (g : Nat) (hs : a.eval s = .slice (some ⟨g, 0, none⟩) 0 0) (hg0 : w.heap[g]? = some (.cells #[] 5 (0, 0)))
   (pa : Option Addr) (m c : Nat) (zs : List Int) (hx : a.eval x = .slice pa m c) (hb : IsB w pa m zs) (hc : pa = none → c = 0) (h63 : m ≤ 1000000)
   (h : ∀ v' w', OwB w' g v' zs → w.grownBy w' (some g) → wpList Tryd.prog ops Q rest (a.put o.dst v') w') : wpList Tryd.prog ops Q (o :: rest) a w := by
 obtain ⟨i0, hi, hz0, hz1, hz2⟩ := info_parts8
 have hown : w.ownsRow g 5 1 (.slice (some ⟨g, 0, none⟩) 0 0) 0 [] := own_empty_at hg0 (Nat.le_refl _)
 have hl := hb.1
 have hgs := lt_blkR hg0
 cases pa with
 | none =>
   have hm : m = 0 := by
     rcases Nat.eq_zero_or_pos m with h0 | h0
     · exact h0
     · obtain ⟨b, off, e, _⟩ := hb.2.2.1 h0; cases e
   subst hm
   have hz : zs = [] := List.eq_nil_of_length_eq_zero hb.1
   subst hz
   have hc0 := hc rfl
   subst hc0
   refine wpList_append_own_none hgd s x 32 ho g 5 i0 1 Tryd.underlying32 hi _ 0 [] hs hown hx ?_
   exact h _ w hown (World.grownBy.refl w _)
 | some ad =>
   by_cases hm : m = 0
   · subst hm
     have hz : zs = [] := List.eq_nil_of_length_eq_zero hb.1
     subst hz
     refine wpList_append_own w hgd s x 32 ho g 5 i0 (.int .u8 0) 1 1 Tryd.underlying32 hi hz0 hz1 hz2 rfl (by decide) _ 0 [] hs hown ad 0 c [] hx rfl (fun j u hu => by simp at hu) (fun u hu => by cases hu) (by unfold maxLen; omega) (by omega) (by omega) ?_
     intro v' w' h1 h2 h3
     exact h v' w' (by unfold OwB; simpa using h1) h2
   · obtain ⟨b, off, e, _⟩ := hb.2.2.1 (by omega)
     cases e
     refine wpList_append_own w hgd s x 32 ho g 5 i0 (.int .u8 0) 1 1 Tryd.underlying32 hi hz0 hz1 hz2 rfl (by decide) _ 0 [] hs hown ⟨b, off, none⟩ m c (zs.map u8V) hx (by simp [hl]) (isB_newsF hb) (u8V_one zs) (by unfold maxLen; omega) (by omega) (by omega) ?_
     intro v' w' h1 h2 h3
     refine h v' w' ?_ h2
     unfold OwB
     rw [hl]
     simpa using h1
theorem ks_news {w : World} {b off : Nat} {l : List Kd} (h : IsKs w (some ⟨b, off, none⟩) l) : ∀ j u, (kcells l)[j]? = some u → w.cell? ((⟨b, off, none⟩ : Addr).add j) = some u := fun j u hu => by
 have hj : j < l.length * 2 := by rw [← kcells_len]; exact (List.getElem?_eq_some_iff.1 hu).1
 have e : (⟨b, off, none⟩ : Addr).add j = ⟨b, off + j, none⟩ := by unfold Addr.add; split <;> simp_all
 have hd : j / 2 * 2 + j % 2 = j := by omega
 have hi : j / 2 < l.length := by omega
 obtain ⟨k0, k1⟩ := h.at hi
 rw [e]
 rw [← hd, kcells_get l (j / 2) (j % 2) hi (by omega)] at hu
 have hm : j % 2 = 0 ∨ j % 2 = 1 := by omega
 rcases hm with hm | hm
 · rw [hm] at hu hd
   have : u = .string (l.getD (j / 2) Kd.no).nm := by simpa [Kd.cells] using hu.symm
   rw [this, ← k0]
   congr 2
   omega
 · rw [hm] at hu hd
   have : u = .int .u32 (l.getD (j / 2) Kd.no).fid := by simpa [Kd.cells] using hu.symm
   rw [this, ← k1]
   congr 2
   omega
theorem kcells_one (l : List Kd) : ∀ u ∈ kcells l, u.oneCell' = true := fun u hu => by
 unfold kcells at hu
 rw [List.mem_flatMap] at hu
 obtain ⟨x, _, hx⟩ := hu
 exact kid_one x u hx
theorem wpList_cpK (w : World) {ops : Array Oper} {rest : List Oper} {o : Oper} {a : Act} {Q : Exit → Act → World → Prop} (hgd : o.guard = none) (s x : Operand)
   (ho : o.op = .call { callee := .builtin .append, args := #[s, x], argTypes := #[33, 33] }) (g : Nat) (hs : a.eval s = .slice (some ⟨g, 0, none⟩) 0 0) (hg0 : w.heap[g]? = some (.cells #[] 71 (0, 0)))
   (pa : Option Addr) (m c : Nat) (l : List Kd) (hx : a.eval x = .slice pa m c) (hb : IsKs w pa l) (hl : m = l.length) (hc : pa = none → c = 0) (h63 : m ≤ 100000)
   (h : ∀ v' w', OwK w' g v' l → w.grownBy w' (some g) → wpList Tryd.prog ops Q rest (a.put o.dst v') w') : wpList Tryd.prog ops Q (o :: rest) a w := by
 obtain ⟨i0, hi, hz0, hz1, hz2⟩ := info_kid
 have hown : w.ownsRow g 71 2 (.slice (some ⟨g, 0, none⟩) 0 0) 0 [] := own_empty_at hg0 (Nat.le_refl _)
 have hgs := lt_blkR hg0
 cases pa with
 | none =>
   have hm : l = [] := by
     cases l with
     | nil => rfl
     | cons y ys => obtain ⟨b, off, e, _⟩ := hb.2.2 (by simp); cases e
   subst hm
   simp only [List.length_nil] at hl
   subst hl
   have hc0 := hc rfl
   subst hc0
   refine wpList_append_own_none hgd s x 33 ho g 71 i0 2 Tryd.underlying33 hi _ 0 [] hs hown hx ?_
   exact h _ w hown (World.grownBy.refl w _)
 | some ad =>
   by_cases hm : l.length = 0
   · have hz : l = [] := List.eq_nil_of_length_eq_zero hm
     subst hz
     subst hl
     refine wpList_append_own w hgd s x 33 ho g 71 i0 Kd.no.val 2 24 Tryd.underlying33 hi hz0 hz1 hz2 (by rfl) (by decide) _ 0 [] hs hown ad 0 c [] hx rfl (fun j u hu => by simp at hu) (fun u hu => by cases hu) (by unfold maxLen; omega) (by omega) (by omega) ?_
     intro v' w' h1 h2 h3
     exact h v' w' (by unfold OwK; exact h1) h2
   · obtain ⟨b, off, e, _⟩ := hb.2.2 (by omega)
     cases e
     subst hl
     refine wpList_append_own w hgd s x 33 ho g 71 i0 Kd.no.val 2 24 Tryd.underlying33 hi hz0 hz1 hz2 (by rfl) (by decide) _ 0 [] hs hown ⟨b, off, none⟩ l.length c (kcells l) hx (by rw [kcells_len]) (ks_news hb) (kcells_one l) (by unfold maxLen; omega) (by omega) (by omega) ?_
     intro v' w' h1 h2 h3
     refine h v' w' ?_ h2
     unfold OwK
     simpa using h1
theorem OwB.shapeR {w : World} {base : Nat} {v : Value} {zs : List Int} (h : OwB w base v zs) : ∃ a cap, v = .slice a zs.length cap ∧ (a = none → cap = 0) ∧ RowAt w base 5 a (zs.map u8V) := by
 have hz : zs.length = 0 → zs.map u8V = [] := fun e => by rw [List.eq_nil_of_length_eq_zero e]; rfl
 rcases h.2 with ⟨hv, hn⟩ | ⟨g, cap, cur, hv, hrest⟩
 · exact ⟨none, 0, by rw [hv, hn], fun _ => rfl, .inl (hz hn)⟩
 · exact ⟨_, _, hv, (fun e => by cases e), RowAt.own h hv hz⟩
theorem OwK.shapeR {w : World} {base : Nat} {v : Value} {l : List Kd} (h : OwK w base v l) : ∃ a cap, v = .slice a l.length cap ∧ (a = none → cap = 0) ∧ RowAt w base 71 a (kcells l) := by
 have hz : l.length = 0 → kcells l = [] := fun e => by rw [List.eq_nil_of_length_eq_zero e]; rfl
 rcases h.2 with ⟨hv, hn⟩ | ⟨g, cap, cur, hv, hrest⟩
 · exact ⟨none, 0, by rw [hv, hn], fun _ => rfl, .inl (hz hn)⟩
 · exact ⟨_, _, hv, (fun e => by cases e), RowAt.own h hv hz⟩
theorem RowAt.setR {w : World} {base : Nat} {t : TypeId} {p : Option Addr} {vs : List Value} {q : Addr} {cs : Array Value} {e : TypeId} {fr : Nat × Nat} (h : RowAt w base t p vs) (hq : w.heap[q.block]? = some (.cells cs e fr)) (hne : t ≠ e) (u : Value) : RowAt (w.setCell q u) base t p vs := by
 rcases h with h | ⟨g, cs', fr', h1, h2, h3, h4⟩
 · exact .inl h
 · refine .inr ⟨g, cs', fr', h1, h2, ?_, h4⟩
   have : g ≠ q.block := fun e1 => by
     subst e1
     rw [hq] at h3
     cases h3
     exact hne rfl
   rw [Below.heap_setCell _ _ _ _ this]
   exact h3
def NdP (w : World) (x : Nd) : Prop := x.Ok w ∧ x.Nil ∧ x.zs.length ≤ 1000 ∧ x.ks.length ≤ 1000
theorem NdP.later {w w' : World} {x : Nd} (h : NdP w x) (hb : Below w.heap.size w w') : NdP w' x := ⟨h.1.later hb, h.2⟩
def Tr (w : World) (a : Option Addr) (l : List Nd) : Prop := IsNs w a l ∧ ∀ x ∈ l, x.Nil ∧ x.zs.length ≤ 1000 ∧ x.ks.length ≤ 1000
theorem Tr.later {w w' : World} {a : Option Addr} {l : List Nd} (h : Tr w a l) (hb : Below w.heap.size w w') : Tr w' a l := ⟨h.1.later hb, h.2⟩
theorem Tr.nil (w : World) : Tr w none [] := ⟨⟨Nat.zero_le _, (fun x hx => by cases hx), fun hp => absurd hp (by simp)⟩, fun x hx => by cases hx⟩
theorem Tr.nd {w : World} {a : Option Addr} {l : List Nd} (h : Tr w a l) {x : Nd} (hx : x ∈ l) : NdP w x := ⟨h.1.2.1 x hx, h.2 x hx⟩
theorem Tr.of {w : World} {base : Nat} {v : Value} {L : List Nd} (h : OwN w base v L) (hk : ∀ x ∈ L, NdP w x) (hm : L.length ≤ 100000) : ∃ a cap, v = .slice a L.length cap ∧ Tr w a L := by
 obtain ⟨a, cap, e, hI⟩ := h.is (fun x hx => (hk x hx).1) hm
 exact ⟨a, cap, e, hI, fun x hx => (hk x hx).2⟩
theorem NdR.p {w : World} {base : Nat} {x : Nd} (h : NdR w base x) : NdP w x := ⟨h.ok, h.2.1, h.1.2.2.2.2.2.2.1, h.1.2.2.2.2.2.2.2⟩
def Nd.lnk (x : Nd) (n : Int) : Nd := ⟨x.fid, x.k, x.md, n, x.da, x.dc, x.zs, x.ka, x.kc, x.ks⟩
end Go.Proofs.YtkokjkaclcjnjaaDoor
