/-
  What ReadRecords, ReadNode answer: an error's number, records or a node; the program's and the document's alike. 'append(row, x...)' to a row that is empty.
-/
import Derived.Test.YtbgninmkglgfeaaRSn
import Derived.Test.YtbgninmkglgfeaaRR6
import Derived.Test.YtbgninmkglgfeaaRNr
namespace Go.Proofs.Ytbgninmkglgfeaa
open Go.RowKit Go.ChangeShapes Go.WideShapes Go.ChangeAt Go.Maps Go.Shelf
set_option linter.unusedVariables false
set_option linter.unusedSimpArgs false
set_option maxRecDepth 100000
def erO (b : Bool) : Int := bif b then 0 else 3
theorem recsAll_in {zs : List Int} {l : List Rec} (h : InB zs) (hp : recsAll zs = some l) : (∀ x ∈ l, x.Wf) ∧ l.length ≤ 24 := by
  unfold recsAll at hp
  split at hp
  · rename_i l' e
    cases hp
    unfold recsP at e
    rcases h0 : numP 1 zs with _ | ⟨m, u⟩
    · rw [h0] at e; cases e
    rw [h0] at e; simp only at e
    obtain ⟨b0, i1⟩ := numP_in h h0
    split at e
    · obtain ⟨q1, q2, q3⟩ := recsN_in _ i1 e
      exact ⟨q1, by omega⟩
    · cases e
  · cases hp
/-- Records and an error's number. -/
def AnsL (zs : List Int) (w : World) (e : Ending) (w' : World) : Prop :=
  ∃ p q, e = .returned (.tuple #[.slice p ((recsAll zs).getD []).length q, .int .i64 (erO (recsAll zs).isSome)]) ∧ IsL w' p ((recsAll zs).getD []) ∧ Below w.heap.size w w'
theorem readRecs_a (a : Option Addr) (n c : Nat) (zs : List Int) (w : World) (h : IsB w a n zs) (hc : n ≤ c) (hl : Lies w a c) :
    Calls Try.prog 9 #[.slice a n c] w (AnsL zs w) := by
  have hin : InB zs := h.2.2.2
  refine (readRecords_c a n c zs w h hc hl).mono ?_
  rintro e w' ⟨hb, hr⟩
  unfold AnsL
  rcases hq : recsAll zs with _ | l
  · rw [hq] at hr
    exact ⟨none, 0, hr, isL_nil _, hb⟩
  · rw [hq] at hr
    obtain ⟨v, rfl, ho⟩ := hr
    obtain ⟨p, q, rfl, hI, _⟩ := isL_own ho (recsAll_in hin hq).1
    exact ⟨p, q, rfl, hI, hb⟩
theorem rReadRecs_a (a : Option Addr) (n c : Nat) (zs : List Int) (w : World) (h : IsB w a n zs) (hc : n ≤ c) (hl : Lies2 w a n c) :
    Calls Try.prog 10 #[.slice a n c] w (AnsL zs w) := by
  have hin : InB zs := h.2.2.2
  refine (rReadRecs_c a n c zs w h hc hl).mono ?_
  rintro e w' ⟨hb, hr⟩
  unfold AnsL
  rcases hq : recsAll zs with _ | l
  · rw [hq] at hr
    exact ⟨none, 0, hr, isL_nil _, hb⟩
  · rw [hq] at hr
    obtain ⟨v, rfl, ho⟩ := hr
    obtain ⟨p, q, rfl, hI, _⟩ := isL_own ho (recsAll_in hin hq).1
    exact ⟨p, q, rfl, hI, hb⟩
/-- A node and an error's number. -/
def AnsN (zs : List Int) (w : World) (e : Ending) (w' : World) : Prop :=
  ∃ da dc ka kc, e = .returned (.tuple #[(((nodeAll zs).getD Nd.no).lie da dc ka kc).val, .int .i64 (erO (nodeAll zs).isSome)]) ∧ (((nodeAll zs).getD Nd.no).lie da dc ka kc).Ok w' ∧ ((nodeAll zs).getD Nd.no).ks.length ≤ 255 ∧ Below w.heap.size w w'
theorem ok_no (w : World) : (Nd.no.lie none 0 none 0).Ok w :=
  ⟨⟨Int.le_refl _, by decide⟩, ⟨Int.le_refl _, by decide⟩, ⟨Int.le_refl _, by decide⟩, ⟨Int.le_refl _, by decide⟩, ⟨rfl, Nat.zero_le _, (fun h => absurd h (by decide)), fun i => by simp [Nd.lie, Nd.no]⟩, ⟨Nat.zero_le _, (fun x hx => by cases hx), (fun h => absurd h (by decide))⟩⟩
theorem readNode_a (a : Option Addr) (n c : Nat) (zs : List Int) (w : World) (h : IsB w a n zs) (hc : n ≤ c) (hl : Lies w a c) :
    Calls Try.prog 11 #[.slice a n c] w (AnsN zs w) := by
  refine (readNode_c a n c zs w h hc hl).mono ?_
  rintro e w' ⟨hb, hr⟩
  unfold AnsN
  rcases hq : nodeAll zs with _ | x
  · rw [hq] at hr
    exact ⟨none, 0, none, 0, hr, ok_no _, Nat.zero_le _, hb⟩
  · rw [hq] at hr
    obtain ⟨da, dc, ka, kc, rfl, ho⟩ := hr
    exact ⟨da, dc, ka, kc, rfl, ho.ok, ho.1.2.2.2.2.2.2.2, hb⟩
theorem rReadNode_a (a : Option Addr) (n c : Nat) (zs : List Int) (w : World) (h : IsB w a n zs) (hc : n ≤ c) (hl : Lies2 w a n c) :
    Calls Try.prog 12 #[.slice a n c] w (AnsN zs w) := by
  refine (rReadNode_c a n c zs w h hc hl).mono ?_
  rintro e w' ⟨hb, hr⟩
  unfold AnsN
  rcases hq : nodeAll zs with _ | x
  · rw [hq] at hr
    exact ⟨none, 0, none, 0, hr, ok_no _, Nat.zero_le _, hb⟩
  · rw [hq] at hr
    obtain ⟨da, dc, ka, kc, rfl, ho⟩ := hr
    exact ⟨da, dc, ka, kc, rfl, ho.ok, ho.1.2.2.2.2.2.2.2, hb⟩
/-- 'append(row, x...)' of bytes that may be none to a row of the call's own that is empty. -/
theorem wpList_appO (w : World) {ops : Array Oper} {rest : List Oper} {o : Oper} {a : Act} {Q : Exit → Act → World → Prop} (hgd : o.guard = none) (s x : Operand)
    (ho : o.op = .call { callee := .builtin .append, args := #[s, x], argTypes := #[22, 22] }) (base : Nat) (v : Value) (hs : a.eval s = v) (hown : w.ownsRow base 5 1 v 0 [])
    (pa : Option Addr) (m c : Nat) (zs : List Int) (hx : a.eval x = .slice pa m c) (hb : IsB w pa m zs) (hc : pa = none → c = 0) (h63 : m ≤ 1000000) (hbase : base ≤ w.heap.size)
    (h : ∀ v' w', OwB w' base v' zs → Below base w w' → wpList Try.prog ops Q rest (a.put o.dst v') w') : wpList Try.prog ops Q (o :: rest) a w := by
  obtain ⟨i0, hi, hz0, hz1, hz2⟩ := info_parts8
  have hg : ∀ w', w.grownBy w' v.ownBlock → Below base w w' := fun w' g => below_grownR (Below.refl base w) hown (Nat.le_refl _) hbase g
  have hl := hb.1
  cases pa with
  | none =>
    have hm : m = 0 := by
      rcases Nat.eq_zero_or_pos m with h0 | h0
      · exact h0
      · obtain ⟨b, off, e, _⟩ := hb.2.2.1 h0; cases e
    subst hm
    have hz : zs = [] := List.eq_nil_of_length_eq_zero hb.1
    subst hz
    have hc0 := hc rfl
    subst hc0
    refine wpList_append_own_none hgd s x 22 ho base 5 i0 1 Try.underlying22 hi _ 0 [] hs hown hx ?_
    exact h _ w hown (Below.refl _ _)
  | some ad =>
    by_cases hm : m = 0
    · subst hm
      have hz : zs = [] := List.eq_nil_of_length_eq_zero hb.1
      subst hz
      refine wpList_append_own w hgd s x 22 ho base 5 i0 (.int .u8 0) 1 1 Try.underlying22 hi hz0 hz1 hz2 rfl (by decide) _ 0 [] hs hown ad 0 c [] hx rfl (fun j u hu => by simp at hu) (fun u hu => by cases hu) (by unfold maxLen; omega) (by omega) hbase ?_
      intro v' w' h1 h2 h3
      exact h v' w' (by unfold OwB; simpa using h1) (hg _ h2)
    · obtain ⟨b, off, e, _⟩ := hb.2.2.1 (by omega)
      cases e
      refine wpList_append_own w hgd s x 22 ho base 5 i0 (.int .u8 0) 1 1 Try.underlying22 hi hz0 hz1 hz2 rfl (by decide) _ 0 [] hs hown ⟨b, off, none⟩ m c (zs.map u8V) hx (by simp [hl]) (isB_newsF hb) (u8V_one zs) (by unfold maxLen; omega) (by omega) hbase ?_
      intro v' w' h1 h2 h3
      refine h v' w' ?_ (hg _ h2)
      unfold OwB
      rw [hl]
      simpa using h1
end Go.Proofs.Ytbgninmkglgfeaa
