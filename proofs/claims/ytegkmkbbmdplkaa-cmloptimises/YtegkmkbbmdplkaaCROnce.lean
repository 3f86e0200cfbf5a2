/-
  The document's log without its first PAIR: once; and its Optimise.
-/
import Derived.Test.YtegkmkbbmdplkaaCRPair
namespace Go.Proofs.Ytegkmkbbmdplkaa
open Go.RowKit Go.ChangeShapes Go.WideShapes Go.ChangeAt Go.Maps Go.Shelf
set_option linter.unusedVariables false
set_option linter.unusedSimpArgs false
def g0 : Nat → Bool := fun _ => false
theorem wayIn_false (l : List Rec) (m : Rec) : ∀ f k, (∀ t, k ≤ t → t < k + f → wayF (l.getD t Rec.no) m = false) → wayIn l m f k = false
  | 0, k, _ => rfl
  | f + 1, k, h => by
    unfold wayIn
    rw [h k (Nat.le_refl _) (by omega), wayIn_false l m f (k + 1) (fun t h1 h2 => h t (by omega) (by omega))]; rfl
theorem wayIn_true (l : List Rec) (m : Rec) : ∀ f k t, k ≤ t → t < k + f → wayF (l.getD t Rec.no) m = true → wayIn l m f k = true
  | 0, k, t, h1, h2, _ => by omega
  | f + 1, k, t, h1, h2, h => by
    unfold wayIn
    by_cases q : t = k
    · subst q; rw [h]; rfl
    · rw [wayIn_true l m f (k + 1) t (by omega) (by omega) h, Bool.or_true]
theorem scan_hit {l : List Rec} {g : Nat → Bool} {m : Rec} : ∀ (d j : Nat), l.length - j = d →
    ((scanG l g m j).2 = true → unmakesF (l.getD (scanG l g m j).1 Rec.no) m = true) ∧
    ((scanG l g m j).2 = false → (scanG l g m j).1 < l.length → unmakesF (l.getD (scanG l g m j).1 Rec.no) m = false ∧ wayF (l.getD (scanG l g m j).1 Rec.no) m = true)
  | 0, j, hd => by
    rw [scanG_ge (by omega)]
    exact ⟨fun h => absurd h (by simp), fun _ h => absurd h (by simp only; omega)⟩
  | d + 1, j, hd => by
    have ih := scan_hit (l := l) (g := g) (m := m) d (j + 1) (by omega)
    rw [scanG_lt (by omega)]
    split
    · exact ih
    · split
      · rename_i hu
        exact ⟨fun _ => hu, fun h => absurd h (by simp)⟩
      · rename_i hu
        split
        · rename_i hv
          exact ⟨fun h => absurd h (by simp), fun _ _ => ⟨by simpa using hu, hv⟩⟩
        · exact ih
theorem scan_pair {l : List Rec} {i : Nat} (hm : makesF (l.getD i Rec.no).k = true) :
    ((scanG l g0 (l.getD i Rec.no) (i + 1)).2 = true → rpairF l i (scanG l g0 (l.getD i Rec.no) (i + 1)).1 = true ∧ ∀ j, i < j → j < (scanG l g0 (l.getD i Rec.no) (i + 1)).1 → rpairF l i j = false) ∧
    ((scanG l g0 (l.getD i Rec.no) (i + 1)).2 = false → ∀ j, i < j → j < l.length → rpairF l i j = false) := by
  have hp := scan_pass (l := l) (g := g0) (m := l.getD i Rec.no) _ (i + 1) rfl
  have hh := scan_hit (l := l) (g := g0) (m := l.getD i Rec.no) _ (i + 1) rfl
  have hb := scanG_bd (l := l) (g := g0) (m := l.getD i Rec.no) (j := i + 1)
  generalize scanG l g0 (l.getD i Rec.no) (i + 1) = sc at *
  obtain ⟨s, f⟩ := sc
  simp only at hp hh hb ⊢
  have hno : ∀ j, i < j → j < s → j < l.length → rpairF l i j = false := fun j h1 h2 h3 => by
    unfold rpairF
    rw [(hp j (by omega) h2 h3 rfl).1]; simp
  refine ⟨fun e => ?_, fun e j h1 h2 => ?_⟩
  · have hs := hb.2 e
    refine ⟨?_, fun j h1 h2 => hno j h1 h2 (by omega)⟩
    unfold rpairF
    rw [hm, hh.1 e, wayIn_false _ _ _ _ (fun t h1 h2 => (hp t h1 (by omega) (by omega) rfl).2)]; rfl
  · by_cases q : j < s
    · exact hno j h1 q h2
    · obtain ⟨hu, hv⟩ := hh.2 e (by omega)
      unfold rpairF
      by_cases q2 : j = s
      · subst q2; rw [hu]; simp
      · rw [wayIn_true _ _ _ _ s (by omega) (by omega) hv]; simp
def noP (l : List Rec) (i : Nat) : Prop := ∀ j, i < j → j < l.length → rpairF l i j = false
theorem noP_end {l : List Rec} {i : Nat} (h : noP l i) : (if makesF (l.getD i Rec.no).k then endL (l.getD i Rec.no) (kG l g0 (i + 1)) else none) = none := by
  cases hm : makesF (l.getD i Rec.no).k with
  | false => rfl
  | true =>
    simp only [if_true]
    refine (scan_end (l := l) (g := g0) (m := l.getD i Rec.no) _ (i + 1) rfl).1 ?_
    cases e : (scanG l g0 (l.getD i Rec.no) (i + 1)).2 with
    | false => rfl
    | true =>
      have hb := scanG_bd (l := l) (g := g0) (m := l.getD i Rec.no) (j := i + 1)
      have := ((scan_pair hm).1 e).1
      rw [h _ (by have := hb.1; omega) (hb.2 e)] at this
      cases this
theorem once_no {l : List Rec} : ∀ (d s : Nat), l.length - s = d → (∀ i, s ≤ i → i < l.length → noP l i) → onceL (kG l g0 s) = none
  | 0, s, hd, _ => by rw [kG_ge (by omega)]; rfl
  | d + 1, s, hd, h => by
    have ih := once_no (l := l) d (s + 1) (by omega) (fun i h1 h2 => h i (by omega) h2)
    have he := noP_end (h s (Nat.le_refl _) (by omega))
    rw [kG_lt (i := s) (by omega)]
    simp only [g0, Bool.false_eq_true, if_false, onceL]
    change (match (if makesF (l.getD s Rec.no).k then endL (l.getD s Rec.no) (kG l g0 (s + 1)) else none) with | some r => some r | none => Option.map (fun r => l.getD s Rec.no :: r) (onceL (kG l g0 (s + 1)))) = none
    rw [he, ih]; rfl
theorem once_at {l : List Rec} {i j : Nat} (hij : i < j) (hj : j < l.length) (hp : rpairF l i j = true) (hf : ∀ j', i < j' → j' < j → rpairF l i j' = false) : ∀ (d s : Nat), i - s = d → s ≤ i → (∀ i', s ≤ i' → i' < i → noP l i') → onceL (kG l g0 s) = some (kG l (outF l g0 i j j (l.getD i Rec.no).fid) s)
  | 0, s, hd, hs, _ => by
    obtain rfl : s = i := by omega
    have hm : makesF (l.getD s Rec.no).k = true := by
      unfold rpairF at hp
      simp only [Bool.and_eq_true] at hp
      exact hp.1.1
    have hb := scanG_bd (l := l) (g := g0) (m := l.getD s Rec.no) (j := s + 1)
    have hsc : scanG l g0 (l.getD s Rec.no) (s + 1) = (j, true) := by
      have h1 := scan_pair (l := l) hm
      generalize scanG l g0 (l.getD s Rec.no) (s + 1) = sc at *
      obtain ⟨t, f⟩ := sc
      simp only at h1 hb
      cases f with
      | false => rw [h1.2 rfl j hij hj] at hp; cases hp
      | true =>
        obtain ⟨h2, h3⟩ := h1.1 rfl
        by_cases q1 : t < j
        · rw [hf t (by omega) q1] at h2; cases h2
        · by_cases q2 : j < t
          · rw [h3 j hij q2] at hp; cases hp
          · rw [show t = j by omega]
    have he := (scan_end (l := l) (g := g0) (m := l.getD s Rec.no) _ (s + 1) rfl).2 (by rw [hsc]) (outF l g0 s j j (l.getD s Rec.no).fid) (fun k hk hk2 => by
      rw [hsc]
      have h1 : (k == s) = false := by simp; omega
      have h2 : decide (s < k) = true := by simp; omega
      unfold outF
      simp only [h1, h2, Bool.or_false, Bool.true_and])
    have ho : outF l g0 s j j (l.getD s Rec.no).fid s = true := by unfold outF; simp
    rw [kG_lt (i := s) (by omega), kG_lt (g := outF l g0 s j j (l.getD s Rec.no).fid) (i := s) (by omega), ho, if_pos rfl]
    have e0 : g0 s = false := rfl
    rw [e0]
    simp only [Bool.false_eq_true, if_false, onceL, hm, if_true, he]
  | d + 1, s, hd, hs, h => by
    have ih := once_at hij hj hp hf d (s + 1) (by omega) (by omega) (fun i' h1 h2 => h i' (by omega) h2)
    have he := noP_end (h s (Nat.le_refl _) (by omega))
    have ho : outF l g0 i j j (l.getD i Rec.no).fid s = false := by
      unfold outF g0
      have h1 : (s == i) = false := by simp; omega
      have h2 : decide (i < s) = false := by simp; omega
      have h4 : (s == j) = false := by simp; omega
      simp [h1, h2, h4]
    have e0 : g0 s = false := rfl
    rw [kG_lt (i := s) (by omega), kG_lt (g := outF l g0 i j j (l.getD i Rec.no).fid) (i := s) (by omega), ho, e0]
    simp only [Bool.false_eq_true, if_false, onceL]
    rw [he, ih]; rfl
theorem once_nil {l : List Rec} (h : ∀ i, i < l.length → noP l i) : onceL l = none := by
  have := once_no (l := l) _ 0 rfl (fun i _ hi => h i hi)
  unfold g0 at this
  rw [kG_none l _ 0 rfl] at this
  simpa using this
theorem once_got {l : List Rec} {i j : Nat} (hij : i < j) (hj : j < l.length) (hp : rpairF l i j = true) (hf : ∀ j', i < j' → j' < j → rpairF l i j' = false) (h : ∀ i', i' < i → noP l i') : onceL l = some (keepF (outF l g0 i j j (l.getD i Rec.no).fid) l l.length) := by
  have := once_at hij hj hp hf _ 0 rfl (by omega) (fun i' _ hi => h i' hi)
  rw [keep_all]
  rw [show kG l g0 0 = l from by unfold g0; rw [kG_none l _ 0 rfl]; rfl] at this
  exact this
theorem qneqN {o : Oper} {a : Act} {C : World → Prop} {w : World} (x y : Operand) (t : TypeId) (m n : Int) (hop : o.op = .binOp .neq 3 x y t) (hx : a.eval x = .int .i64 m) (hy : a.eval y = .int .i64 n) (b : Bool) (hb : (m != n) = b) (hC : C w) : o.quietAt Try.prog a C w (.bool b) := by
  unfold Oper.quietAt
  simp only [execOp, hop, hx, hy]
  rw [← hb]
  simp [go_sem, Result.andThen, hC, eqGuard]
theorem qlssN {o : Oper} {a : Act} {C : World → Prop} {w : World} (x y : Operand) (t : TypeId) (m n : Int) (hop : o.op = .binOp .lss 3 x y t) (hx : a.eval x = .int .i64 m) (hy : a.eval y = .int .i64 n) (b : Bool) (hb : decide (m < n) = b) (hC : C w) : o.quietAt Try.prog a C w (.bool b) := by
  unfold Oper.quietAt
  simp only [execOp, hop, hx, hy]
  rw [← hb]
  simp [go_sem, Result.andThen, hC, eqGuard]
theorem qgtrN {o : Oper} {a : Act} {C : World → Prop} {w : World} (x y : Operand) (t : TypeId) (m n : Int) (hop : o.op = .binOp .gtr 3 x y t) (hx : a.eval x = .int .i64 m) (hy : a.eval y = .int .i64 n) (b : Bool) (hb : decide (n < m) = b) (hC : C w) : o.quietAt Try.prog a C w (.bool b) := by
  unfold Oper.quietAt
  simp only [execOp, hop, hx, hy]
  rw [← hb]
  simp [go_sem, Result.andThen, hC, eqGuard]
end Go.Proofs.Ytegkmkbbmdplkaa
