/-
  Plain laws on lists of bytes for the package path: what names, Split and Join come to; no program is named here.
-/
import Derived.WalkKit
import Derived.ProofKit
namespace Go.Proofs.Ytdbllggcomllgac.Pa
set_option linter.unusedVariables false
set_option linter.unusedSimpArgs false
open Go.RowKit

/-- A letter that may stand in a name, as a number. -/
def okR (r : Int) : Bool := decide (97 ≤ r ∧ r ≤ 122) || decide (48 ≤ r ∧ r ≤ 57) || decide (r = 46) || decide (r = 45) || decide (r = 95)
def okC (c : UInt8) : Bool := okR (c.toNat : Int)
theorem okR_high (r : Int) (h : 128 ≤ r) : okR r = false := by simp [okR]; omega
theorem okR_true {r : Int} (h : okR r = true) : (97 ≤ r ∧ r ≤ 122) ∨ (48 ≤ r ∧ r ≤ 57) ∨ (46 ≤ r ∧ r ≤ 46) ∨ (45 ≤ r ∧ r ≤ 45) ∨ (95 ≤ r ∧ r ≤ 95) := by
  simp [okR] at h; omega
theorem okR_false {r : Int} (h : okR r = false) : r < 45 ∨ (47 ≤ r ∧ r ≤ 47) ∨ (58 ≤ r ∧ r ≤ 94) ∨ (96 ≤ r ∧ r ≤ 96) ∨ 122 < r := by
  simp [okR] at h; omega
/-- What may be a name. -/
def nameB (l : List UInt8) : Bool := decide (1 ≤ l.length) && decide (l.length ≤ 12) && !(l == [46]) && !(l == [46, 46]) && l.all okC

theorem nameB_short (l : List UInt8) (h : l.length < 1) : nameB l = false := by simp [nameB]; omega
theorem nameB_long (l : List UInt8) (h : 12 < l.length) : nameB l = false := by simp [nameB]; omega
theorem nameB_dot : nameB [46] = false := by decide
theorem nameB_dots : nameB [46, 46] = false := by decide
theorem nameB_mid (l : List UInt8) (h1 : 1 ≤ l.length) (h2 : l.length ≤ 12) (h3 : (l == [46]) = false) (h4 : (l == [46, 46]) = false) : nameB l = l.all okC := by
  simp [nameB, h1, h2, h3, h4]
theorem nameB_bad (l : List UInt8) (h : l.all okC = false) : nameB l = false := by simp only [nameB, h, Bool.and_false]
theorem all_take_succ (l : List UInt8) (j : Nat) (h : j < l.length) (ha : (l.take j).all okC = true) (hc : okC l[j] = true) : (l.take (j + 1)).all okC = true := by
  rw [List.take_succ_eq_append_getElem h, List.all_append, ha, List.all_cons, List.all_nil, hc]; rfl
theorem all_bad (l : List UInt8) (j : Nat) (h : j < l.length) (hc : okC l[j] = false) : l.all okC = false := by
  rw [Bool.eq_false_iff]
  intro ha
  rw [List.all_eq_true] at ha
  have := ha l[j] (List.getElem_mem h)
  rw [hc] at this; exact Bool.noConfusion this

/-! ### What stands between the slashes -/
def piecesF : List UInt8 → List (List UInt8)
  | [] => [[]]
  | c :: r => if c = 47 then [] :: piecesF r else (match piecesF r with | p :: ps => (c :: p) :: ps | [] => [[c]])
theorem pieces_none : ∀ (l : List UInt8), 47 ∉ l → piecesF l = [l]
  | [], _ => rfl
  | c :: r, h => by
    have hc : ¬ c = 47 := fun e => h (by rw [e]; exact List.mem_cons_self)
    have hr : 47 ∉ r := fun e => h (List.mem_cons_of_mem _ e)
    simp only [piecesF, if_neg hc, pieces_none r hr]
theorem pieces_cut : ∀ (a b : List UInt8), 47 ∉ a → piecesF (a ++ 47 :: b) = a :: piecesF b
  | [], b, _ => by simp [piecesF]
  | c :: r, b, h => by
    have hc : ¬ c = 47 := fun e => h (by rw [e]; exact List.mem_cons_self)
    have hr : 47 ∉ r := fun e => h (List.mem_cons_of_mem _ e)
    simp only [List.cons_append, piecesF, if_neg hc, pieces_cut r b hr]
theorem pieces_length : ∀ (l : List UInt8), (piecesF l).length ≤ l.length + 1
  | [] => by simp [piecesF]
  | c :: r => by
    have := pieces_length r
    unfold piecesF
    split
    · simp; omega
    · split
      · rename_i p ps h; rw [h] at this; simp at this ⊢; omega
      · simp
theorem pieces_mem : ∀ (l p : List UInt8), p ∈ piecesF l → p.length ≤ l.length
  | [], p, h => by simp [piecesF] at h; simp [h]
  | c :: r, p, h => by
    unfold piecesF at h
    split at h
    · rcases List.mem_cons.1 h with rfl | h
      · simp
      · have := pieces_mem r p h; simp; omega
    · have ih := pieces_mem r
      split at h
      · rename_i q qs hq
        rw [hq] at ih
        rcases List.mem_cons.1 h with rfl | h
        · have := ih q List.mem_cons_self; simp; omega
        · have := ih p (List.mem_cons_of_mem _ h); simp; omega
      · simp at h; simp [h]
/-- What the loop of pieces has found when it stands at j. -/
def Found (l : List UInt8) (start j : Nat) (done : List (List UInt8)) : Prop :=
  start ≤ j ∧ done ++ piecesF (l.drop start) = piecesF l ∧ 47 ∉ (l.drop start).take (j - start)
theorem found_zero (l : List UInt8) : Found l 0 0 [] := ⟨Nat.le_refl _, by simp, by simp⟩
theorem found_on {l : List UInt8} {start j : Nat} {done : List (List UInt8)} (h : Found l start j done) (n : Nat) (hn : ∀ k, j ≤ k → k < n → ∀ hk : k < l.length, l[k] ≠ 47) (hjn : j ≤ n) : Found l start n done := by
  obtain ⟨h1, h2, h3⟩ := h
  refine ⟨by omega, h2, fun hm => ?_⟩
  obtain ⟨i, hi, he⟩ := List.getElem_of_mem hm
  rw [List.length_take, List.length_drop] at hi
  rw [List.getElem_take, List.getElem_drop] at he
  by_cases hlt : start + i < j
  · apply h3
    rw [List.mem_take_iff_getElem]
    exact ⟨i, by rw [List.length_drop]; omega, by rw [List.getElem_drop]; exact he⟩
  · exact hn (start + i) (by omega) (by omega) (by omega) he
theorem found_cut {l : List UInt8} {start j : Nat} {done : List (List UInt8)} (h : Found l start j done) (hj : j < l.length) (hc : l[j] = 47) : Found l (j + 1) (j + 1) (done ++ [(l.drop start).take (j - start)]) := by
  obtain ⟨h1, h2, h3⟩ := h
  refine ⟨Nat.le_refl _, ?_, by simp⟩
  have e : l.drop start = (l.drop start).take (j - start) ++ 47 :: l.drop (j + 1) := by
    have e1 := (List.take_append_drop (j - start) (l.drop start)).symm
    rw [List.drop_drop, show start + (j - start) = j from by omega, List.drop_eq_getElem_cons hj, hc] at e1
    exact e1
  rw [List.append_assoc, List.singleton_append, ← pieces_cut _ _ h3, ← e, h2]
theorem found_end {l : List UInt8} {start j : Nat} {done : List (List UInt8)} (h : Found l start j done) (hj : l.length ≤ j) : piecesF l = done ++ [l.drop start] := by
  obtain ⟨h1, h2, h3⟩ := h
  rw [List.take_of_length_le (by rw [List.length_drop]; omega)] at h3
  rw [← h2, pieces_none _ h3]
theorem found_length {l : List UInt8} {start j : Nat} {done : List (List UInt8)} (h : Found l start j done) : done.length ≤ l.length := by
  obtain ⟨h1, h2, h3⟩ := h
  have h4 := pieces_length l
  rw [← h2, List.length_append] at h4
  have h5 : 1 ≤ (piecesF (l.drop start)).length := by
    cases l.drop start with
    | nil => simp [piecesF]
    | cons c r => unfold piecesF; split <;> (try split) <;> simp
  omega
/-- A rune of more than one letter, or none, skips letters above 127 alone. -/
theorem decode_skip (s : ByteArray) (pos : Nat) (h : pos < s.size) (ha : 128 ≤ (s[pos]'h).toNat) : ∀ k, k < (Utf8.decode s pos).2 → pos + k < s.size ∧ 128 ≤ (s.get! (pos + k)).toNat := by
  have hn : ¬ (s[pos]'h).toNat < 128 := by omega
  have h0 : pos + 0 < s.size ∧ 128 ≤ (s.get! (pos + 0)).toNat := ⟨by omega, by rw [get_at s pos h]; exact ha⟩
  have hcont : ∀ k, ((decide (pos + k < s.size) && (s.get! (pos + k)).toNat / 64 == 2) = true) → pos + k < s.size ∧ 128 ≤ (s.get! (pos + k)).toNat := by
    intro k hk
    simp at hk
    omega
  intro k hk
  simp only [Utf8.decode, get_at s pos h, hn, if_false] at hk
  have one : ∀ k, k < 1 → pos + k < s.size ∧ 128 ≤ (s.get! (pos + k)).toNat := fun k hk => by
    obtain rfl : k = 0 := by omega
    exact h0
  split at hk
  · rename_i h2
    rw [Bool.and_eq_true] at h2
    have c1 := hcont 1 h2.2
    split at hk
    · rcases k with _ | _ | k
      · exact h0
      · exact c1
      · exact absurd hk (by simp)
    · exact one k hk
  · split at hk
    · rename_i h2
      rw [Bool.and_eq_true, Bool.and_eq_true] at h2
      have c1 := hcont 1 h2.1.2
      have c2 := hcont 2 h2.2
      split at hk
      · rcases k with _ | _ | _ | k
        · exact h0
        · exact c1
        · exact c2
        · exact absurd hk (by simp)
      · exact one k hk
    · split at hk
      · rename_i h2
        rw [Bool.and_eq_true, Bool.and_eq_true, Bool.and_eq_true] at h2
        have c1 := hcont 1 h2.1.1.2
        have c2 := hcont 2 h2.1.2
        have c3 := hcont 3 h2.2
        split at hk
        · rcases k with _ | _ | _ | _ | k
          · exact h0
          · exact c1
          · exact c2
          · exact c3
          · exact absurd hk (by simp)
        · exact one k hk
      · exact one k hk

/-! ### Split -/
def stepN (acc : List (List UInt8)) (p : List UInt8) : Option (List (List UInt8)) :=
  if p = [] ∨ p = [46] then some acc else if p = [46, 46] then some acc.dropLast else if nameB p = true then some (acc ++ [p]) else none
def splitN : List (List UInt8) → List (List UInt8) → Option (List (List UInt8))
  | acc, [] => some acc
  | acc, p :: ps => (stepN acc p).bind fun a => splitN a ps
def splitF (l : List UInt8) : Option (List (List UInt8)) :=
  if l.length ≤ 120 ∧ l.head? = some 47 then splitN [] (piecesF l) else none
theorem splitN_at (acc P : List (List UInt8)) (k : Nat) (h : k < P.length) : splitN acc (P.drop k) = (stepN acc P[k]).bind fun a => splitN a (P.drop (k + 1)) := by
  rw [List.drop_eq_getElem_cons h]; rfl
theorem step_empty (acc : List (List UInt8)) : stepN acc [] = some acc := by simp [stepN]
theorem step_dot (acc : List (List UInt8)) : stepN acc [46] = some acc := by simp [stepN]
theorem step_dots (acc : List (List UInt8)) : stepN acc [46, 46] = some acc.dropLast := by simp [stepN]
theorem step_name (acc : List (List UInt8)) (p : List UInt8) (h : nameB p = true) : stepN acc p = some (acc ++ [p]) := by
  have h0 : p ≠ [] := fun e => by rw [e] at h; exact absurd h (by decide)
  have h1 : p ≠ [46] := fun e => by rw [e] at h; exact absurd h (by decide)
  have h2 : p ≠ [46, 46] := fun e => by rw [e] at h; exact absurd h (by decide)
  simp [stepN, h0, h1, h2, h]
theorem step_bad (acc : List (List UInt8)) (p : List UInt8) (h0 : p ≠ []) (h1 : p ≠ [46]) (h2 : p ≠ [46, 46]) (h : nameB p = false) : stepN acc p = none := by
  simp [stepN, h0, h1, h2, h]
theorem name_len (p : List UInt8) (h : nameB p = true) : 1 ≤ p.length ∧ p.length ≤ 12 := by
  simp [nameB] at h
  omega

/-! ### Join -/
def joinG : List UInt8 → List (List UInt8) → Option (List UInt8)
  | text, [] => some text
  | text, n :: ns => if nameB n = true ∧ text.length + 1 + n.length ≤ 120 then joinG (text ++ 47 :: n) ns else none
def joinF (ns : List (List UInt8)) : Option (List UInt8) := if ns = [] then some [47] else joinG [] ns
theorem joinG_at (text : List UInt8) (P : List (List UInt8)) (k : Nat) (h : k < P.length) : joinG text (P.drop k) = if nameB P[k] = true ∧ text.length + 1 + P[k].length ≤ 120 then joinG (text ++ 47 :: P[k]) (P.drop (k + 1)) else none := by
  rw [List.drop_eq_getElem_cons h]; rfl

/-! ### What Split answers are names -/
theorem step_names {acc ns : List (List UInt8)} {p : List UInt8} (h : stepN acc p = some ns) (ha : ∀ q ∈ acc, nameB q = true) : ∀ q ∈ ns, nameB q = true := by
  unfold stepN at h
  split at h
  · cases h; exact ha
  · split at h
    · cases h; exact fun q hq => ha q (by rw [List.dropLast_eq_take] at hq; exact List.mem_of_mem_take hq)
    · split at h
      · rename_i hn
        cases h
        intro q hq
        rcases List.mem_append.1 hq with h1 | h1
        · exact ha q h1
        · rw [List.mem_singleton.1 h1]; exact hn
      · cases h
theorem splitN_names : ∀ (P acc ns : List (List UInt8)), splitN acc P = some ns → (∀ q ∈ acc, nameB q = true) → ∀ q ∈ ns, nameB q = true
  | [], acc, ns, h, ha => by cases h; exact ha
  | p :: ps, acc, ns, h, ha => by
    unfold splitN at h
    cases hs : stepN acc p with
    | none => rw [hs] at h; cases h
    | some a => rw [hs] at h; exact splitN_names ps a ns h (step_names hs ha)
theorem split_names {l : List UInt8} {ns : List (List UInt8)} (h : splitF l = some ns) : ∀ q ∈ ns, nameB q = true := by
  unfold splitF at h
  split at h
  · exact splitN_names _ _ _ h (by simp)
  · cases h
def cleanF (l : List UInt8) : Option (List UInt8) := (splitF l).bind joinF
def someF (l : List UInt8) : Option (List (List UInt8)) := (splitF l).bind fun ns => if ns = [] then none else some ns
def dirF (l : List UInt8) : Option (List UInt8) := (someF l).bind fun ns => joinF ns.dropLast
def baseF (l : List UInt8) : Option (List UInt8) := (someF l).bind fun ns => ns.getLast?
def belowB (l m : List UInt8) : Bool := match splitF l, splitF m with
  | some a, some b => decide (b.length < a.length) && decide (a.take b.length = b)
  | _, _ => false

/-! ### Below -/
theorem below_some {l m : List UInt8} (h : belowB l m = true) : ∃ a b, splitF l = some a ∧ splitF m = some b ∧ b.length < a.length ∧ a.take b.length = b := by
  unfold belowB at h
  split at h
  · rename_i a b ha hb
    rw [Bool.and_eq_true, decide_eq_true_eq, decide_eq_true_eq] at h
    exact ⟨a, b, ha, hb, h.1, h.2⟩
  · cases h
theorem below_mk {l m : List UInt8} {a b : List (List UInt8)} (ha : splitF l = some a) (hb : splitF m = some b) (h1 : b.length < a.length) (h2 : a.take b.length = b) : belowB l m = true := by
  unfold belowB; rw [ha, hb]; simp [h1, h2]
theorem below_self (l : List UInt8) : belowB l l = false := by
  cases h : belowB l l with
  | false => rfl
  | true =>
    obtain ⟨a, b, ha, hb, h1, h2⟩ := below_some h
    rw [ha] at hb; cases hb; omega
theorem below_trans {l m n : List UInt8} (h : belowB l m = true) (k : belowB m n = true) : belowB l n = true := by
  obtain ⟨a, b, ha, hb, h1, h2⟩ := below_some h
  obtain ⟨b', c, hb', hc, k1, k2⟩ := below_some k
  rw [hb] at hb'; cases hb'
  refine below_mk ha hc (by omega) ?_
  have e : (a.take b.length).take c.length = c := by rw [h2, k2]
  rw [List.take_take, Nat.min_eq_left (by omega)] at e
  exact e
theorem below_anti {l m : List UInt8} (h : belowB l m = true) : belowB m l = false := by
  cases k : belowB m l with
  | false => rfl
  | true =>
    obtain ⟨a, b, ha, hb, h1, h2⟩ := below_some h
    obtain ⟨b', a', hb', ha', k1, k2⟩ := below_some k
    rw [hb] at hb'; cases hb'
    rw [ha] at ha'; cases ha'
    omega
end Go.Proofs.Ytdbllggcomllgac.Pa
