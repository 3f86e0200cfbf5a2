/-
  Plain laws on lists of bytes for the package path: what names, Split and Join come to; no program is named here.
-/
import Derived.WalkKit
import Derived.ProofKit
namespace Go.Proofs.Ytihgiemgcmpmmaa.Pa
set_option linter.unusedVariables false
set_option linter.unusedSimpArgs false
open Go.RowKit

/-- A letter that may stand in a name, as a number. -/
def okR (r : Int) : Bool := decide (97 ≤ r ∧ r ≤ 122) || decide (48 ≤ r ∧ r ≤ 57) || decide (r = 46) || decide (r = 45) || decide (r = 95)
def okC (c : UInt8) : Bool := okR (c.toNat : Int)
theorem okR_high (r : Int) (h : 128 ≤ r) : okR r = false := by simp [okR]; omega
theorem okR_true {r : Int} (h : okR r = true) : (97 ≤ r ∧ r ≤ 122) ∨ (48 ≤ r ∧ r ≤ 57) ∨ (46 ≤ r ∧ r ≤ 46) ∨ (45 ≤ r ∧ r ≤ 45) ∨ (95 ≤ r ∧ r ≤ 95) := by
  simp [okR] at h; omega
theorem okR_false {r : Int} (h : okR r = false) : r < 45 ∨ (47 ≤ r ∧ r ≤ 47) ∨ (58 ≤ r ∧ r ≤ 94) ∨ (96 ≤ r ∧ r ≤ 96) ∨ 122 < r := by
  simp [okR] at h; omega
/-- What may be a name. -/
def nameB (l : List UInt8) : Bool := decide (1 ≤ l.length) && decide (l.length ≤ 12) && !(l == [46]) && !(l == [46, 46]) && l.all okC

theorem nameB_short (l : List UInt8) (h : l.length < 1) : nameB l = false := by simp [nameB]; omega
theorem nameB_long (l : List UInt8) (h : 12 < l.length) : nameB l = false := by simp [nameB]; omega
theorem nameB_dot : nameB [46] = false := by decide
theorem nameB_dots : nameB [46, 46] = false := by decide
theorem nameB_mid (l : List UInt8) (h1 : 1 ≤ l.length) (h2 : l.length ≤ 12) (h3 : (l == [46]) = false) (h4 : (l == [46, 46]) = false) : nameB l = l.all okC := by
  simp [nameB, h1, h2, h3, h4]
theorem nameB_bad (l : List UInt8) (h : l.all okC = false) : nameB l = false := by simp only [nameB, h, Bool.and_false]
theorem all_take_succ (l : List UInt8) (j : Nat) (h : j < l.length) (ha : (l.take j).all okC = true) (hc : okC l[j] = true) : (l.take (j + 1)).all okC = true := by
  rw [List.take_succ_eq_append_getElem h, List.all_append, ha, List.all_cons, List.all_nil, hc]; rfl
theorem all_bad (l : List UInt8) (j : Nat) (h : j < l.length) (hc : okC l[j] = false) : l.all okC = false := by
  rw [Bool.eq_false_iff]
  intro ha
  rw [List.all_eq_true] at ha
  have := ha l[j] (List.getElem_mem h)
  rw [hc] at this; exact Bool.noConfusion this

/-! ### What stands between the slashes -/
def piecesF : List UInt8 → List (List UInt8)
  | [] => [[]]
  | c :: r => if c = 47 then [] :: piecesF r else (match piecesF r with | p :: ps => (c :: p) :: ps | [] => [[c]])
theorem pieces_none : ∀ (l : List UInt8), 47 ∉ l → piecesF l = [l]
  | [], _ => rfl
  | c :: r, h => by
    have hc : ¬ c = 47 := fun e => h (by rw [e]; exact List.mem_cons_self)
    have hr : 47 ∉ r := fun e => h (List.mem_cons_of_mem _ e)
    simp only [piecesF, if_neg hc, pieces_none r hr]
theorem pieces_cut : ∀ (a b : List UInt8), 47 ∉ a → piecesF (a ++ 47 :: b) = a :: piecesF b
  | [], b, _ => by simp [piecesF]
  | c :: r, b, h => by
    have hc : ¬ c = 47 := fun e => h (by rw [e]; exact List.mem_cons_self)
    have hr : 47 ∉ r := fun e => h (List.mem_cons_of_mem _ e)
    simp only [List.cons_append, piecesF, if_neg hc, pieces_cut r b hr]
theorem pieces_length : ∀ (l : List UInt8), (piecesF l).length ≤ l.length + 1
  | [] => by simp [piecesF]
  | c :: r => by
    have := pieces_length r
    unfold piecesF
    split
    · simp; omega
    · split
      · rename_i p ps h; rw [h] at this; simp at this ⊢; omega
      · simp
theorem pieces_mem : ∀ (l p : List UInt8), p ∈ piecesF l → p.length ≤ l.length
  | [], p, h => by simp [piecesF] at h; simp [h]
  | c :: r, p, h => by
    unfold piecesF at h
    split at h
    · rcases List.mem_cons.1 h with rfl | h
      · simp
      · have := pieces_mem r p h; simp; omega
    · have ih := pieces_mem r
      split at h
      · rename_i q qs hq
        rw [hq] at ih
        rcases List.mem_cons.1 h with rfl | h
        · have := ih q List.mem_cons_self; simp; omega
        · have := ih p (List.mem_cons_of_mem _ h); simp; omega
      · simp at h; simp [h]
/-- What the loop of pieces has found when it stands at j. -/
def Found (l : List UInt8) (start j : Nat) (done : List (List UInt8)) : Prop :=
  start ≤ j ∧ done ++ piecesF (l.drop start) = piecesF l ∧ 47 ∉ (l.drop start).take (j - start)
theorem found_zero (l : List UInt8) : Found l 0 0 [] := ⟨Nat.le_refl _, by simp, by simp⟩
theorem found_on {l : List UInt8} {start j : Nat} {done : List (List UInt8)} (h : Found l start j done) (n : Nat) (hn : ∀ k, j ≤ k → k < n → ∀ hk : k < l.length, l[k] ≠ 47) (hjn : j ≤ n) : Found l start n done := by
  obtain ⟨h1, h2, h3⟩ := h
  refine ⟨by omega, h2, fun hm => ?_⟩
  obtain ⟨i, hi, he⟩ := List.getElem_of_mem hm
  rw [List.length_take, List.length_drop] at hi
  rw [List.getElem_take, List.getElem_drop] at he
  by_cases hlt : start + i < j
  · apply h3
    rw [List.mem_take_iff_getElem]
    exact ⟨i, by rw [List.length_drop]; omega, by rw [List.getElem_drop]; exact he⟩
  · exact hn (start + i) (by omega) (by omega) (by omega) he
theorem found_cut {l : List UInt8} {start j : Nat} {done : List (List UInt8)} (h : Found l start j done) (hj : j < l.length) (hc : l[j] = 47) : Found l (j + 1) (j + 1) (done ++ [(l.drop start).take (j - start)]) := by
  obtain ⟨h1, h2, h3⟩ := h
  refine ⟨Nat.le_refl _, ?_, by simp⟩
  have e : l.drop start = (l.drop start).take (j - start) ++ 47 :: l.drop (j + 1) := by
    have e1 := (List.take_append_drop (j - start) (l.drop start)).symm
    rw [List.drop_drop, show start + (j - start) = j from by omega, List.drop_eq_getElem_cons hj, hc] at e1
    exact e1
  rw [List.append_assoc, List.singleton_append, ← pieces_cut _ _ h3, ← e, h2]
theorem found_end {l : List UInt8} {start j : Nat} {done : List (List UInt8)} (h : Found l start j done) (hj : l.length ≤ j) : piecesF l = done ++ [l.drop start] := by
  obtain ⟨h1, h2, h3⟩ := h
  rw [List.take_of_length_le (by rw [List.length_drop]; omega)] at h3
  rw [← h2, pieces_none _ h3]
theorem found_length {l : List UInt8} {start j : Nat} {done : List (List UInt8)} (h : Found l start j done) : done.length ≤ l.length := by
  obtain ⟨h1, h2, h3⟩ := h
  have h4 := pieces_length l
  rw [← h2, List.length_append] at h4
  have h5 : 1 ≤ (piecesF (l.drop start)).length := by
    cases l.drop start with
    | nil => simp [piecesF]
    | cons c r => unfold piecesF; split <;> (try split) <;> simp
  omega
/-- A rune of more than one letter, or none, skips letters above 127 alone. -/
theorem decode_skip (s : ByteArray) (pos : Nat) (h : pos < s.size) (ha : 128 ≤ (s[pos]'h).toNat) : ∀ k, k < (Utf8.decode s pos).2 → pos + k < s.size ∧ 128 ≤ (s.get! (pos + k)).toNat := by
  have hn : ¬ (s[pos]'h).toNat < 128 := by omega
  have h0 : pos + 0 < s.size ∧ 128 ≤ (s.get! (pos + 0)).toNat := ⟨by omega, by rw [get_at s pos h]; exact ha⟩
  have hcont : ∀ k, ((decide (pos + k < s.size) && (s.get! (pos + k)).toNat / 64 == 2) = true) → pos + k < s.size ∧ 128 ≤ (s.get! (pos + k)).toNat := by
    intro k hk
    simp at hk
    omega
  intro k hk
  simp only [Utf8.decode, get_at s pos h, hn, if_false] at hk
  have one : ∀ k, k < 1 → pos + k < s.size ∧ 128 ≤ (s.get! (pos + k)).toNat := fun k hk => by
    obtain rfl : k = 0 := by omega
    exact h0
  split at hk
  · rename_i h2
    rw [Bool.and_eq_true] at h2
    have c1 := hcont 1 h2.2
    split at hk
    · rcases k with _ | _ | k
      · exact h0
      · exact c1
      · exact absurd hk (by simp)
    · exact one k hk
  · split at hk
    · rename_i h2
      rw [Bool.and_eq_true, Bool.and_eq_true] at h2
      have c1 := hcont 1 h2.1.2
      have c2 := hcont 2 h2.2
      split at hk
      · rcases k with _ | _ | _ | k
        · exact h0
        · exact c1
        · exact c2
        · exact absurd hk (by simp)
      · exact one k hk
    · split at hk
      · rename_i h2
        rw [Bool.and_eq_true, Bool.and_eq_true, Bool.and_eq_true] at h2
        have c1 := hcont 1 h2.1.1.2
        have c2 := hcont 2 h2.1.2
        have c3 := hcont 3 h2.2
        split at hk
        · rcases k with _ | _ | _ | _ | k
          · exact h0
          · exact c1
          · exact c2
          · exact c3
          · exact absurd hk (by simp)
        · exact one k hk
      · exact one k hk

/-! ### Split -/
def stepN (acc : List (List UInt8)) (p : List UInt8) : Option (List (List UInt8)) :=
  if p = [] ∨ p = [46] then some acc else if p = [46, 46] then some acc.dropLast else if nameB p = true then some (acc ++ [p]) else none
def splitN : List (List UInt8) → List (List UInt8) → Option (List (List UInt8))
  | acc, [] => some acc
  | acc, p :: ps => (stepN acc p).bind fun a => splitN a ps
def splitF (l : List UInt8) : Option (List (List UInt8)) :=
  if l.length ≤ 120 ∧ l.head? = some 47 then splitN [] (piecesF l) else none
theorem splitN_at (acc P : List (List UInt8)) (k : Nat) (h : k < P.length) : splitN acc (P.drop k) = (stepN acc P[k]).bind fun a => splitN a (P.drop (k + 1)) := by
  rw [List.drop_eq_getElem_cons h]; rfl
theorem step_empty (acc : List (List UInt8)) : stepN acc [] = some acc := by simp [stepN]
theorem step_dot (acc : List (List UInt8)) : stepN acc [46] = some acc := by simp [stepN]
theorem step_dots (acc : List (List UInt8)) : stepN acc [46, 46] = some acc.dropLast := by simp [stepN]
theorem step_name (acc : List (List UInt8)) (p : List UInt8) (h : nameB p = true) : stepN acc p = some (acc ++ [p]) := by
  have h0 : p ≠ [] := fun e => by rw [e] at h; exact absurd h (by decide)
  have h1 : p ≠ [46] := fun e => by rw [e] at h; exact absurd h (by decide)
  have h2 : p ≠ [46, 46] := fun e => by rw [e] at h; exact absurd h (by decide)
  simp [stepN, h0, h1, h2, h]
theorem step_bad (acc : List (List UInt8)) (p : List UInt8) (h0 : p ≠ []) (h1 : p ≠ [46]) (h2 : p ≠ [46, 46]) (h : nameB p = false) : stepN acc p = none := by
  simp [stepN, h0, h1, h2, h]
theorem name_len (p : List UInt8) (h : nameB p = true) : 1 ≤ p.length ∧ p.length ≤ 12 := by
  simp [nameB] at h
  omega

/-! ### Join -/
def joinG : List UInt8 → List (List UInt8) → Option (List UInt8)
  | text, [] => some text
  | text, n :: ns => if nameB n = true ∧ text.length + 1 + n.length ≤ 120 then joinG (text ++ 47 :: n) ns else none
def joinF (ns : List (List UInt8)) : Option (List UInt8) := if ns = [] then some [47] else joinG [] ns
theorem joinG_at (text : List UInt8) (P : List (List UInt8)) (k : Nat) (h : k < P.length) : joinG text (P.drop k) = if nameB P[k] = true ∧ text.length + 1 + P[k].length ≤ 120 then joinG (text ++ 47 :: P[k]) (P.drop (k + 1)) else none := by
  rw [List.drop_eq_getElem_cons h]; rfl

/-! ### What Split answers are names -/
theorem step_names {acc ns : List (List UInt8)} {p : List UInt8} (h : stepN acc p = some ns) (ha : ∀ q ∈ acc, nameB q = true) : ∀ q ∈ ns, nameB q = true := by
  unfold stepN at h
  split at h
  · cases h; exact ha
  · split at h
    · cases h; exact fun q hq => ha q (by rw [List.dropLast_eq_take] at hq; exact List.mem_of_mem_take hq)
    · split at h
      · rename_i hn
        cases h
        intro q hq
        rcases List.mem_append.1 hq with h1 | h1
        · exact ha q h1
        · rw [List.mem_singleton.1 h1]; exact hn
      · cases h
theorem splitN_names : ∀ (P acc ns : List (List UInt8)), splitN acc P = some ns → (∀ q ∈ acc, nameB q = true) → ∀ q ∈ ns, nameB q = true
  | [], acc, ns, h, ha => by cases h; exact ha
  | p :: ps, acc, ns, h, ha => by
    unfold splitN at h
    cases hs : stepN acc p with
    | none => rw [hs] at h; cases h
    | some a => rw [hs] at h; exact splitN_names ps a ns h (step_names hs ha)
theorem split_names {l : List UInt8} {ns : List (List UInt8)} (h : splitF l = some ns) : ∀ q ∈ ns, nameB q = true := by
  unfold splitF at h
  split at h
  · exact splitN_names _ _ _ h (by simp)
  · cases h
def cleanF (l : List UInt8) : Option (List UInt8) := (splitF l).bind joinF
def someF (l : List UInt8) : Option (List (List UInt8)) := (splitF l).bind fun ns => if ns = [] then none else some ns
def dirF (l : List UInt8) : Option (List UInt8) := (someF l).bind fun ns => joinF ns.dropLast
def baseF (l : List UInt8) : Option (List UInt8) := (someF l).bind fun ns => ns.getLast?
def belowB (l m : List UInt8) : Bool := match splitF l, splitF m with
  | some a, some b => decide (b.length < a.length) && decide (a.take b.length = b)
  | _, _ => false

/-! ### Below -/
theorem below_some {l m : List UInt8} (h : belowB l m = true) : ∃ a b, splitF l = some a ∧ splitF m = some b ∧ b.length < a.length ∧ a.take b.length = b := by
  unfold belowB at h
  split at h
  · rename_i a b ha hb
    rw [Bool.and_eq_true, decide_eq_true_eq, decide_eq_true_eq] at h
    exact ⟨a, b, ha, hb, h.1, h.2⟩
  · cases h
theorem below_mk {l m : List UInt8} {a b : List (List UInt8)} (ha : splitF l = some a) (hb : splitF m = some b) (h1 : b.length < a.length) (h2 : a.take b.length = b) : belowB l m = true := by
  unfold belowB; rw [ha, hb]; simp [h1, h2]
theorem below_self (l : List UInt8) : belowB l l = false := by
  cases h : belowB l l with
  | false => rfl
  | true =>
    obtain ⟨a, b, ha, hb, h1, h2⟩ := below_some h
    rw [ha] at hb; cases hb; omega
theorem below_trans {l m n : List UInt8} (h : belowB l m = true) (k : belowB m n = true) : belowB l n = true := by
  obtain ⟨a, b, ha, hb, h1, h2⟩ := below_some h
  obtain ⟨b', c, hb', hc, k1, k2⟩ := below_some k
  rw [hb] at hb'; cases hb'
  refine below_mk ha hc (by omega) ?_
  have e : (a.take b.length).take c.length = c := by rw [h2, k2]
  rw [List.take_take, Nat.min_eq_left (by omega)] at e
  exact e
theorem below_anti {l m : List UInt8} (h : belowB l m = true) : belowB m l = false := by
  cases k : belowB m l with
  | false => rfl
  | true =>
    obtain ⟨a, b, ha, hb, h1, h2⟩ := below_some h
    obtain ⟨b', a', hb', ha', k1, k2⟩ := below_some k
    rw [hb] at hb'; cases hb'
    rw [ha] at ha'; cases ha'
    omega

/-! ### Join and Split, both ways -/
def wt : List (List UInt8) → Nat
  | [] => 0
  | n :: ns => n.length + 1 + wt ns
theorem wt_append : ∀ (a b : List (List UInt8)), wt (a ++ b) = wt a + wt b
  | [], b => by simp [wt]
  | n :: a, b => by simp [wt, wt_append a b]; omega
theorem wt_dropLast : ∀ (a : List (List UInt8)), wt a.dropLast ≤ wt a
  | [] => by simp [wt]
  | [n] => by simp [wt]
  | n :: m :: a => by
    have := wt_dropLast (m :: a)
    simp only [List.dropLast_cons_cons, wt] at this ⊢
    omega
theorem pieces_wt : ∀ (l : List UInt8), wt (piecesF l) = l.length + 1
  | [] => by simp [piecesF, wt]
  | c :: r => by
    have ih := pieces_wt r
    unfold piecesF
    split
    · simp [wt, ih]; omega
    · split
      · rename_i p ps h
        rw [h] at ih
        simp [wt] at ih ⊢; omega
      · rename_i h
        rw [h] at ih; simp [wt] at ih
theorem step_wt {acc ns : List (List UInt8)} {p : List UInt8} (h : stepN acc p = some ns) : wt ns ≤ wt acc + p.length + 1 := by
  unfold stepN at h
  split at h
  · cases h; omega
  · split at h
    · cases h; have := wt_dropLast acc; omega
    · split at h
      · cases h; rw [wt_append]; simp [wt]; omega
      · cases h
theorem splitN_wt : ∀ (P acc ns : List (List UInt8)), splitN acc P = some ns → wt ns ≤ wt acc + wt P
  | [], acc, ns, h => by cases h; simp [wt]
  | p :: ps, acc, ns, h => by
    unfold splitN at h
    cases hs : stepN acc p with
    | none => rw [hs] at h; cases h
    | some a =>
      rw [hs] at h
      have h1 := splitN_wt ps a ns h
      have h2 := step_wt hs
      simp only [wt]; omega
theorem split_slashed {l : List UInt8} {ns : List (List UInt8)} (h : splitF l = some ns) : ∃ r, l = 47 :: r ∧ l.length ≤ 120 ∧ splitN [] (piecesF r) = some ns := by
  unfold splitF at h
  split at h
  · rename_i hc
    cases l with
    | nil => simp at hc
    | cons c r =>
      simp at hc
      obtain ⟨h1, rfl⟩ := hc
      refine ⟨r, rfl, by simp; omega, ?_⟩
      have e : piecesF (47 :: r) = [] :: piecesF r := by simp [piecesF]
      rw [e] at h
      exact h
  · cases h
theorem split_wt {l : List UInt8} {ns : List (List UInt8)} (h : splitF l = some ns) : wt ns ≤ l.length := by
  obtain ⟨r, rfl, _, h1⟩ := split_slashed h
  have := splitN_wt _ _ _ h1
  rw [pieces_wt] at this
  simp [wt] at this ⊢; omega
def flat : List (List UInt8) → List UInt8
  | [] => []
  | n :: ns => 47 :: (n ++ flat ns)
theorem flat_length : ∀ (ns : List (List UInt8)), (flat ns).length = wt ns
  | [] => rfl
  | n :: ns => by simp [flat, wt, flat_length ns]; omega
theorem joinG_ok : ∀ (ns : List (List UInt8)) (text : List UInt8), (∀ n ∈ ns, nameB n = true) → text.length + wt ns ≤ 120 → joinG text ns = some (text ++ flat ns)
  | [], text, _, _ => by simp [joinG, flat]
  | n :: ns, text, hn, hw => by
    simp only [wt] at hw
    unfold joinG
    rw [if_pos ⟨hn n List.mem_cons_self, by omega⟩, joinG_ok ns _ (fun m hm => hn m (List.mem_cons_of_mem _ hm)) (by simp; omega)]
    simp [flat]
theorem joinG_inv : ∀ (ns : List (List UInt8)) (text t : List UInt8), joinG text ns = some t → t = text ++ flat ns ∧ (∀ n ∈ ns, nameB n = true) ∧ (ns ≠ [] → t.length ≤ 120)
  | [], text, t, h => by cases h; simp [flat]
  | n :: ns, text, t, h => by
    unfold joinG at h
    split at h
    · rename_i hc
      obtain ⟨h1, h2, h3⟩ := joinG_inv ns _ _ h
      refine ⟨by rw [h1]; simp [flat], ?_, fun _ => ?_⟩
      · intro m hm
        rcases List.mem_cons.1 hm with rfl | hm
        · exact hc.1
        · exact h2 m hm
      · cases ns with
        | nil => rw [h1]; simp [flat]; omega
        | cons m ms => exact h3 (by simp)
    · cases h
theorem name_noslash {n : List UInt8} (h : nameB n = true) : 47 ∉ n := by
  intro hm
  simp only [nameB, Bool.and_eq_true, List.all_eq_true] at h
  exact absurd (h.2 47 hm) (by decide)
theorem pieces_flat : ∀ (ns : List (List UInt8)) (n : List UInt8), (∀ m ∈ ns, nameB m = true) → 47 ∉ n → piecesF (n ++ flat ns) = n :: ns
  | [], n, _, hn => by simp only [flat, List.append_nil]; exact pieces_none n hn
  | m :: ms, n, hm, hn => by
    simp only [flat]
    rw [pieces_cut _ _ hn, pieces_flat ms m (fun k hk => hm k (List.mem_cons_of_mem _ hk)) (name_noslash (hm m List.mem_cons_self))]
theorem splitN_all : ∀ (ns acc : List (List UInt8)), (∀ m ∈ ns, nameB m = true) → splitN acc ns = some (acc ++ ns)
  | [], acc, _ => by simp [splitN]
  | n :: ns, acc, h => by
    unfold splitN
    rw [step_name acc n (h n List.mem_cons_self)]
    show splitN (acc ++ [n]) ns = _
    rw [splitN_all ns _ (fun k hk => h k (List.mem_cons_of_mem _ hk))]; simp
theorem split_flat (ns : List (List UInt8)) (hne : ns ≠ []) (hn : ∀ m ∈ ns, nameB m = true) (hl : (flat ns).length ≤ 120) : splitF (flat ns) = some ns := by
  cases ns with
  | nil => exact absurd rfl hne
  | cons n ns =>
    unfold splitF
    rw [if_pos ⟨hl, rfl⟩]
    have e : piecesF (flat (n :: ns)) = [] :: n :: ns := by
      simp only [flat]
      have h1 : piecesF (47 :: (n ++ flat ns)) = [] :: piecesF (n ++ flat ns) := by simp [piecesF]
      rw [h1, pieces_flat ns n (fun k hk => hn k (List.mem_cons_of_mem _ hk)) (name_noslash (hn n List.mem_cons_self))]
    rw [e]
    show splitN [] (n :: ns) = _
    rw [splitN_all _ _ hn]; simp
/-- SPLIT OF JOIN ARE THE NAMES. -/
theorem split_join {ns : List (List UInt8)} {t : List UInt8} (h : joinF ns = some t) : splitF t = some ns := by
  unfold joinF at h
  split at h
  · rename_i e; cases h; subst e; decide +kernel
  · rename_i hne
    obtain ⟨h1, h2, h3⟩ := joinG_inv ns _ _ h
    rw [List.nil_append] at h1
    subst h1
    exact split_flat ns hne h2 (h3 hne)
/-- A path's names can be joined again, and are no longer. -/
theorem join_split {l : List UInt8} {ns : List (List UInt8)} (h : splitF l = some ns) : ∃ t, joinF ns = some t ∧ t.length ≤ l.length := by
  obtain ⟨r, hr, hl, _⟩ := split_slashed h
  have hw := split_wt h
  unfold joinF
  by_cases e : ns = []
  · rw [if_pos e]; exact ⟨[47], rfl, by rw [hr]; simp⟩
  · rw [if_neg e, joinG_ok ns [] (split_names h) (by simp; omega)]
    exact ⟨_, rfl, by rw [List.nil_append, flat_length]; exact hw⟩
theorem clean_clean {l c : List UInt8} (h : cleanF l = some c) : ∃ ns, splitF l = some ns ∧ splitF c = some ns ∧ joinF ns = some c ∧ cleanF c = some c ∧ c.length ≤ l.length := by
  unfold cleanF at h
  cases hs : splitF l with
  | none => rw [hs] at h; cases h
  | some ns =>
    rw [hs] at h
    have hj : joinF ns = some c := h
    obtain ⟨t, ht, hl⟩ := join_split hs
    rw [hj] at ht; cases ht
    have h2 := split_join hj
    exact ⟨ns, rfl, h2, hj, by unfold cleanF; rw [h2]; exact hj, hl⟩
theorem join_names {ns : List (List UInt8)} (hn : ∀ m ∈ ns, nameB m = true) (hw : wt ns ≤ 120) : ∃ t, joinF ns = some t := by
  unfold joinF
  by_cases e : ns = []
  · rw [if_pos e]; exact ⟨_, rfl⟩
  · rw [if_neg e, joinG_ok ns [] hn (by simp; omega)]; exact ⟨_, rfl⟩
/-- What a path that says at least one name comes to. -/
theorem parts {l : List UInt8} {ns : List (List UInt8)} (h : splitF l = some ns) (hne : ns ≠ []) :
    ∃ d b c, dirF l = some d ∧ baseF l = some b ∧ splitF d = some ns.dropLast ∧ ns.dropLast ++ [b] = ns ∧ joinF ns = some c ∧ cleanF l = some c ∧ belowB l d = true ∧ belowB d l = false ∧ d.length ≤ 120 ∧ b.length ≤ 12 ∧ ns.dropLast.length ≤ 120 := by
  obtain ⟨r, hr, hl, _⟩ := split_slashed h
  have hw := split_wt h
  have hnm := split_names h
  have hdn : ∀ m ∈ ns.dropLast, nameB m = true := fun m hm => hnm m (by rw [List.dropLast_eq_take] at hm; exact List.mem_of_mem_take hm)
  have hdw := wt_dropLast ns
  obtain ⟨d, hd⟩ := join_names hdn (by omega)
  obtain ⟨c, hc, _⟩ := join_split h
  have hs : someF l = some ns := by unfold someF; rw [h]; exact if_neg hne
  have hsd := split_join hd
  have hlast := List.dropLast_concat_getLast hne
  have hlen : ns.dropLast.length < ns.length := by
    rw [List.length_dropLast]
    cases ns with
    | nil => exact absurd rfl hne
    | cons a b => simp
  have hwl : ∀ a : List (List UInt8), a.length ≤ wt a := fun a => by
    induction a with
    | nil => simp
    | cons x a ih => simp [wt]; omega
  have hb : belowB l d = true := below_mk h hsd hlen (by rw [List.length_dropLast, List.dropLast_eq_take])
  refine ⟨d, ns.getLast hne, c, by unfold dirF; rw [hs]; exact hd, by unfold baseF; rw [hs]; exact List.getLast?_eq_some_getLast hne, hsd, hlast, hc, by unfold cleanF; rw [h]; exact hc, hb, below_anti hb, ?_, (name_len _ (hnm _ (List.getLast_mem hne))).2, ?_⟩
  · obtain ⟨_, _, h9, _⟩ := split_slashed hsd
    exact h9
  · have := hwl ns.dropLast; omega
theorem no_parts {l : List UInt8} (h : splitF l = none ∨ splitF l = some []) : dirF l = none ∧ baseF l = none := by
  have : someF l = none := by
    unfold someF
    rcases h with h | h <;> rw [h] <;> rfl
  exact ⟨by unfold dirF; rw [this]; rfl, by unfold baseF; rw [this]; rfl⟩
theorem names_few {l : List UInt8} {ns : List (List UInt8)} (h : splitF l = some ns) : ns.length ≤ 120 := by
  have hwl : ∀ a : List (List UInt8), a.length ≤ wt a := fun a => by
    induction a with
    | nil => simp
    | cons x a ih => simp [wt]; omega
  obtain ⟨r, hr, hl, _⟩ := split_slashed h
  have h1 := split_wt h
  have h2 := hwl ns
  omega
/-! ### Down and up -/
theorem pieces_flat' : ∀ (ns : List (List UInt8)) (n : List UInt8), (∀ m ∈ ns, 47 ∉ m) → 47 ∉ n → piecesF (n ++ flat ns) = n :: ns
  | [], n, _, hn => by simp only [flat, List.append_nil]; exact pieces_none n hn
  | m :: ms, n, hm, hn => by
    simp only [flat]
    rw [pieces_cut _ _ hn, pieces_flat' ms m (fun k hk => hm k (List.mem_cons_of_mem _ hk)) (hm m List.mem_cons_self)]
theorem split_parts (ns : List (List UInt8)) (hne : ns ≠ []) (hn : ∀ m ∈ ns, 47 ∉ m) (hl : (flat ns).length ≤ 120) : splitF (flat ns) = splitN [] ns := by
  cases ns with
  | nil => exact absurd rfl hne
  | cons n ns =>
    unfold splitF
    rw [if_pos ⟨hl, rfl⟩]
    have h1 : piecesF (flat (n :: ns)) = [] :: piecesF (n ++ flat ns) := by simp [flat, piecesF]
    rw [h1, pieces_flat' ns n (fun k hk => hn k (List.mem_cons_of_mem _ hk)) (hn n List.mem_cons_self)]
    rfl
theorem splitN_append : ∀ (P Q acc : List (List UInt8)), splitN acc (P ++ Q) = (splitN acc P).bind fun a => splitN a Q
  | [], Q, acc => rfl
  | p :: ps, Q, acc => by
    simp only [List.cons_append, splitN]
    cases stepN acc p with
    | none => rfl
    | some a => exact splitN_append ps Q a
def dots (k : Nat) : List (List UInt8) := List.replicate k [46, 46]
theorem splitN_dots : ∀ (j : Nat) (acc : List (List UInt8)), acc.length ≤ j → splitN acc (dots j) = some []
  | 0, acc, h => by
    have : acc = [] := List.eq_nil_of_length_eq_zero (by omega)
    subst this; rfl
  | j + 1, acc, h => by
    show (stepN acc [46, 46]).bind (fun a => splitN a (dots j)) = _
    rw [step_dots]
    exact splitN_dots j acc.dropLast (by rw [List.length_dropLast]; omega)
theorem flat_append : ∀ (a b : List (List UInt8)), flat (a ++ b) = flat a ++ flat b
  | [], b => rfl
  | n :: a, b => by simp [flat, flat_append a b]
theorem dots_noslash (k : Nat) : ∀ m ∈ dots k, 47 ∉ m := by
  intro m hm
  rw [List.eq_of_mem_replicate hm]; decide
theorem wt_dots : ∀ k, wt (dots k) = 3 * k
  | 0 => rfl
  | k + 1 => by show 2 + 1 + wt (dots k) = _; rw [wt_dots k]; omega
/-- Letters as names of one letter each. -/
def Ones (ns : List (List UInt8)) : Prop := ∀ m ∈ ns, nameB m = true ∧ m.length = 1
theorem wt_ones : ∀ {ns : List (List UInt8)}, Ones ns → wt ns = 2 * ns.length
  | [], _ => rfl
  | n :: ns, h => by
    have h1 := (h n List.mem_cons_self).2
    have h2 := wt_ones (ns := ns) (fun m hm => h m (List.mem_cons_of_mem _ hm))
    simp only [wt, List.length_cons]; omega
theorem ones_names {ns : List (List UInt8)} (h : Ones ns) : ∀ m ∈ ns, nameB m = true := fun m hm => (h m hm).1
theorem down_split {ns : List (List UInt8)} (h : Ones ns) (hl : ns.length ≤ 20) : splitF (flat ns ++ [47]) = some ns := by
  have e : flat ns ++ [47] = flat (ns ++ [[]]) := by rw [flat_append]; rfl
  rw [e, split_parts _ (by simp) ?_ ?_, splitN_append, splitN_all ns [] (ones_names h)]
  · rfl
  · intro m hm
    rcases List.mem_append.1 hm with h1 | h1
    · exact name_noslash (ones_names h m h1)
    · rw [List.mem_singleton.1 h1]; simp
  · rw [flat_length, wt_append, wt_ones h]; simp [wt]; omega
theorem up_noslash {ns : List (List UInt8)} (h : Ones ns) (k : Nat) (x : List UInt8) (hx : 47 ∉ x) : ∀ m ∈ ns ++ dots k ++ [x], 47 ∉ m := by
  intro m hm
  rcases List.mem_append.1 hm with h1 | h1
  · rcases List.mem_append.1 h1 with h2 | h2
    · exact name_noslash (ones_names h m h2)
    · exact dots_noslash k m h2
  · rw [List.mem_singleton.1 h1]; exact hx
theorem up_split {ns : List (List UInt8)} (h : Ones ns) (hl : ns.length ≤ 20) : splitF (flat ns ++ flat (dots ns.length) ++ [47]) = some [] := by
  have e : flat ns ++ flat (dots ns.length) ++ [47] = flat (ns ++ dots ns.length ++ [[]]) := by rw [flat_append, flat_append]; rfl
  rw [e, split_parts _ (by simp) (up_noslash h _ _ (by simp)) ?_, splitN_append, splitN_append, splitN_all ns [] (ones_names h)]
  · show (splitN ([] ++ ns) (dots ns.length)).bind _ = _
    rw [splitN_dots _ _ (by simp)]; rfl
  · rw [flat_length, wt_append, wt_append, wt_ones h, wt_dots]; simp [wt]; omega
theorem up_clean {ns : List (List UInt8)} (h : Ones ns) (hl : ns.length ≤ 20) : cleanF (flat ns ++ flat (dots ns.length) ++ [47, 120]) = some [47, 120] := by
  have e : flat ns ++ flat (dots ns.length) ++ [47, 120] = flat (ns ++ dots ns.length ++ [[120]]) := by rw [flat_append, flat_append]; rfl
  unfold cleanF
  rw [e, split_parts _ (by simp) (up_noslash h _ _ (by decide)) ?_, splitN_append, splitN_append, splitN_all ns [] (ones_names h)]
  · show ((splitN ([] ++ ns) (dots ns.length)).bind _).bind _ = _
    rw [splitN_dots _ _ (by simp)]; decide +kernel
  · rw [flat_length, wt_append, wt_append, wt_ones h, wt_dots]; simp [wt]; omega
theorem ones_letter (c : UInt8) (h1 : 97 ≤ c.toNat) (h2 : c.toNat ≤ 122) : nameB [c] = true := by
  have e1 : ([c] == [46]) = false := by
    rw [beq_eq_false_iff_ne]; intro e; cases e; exact absurd h1 (by decide)
  have e2 : ([c] == [46, 46]) = false := by
    rw [beq_eq_false_iff_ne]; intro e; cases e
  rw [nameB_mid _ (by simp) (by simp) e1 e2]
  simp [okC, okR]; omega
/-! ### A name with one more letter -/
theorem name_more {s : List UInt8} (h : nameB s = true) : nameB (s ++ [97]) = decide (s.length < 12) := by
  have hl := name_len s h
  have hall : s.all okC = true := by
    simp only [nameB, Bool.and_eq_true] at h; exact h.2
  have e1 : (s ++ [97] == [46]) = false := by
    rw [beq_eq_false_iff_ne]; intro e
    have := congrArg List.getLast? e
    simp at this
  have e2 : (s ++ [97] == [46, 46]) = false := by
    rw [beq_eq_false_iff_ne]; intro e
    have := congrArg List.getLast? e
    simp at this
  by_cases h12 : s.length < 12
  · rw [nameB_mid _ (by simp) (by simp; omega) e1 e2, List.all_append, hall, decide_eq_true h12]
    decide
  · rw [nameB_long _ (by simp; omega), decide_eq_false h12]
theorem below_joined {p s j : List UInt8} {ns : List (List UInt8)} (h : splitF p = some ns) (hj : joinF (ns ++ [s]) = some j) : belowB j p = true :=
  below_mk (split_join hj) h (by simp) (by simp)
end Go.Proofs.Ytihgiemgcmpmmaa.Pa
