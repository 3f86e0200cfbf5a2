/-
  
-/
import Derived.WalkKit
import Derived.ProofKit
import Derived.Test.YtfmghbennahlfaaGreatProg
import Derived.OpenShut
import Derived.ShutString
import Derived.WalkSpells
import Derived.WalkLawsBesides
import Derived.Deep.QuietTactic
import Derived.BigQuiet
import Derived.Lib.OthersKept
import Derived.Lib.BufferWrite
import Derived.Lib.UnsafeStr
import Derived.Laws.MakeOwn
import Derived.Deep.LoopGhost
import Derived.Lib.Strings
import Derived.Lib.IndexBytes
namespace Go.Proofs.YtfmghbennahlfaaGreat.Pa
set_option linter.unusedVariables false
set_option linter.unusedSimpArgs false
open Go.RowKit
def okR (r : Int) : Bool := decide (97 ≤ r ∧ r ≤ 122) || decide (48 ≤ r ∧ r ≤ 57) || decide (r = 46) || decide (r = 45) || decide (r = 95)
def okC (c : UInt8) : Bool := okR (c.toNat : Int)
theorem okR_high (r : Int) (h : 128 ≤ r) : okR r = false := by simp [okR]; omega
def nameB (l : List UInt8) : Bool := decide (1 ≤ l.length) && decide (l.length ≤ 12) && !(l == [46]) && !(l == [46, 46]) && l.all okC
theorem nameB_short (l : List UInt8) (h : l.length < 1) : nameB l = false := by simp [nameB]; omega
theorem nameB_long (l : List UInt8) (h : 12 < l.length) : nameB l = false := by simp [nameB]; omega
theorem nameB_dot : nameB [46] = false := by decide
theorem nameB_dots : nameB [46, 46] = false := by decide
theorem nameB_mid (l : List UInt8) (h1 : 1 ≤ l.length) (h2 : l.length ≤ 12) (h3 : (l == [46]) = false) (h4 : (l == [46, 46]) = false) : nameB l = l.all okC := by
 simp [nameB, h1, h2, h3, h4]
theorem all_take_succ (l : List UInt8) (j : Nat) (h : j < l.length) (ha : (l.take j).all okC = true) (hc : okC l[j] = true) : (l.take (j + 1)).all okC = true := by
 rw [List.take_succ_eq_append_getElem h, List.all_append, ha, List.all_cons, List.all_nil, hc]; rfl
theorem all_bad (l : List UInt8) (j : Nat) (h : j < l.length) (hc : okC l[j] = false) : l.all okC = false := by
 rw [Bool.eq_false_iff]
 intro ha
 rw [List.all_eq_true] at ha
 have := ha l[j] (List.getElem_mem h)
 rw [hc] at this; exact Bool.noConfusion this
/-! ### What stands between the slashes -/
def piecesF : List UInt8 → List (List UInt8)
 | [] => [[]]
 | c :: r => if c = 47 then [] :: piecesF r else (match piecesF r with | p :: ps => (c :: p) :: ps | [] => [[c]])
theorem pieces_none : ∀ (l : List UInt8), 47 ∉ l → piecesF l = [l]
 | [], _ => rfl
 | c :: r, h => by
   have hc : ¬ c = 47 := fun e => h (by rw [e]; exact List.mem_cons_self)
   have hr : 47 ∉ r := fun e => h (List.mem_cons_of_mem _ e)
   simp only [piecesF, if_neg hc, pieces_none r hr]
theorem pieces_cut : ∀ (a b : List UInt8), 47 ∉ a → piecesF (a ++ 47 :: b) = a :: piecesF b
 | [], b, _ => by simp [piecesF]
 | c :: r, b, h => by
   have hc : ¬ c = 47 := fun e => h (by rw [e]; exact List.mem_cons_self)
   have hr : 47 ∉ r := fun e => h (List.mem_cons_of_mem _ e)
   simp only [List.cons_append, piecesF, if_neg hc, pieces_cut r b hr]
theorem pieces_length : ∀ (l : List UInt8), (piecesF l).length ≤ l.length + 1
 | [] => by simp [piecesF]
 | c :: r => by
   have := pieces_length r
   unfold piecesF
   split
   · simp; omega
   · split
     · rename_i p ps h; rw [h] at this; simp at this ⊢; omega
     · simp
theorem pieces_mem : ∀ (l p : List UInt8), p ∈ piecesF l → p.length ≤ l.length
 | [], p, h => by simp [piecesF] at h; simp [h]
 | c :: r, p, h => by
   unfold piecesF at h
   split at h
   · rcases List.mem_cons.1 h with rfl | h
     · simp
     · have := pieces_mem r p h; simp; omega
   · have ih := pieces_mem r
     split at h
     · rename_i q qs hq
       rw [hq] at ih
       rcases List.mem_cons.1 h with rfl | h
       · have := ih q List.mem_cons_self; simp; omega
       · have := ih p (List.mem_cons_of_mem _ h); simp; omega
     · simp at h; simp [h]
def Found (l : List UInt8) (start j : Nat) (done : List (List UInt8)) : Prop :=
 start ≤ j ∧ done ++ piecesF (l.drop start) = piecesF l ∧ 47 ∉ (l.drop start).take (j - start)
theorem found_zero (l : List UInt8) : Found l 0 0 [] := ⟨Nat.le_refl _, by simp, by simp⟩
theorem found_on {l : List UInt8} {start j : Nat} {done : List (List UInt8)} (h : Found l start j done) (n : Nat) (hn : ∀ k, j ≤ k → k < n → ∀ hk : k < l.length, l[k] ≠ 47) (hjn : j ≤ n) : Found l start n done := by
 obtain ⟨h1, h2, h3⟩ := h
 refine ⟨by omega, h2, fun hm => ?_⟩
 obtain ⟨i, hi, he⟩ := List.getElem_of_mem hm
 rw [List.length_take, List.length_drop] at hi
 rw [List.getElem_take, List.getElem_drop] at he
 by_cases hlt : start + i < j
 · apply h3
   rw [List.mem_take_iff_getElem]
   exact ⟨i, by rw [List.length_drop]; omega, by rw [List.getElem_drop]; exact he⟩
 · exact hn (start + i) (by omega) (by omega) (by omega) he
theorem found_cut {l : List UInt8} {start j : Nat} {done : List (List UInt8)} (h : Found l start j done) (hj : j < l.length) (hc : l[j] = 47) : Found l (j + 1) (j + 1) (done ++ [(l.drop start).take (j - start)]) := by
 obtain ⟨h1, h2, h3⟩ := h
 refine ⟨Nat.le_refl _, ?_, by simp⟩
 have e : l.drop start = (l.drop start).take (j - start) ++ 47 :: l.drop (j + 1) := by
   have e1 := (List.take_append_drop (j - start) (l.drop start)).symm
   rw [List.drop_drop, show start + (j - start) = j from by omega, List.drop_eq_getElem_cons hj, hc] at e1
   exact e1
 rw [List.append_assoc, List.singleton_append, ← pieces_cut _ _ h3, ← e, h2]
theorem found_end {l : List UInt8} {start j : Nat} {done : List (List UInt8)} (h : Found l start j done) (hj : l.length ≤ j) : piecesF l = done ++ [l.drop start] := by
 obtain ⟨h1, h2, h3⟩ := h
 rw [List.take_of_length_le (by rw [List.length_drop]; omega)] at h3
 rw [← h2, pieces_none _ h3]
theorem found_length {l : List UInt8} {start j : Nat} {done : List (List UInt8)} (h : Found l start j done) : done.length ≤ l.length := by
 obtain ⟨h1, h2, h3⟩ := h
 have h4 := pieces_length l
 rw [← h2, List.length_append] at h4
 have h5 : 1 ≤ (piecesF (l.drop start)).length := by
   cases l.drop start with
   | nil => simp [piecesF]
   | cons c r => unfold piecesF; split <;> (try split) <;> simp
 omega
theorem decode_skip (s : ByteArray) (pos : Nat) (h : pos < s.size) (ha : 128 ≤ (s[pos]'h).toNat) : ∀ k, k < (Utf8.decode s pos).2 → pos + k < s.size ∧ 128 ≤ (s.get! (pos + k)).toNat := by
 have hn : ¬ (s[pos]'h).toNat < 128 := by omega
 have h0 : pos + 0 < s.size ∧ 128 ≤ (s.get! (pos + 0)).toNat := ⟨by omega, by rw [get_at s pos h]; exact ha⟩
 have hcont : ∀ k, ((decide (pos + k < s.size) && (s.get! (pos + k)).toNat / 64 == 2) = true) → pos + k < s.size ∧ 128 ≤ (s.get! (pos + k)).toNat := by
   intro k hk
   simp at hk
   omega
 intro k hk
 simp only [Utf8.decode, get_at s pos h, hn, if_false] at hk
 have one : ∀ k, k < 1 → pos + k < s.size ∧ 128 ≤ (s.get! (pos + k)).toNat := fun k hk => by
   obtain rfl : k = 0 := by omega
   exact h0
 split at hk
 · rename_i h2
   rw [Bool.and_eq_true] at h2
   have c1 := hcont 1 h2.2
   split at hk
   · rcases k with _ | _ | k
     · exact h0
     · exact c1
     · exact absurd hk (by simp)
   · exact one k hk
 · split at hk
   · rename_i h2
     rw [Bool.and_eq_true, Bool.and_eq_true] at h2
     have c1 := hcont 1 h2.1.2
     have c2 := hcont 2 h2.2
     split at hk
     · rcases k with _ | _ | _ | k
       · exact h0
       · exact c1
       · exact c2
       · exact absurd hk (by simp)
     · exact one k hk
   · split at hk
     · rename_i h2
       rw [Bool.and_eq_true, Bool.and_eq_true, Bool.and_eq_true] at h2
       have c1 := hcont 1 h2.1.1.2
       have c2 := hcont 2 h2.1.2
       have c3 := hcont 3 h2.2
       split at hk
       · rcases k with _ | _ | _ | _ | k
         · exact h0
         · exact c1
         · exact c2
         · exact c3
         · exact absurd hk (by simp)
       · exact one k hk
     · exact one k hk
/-! ### Split -/
def stepN (acc : List (List UInt8)) (p : List UInt8) : Option (List (List UInt8)) :=
 if p = [] ∨ p = [46] then some acc else if p = [46, 46] then some acc.dropLast else if nameB p = true then some (acc ++ [p]) else none
def splitN : List (List UInt8) → List (List UInt8) → Option (List (List UInt8))
 | acc, [] => some acc
 | acc, p :: ps => (stepN acc p).bind fun a => splitN a ps
def splitF (l : List UInt8) : Option (List (List UInt8)) :=
 if l.length ≤ 120 ∧ l.head? = some 47 then splitN [] (piecesF l) else none
theorem splitN_at (acc P : List (List UInt8)) (k : Nat) (h : k < P.length) : splitN acc (P.drop k) = (stepN acc P[k]).bind fun a => splitN a (P.drop (k + 1)) := by
 rw [List.drop_eq_getElem_cons h]; rfl
theorem step_empty (acc : List (List UInt8)) : stepN acc [] = some acc := by simp [stepN]
theorem step_dot (acc : List (List UInt8)) : stepN acc [46] = some acc := by simp [stepN]
theorem step_dots (acc : List (List UInt8)) : stepN acc [46, 46] = some acc.dropLast := by simp [stepN]
theorem step_name (acc : List (List UInt8)) (p : List UInt8) (h : nameB p = true) : stepN acc p = some (acc ++ [p]) := by
 have h0 : p ≠ [] := fun e => by rw [e] at h; exact absurd h (by decide)
 have h1 : p ≠ [46] := fun e => by rw [e] at h; exact absurd h (by decide)
 have h2 : p ≠ [46, 46] := fun e => by rw [e] at h; exact absurd h (by decide)
 simp [stepN, h0, h1, h2, h]
theorem step_bad (acc : List (List UInt8)) (p : List UInt8) (h0 : p ≠ []) (h1 : p ≠ [46]) (h2 : p ≠ [46, 46]) (h : nameB p = false) : stepN acc p = none := by
 simp [stepN, h0, h1, h2, h]
theorem name_len (p : List UInt8) (h : nameB p = true) : 1 ≤ p.length ∧ p.length ≤ 12 := by
 simp [nameB] at h
 omega
/-! ### Join -/
def joinG : List UInt8 → List (List UInt8) → Option (List UInt8)
 | text, [] => some text
 | text, n :: ns => if nameB n = true ∧ text.length + 1 + n.length ≤ 120 then joinG (text ++ 47 :: n) ns else none
def joinF (ns : List (List UInt8)) : Option (List UInt8) := if ns = [] then some [47] else joinG [] ns
theorem joinG_at (text : List UInt8) (P : List (List UInt8)) (k : Nat) (h : k < P.length) : joinG text (P.drop k) = if nameB P[k] = true ∧ text.length + 1 + P[k].length ≤ 120 then joinG (text ++ 47 :: P[k]) (P.drop (k + 1)) else none := by
 rw [List.drop_eq_getElem_cons h]; rfl
/-! ### What Split answers are names -/
theorem step_names {acc ns : List (List UInt8)} {p : List UInt8} (h : stepN acc p = some ns) (ha : ∀ q ∈ acc, nameB q = true) : ∀ q ∈ ns, nameB q = true := by
 unfold stepN at h
 split at h
 · cases h; exact ha
 · split at h
   · cases h; exact fun q hq => ha q (by rw [List.dropLast_eq_take] at hq; exact List.mem_of_mem_take hq)
   · split at h
     · rename_i hn
       cases h
       intro q hq
       rcases List.mem_append.1 hq with h1 | h1
       · exact ha q h1
       · rw [List.mem_singleton.1 h1]; exact hn
     · cases h
theorem splitN_names : ∀ (P acc ns : List (List UInt8)), splitN acc P = some ns → (∀ q ∈ acc, nameB q = true) → ∀ q ∈ ns, nameB q = true
 | [], acc, ns, h, ha => by cases h; exact ha
 | p :: ps, acc, ns, h, ha => by
   unfold splitN at h
   cases hs : stepN acc p with
   | none => rw [hs] at h; cases h
   | some a => rw [hs] at h; exact splitN_names ps a ns h (step_names hs ha)
theorem split_names {l : List UInt8} {ns : List (List UInt8)} (h : splitF l = some ns) : ∀ q ∈ ns, nameB q = true := by
 unfold splitF at h
 split at h
 · exact splitN_names _ _ _ h (by simp)
 · cases h
def cleanF (l : List UInt8) : Option (List UInt8) := (splitF l).bind joinF
def someF (l : List UInt8) : Option (List (List UInt8)) := (splitF l).bind fun ns => if ns = [] then none else some ns
def dirF (l : List UInt8) : Option (List UInt8) := (someF l).bind fun ns => joinF ns.dropLast
def baseF (l : List UInt8) : Option (List UInt8) := (someF l).bind fun ns => ns.getLast?
def belowB (l m : List UInt8) : Bool := match splitF l, splitF m with
 | some a, some b => decide (b.length < a.length) && decide (a.take b.length = b)
 | _, _ => false
/-! ### Below -/
theorem below_some {l m : List UInt8} (h : belowB l m = true) : ∃ a b, splitF l = some a ∧ splitF m = some b ∧ b.length < a.length ∧ a.take b.length = b := by
 unfold belowB at h
 split at h
 · rename_i a b ha hb
   rw [Bool.and_eq_true, decide_eq_true_eq, decide_eq_true_eq] at h
   exact ⟨a, b, ha, hb, h.1, h.2⟩
 · cases h
theorem below_mk {l m : List UInt8} {a b : List (List UInt8)} (ha : splitF l = some a) (hb : splitF m = some b) (h1 : b.length < a.length) (h2 : a.take b.length = b) : belowB l m = true := by
 unfold belowB; rw [ha, hb]; simp [h1, h2]
theorem below_anti {l m : List UInt8} (h : belowB l m = true) : belowB m l = false := by
 cases k : belowB m l with
 | false => rfl
 | true =>
   obtain ⟨a, b, ha, hb, h1, h2⟩ := below_some h
   obtain ⟨b', a', hb', ha', k1, k2⟩ := below_some k
   rw [hb] at hb'; cases hb'
   rw [ha] at ha'; cases ha'
   omega
/-! ### Join and Split, both ways -/
def wt : List (List UInt8) → Nat
 | [] => 0
 | n :: ns => n.length + 1 + wt ns
theorem wt_append : ∀ (a b : List (List UInt8)), wt (a ++ b) = wt a + wt b
 | [], b => by simp [wt]
 | n :: a, b => by simp [wt, wt_append a b]; omega
theorem wt_dropLast : ∀ (a : List (List UInt8)), wt a.dropLast ≤ wt a
 | [] => by simp [wt]
 | [n] => by simp [wt]
 | n :: m :: a => by
   have := wt_dropLast (m :: a)
   simp only [List.dropLast_cons_cons, wt] at this ⊢
   omega
theorem pieces_wt : ∀ (l : List UInt8), wt (piecesF l) = l.length + 1
 | [] => by simp [piecesF, wt]
 | c :: r => by
   have ih := pieces_wt r
   unfold piecesF
   split
   · simp [wt, ih]; omega
   · split
     · rename_i p ps h
       rw [h] at ih
       simp [wt] at ih ⊢; omega
     · rename_i h
       rw [h] at ih; simp [wt] at ih
theorem step_wt {acc ns : List (List UInt8)} {p : List UInt8} (h : stepN acc p = some ns) : wt ns ≤ wt acc + p.length + 1 := by
 unfold stepN at h
 split at h
 · cases h; omega
 · split at h
   · cases h; have := wt_dropLast acc; omega
   · split at h
     · cases h; rw [wt_append]; simp [wt]; omega
     · cases h
theorem splitN_wt : ∀ (P acc ns : List (List UInt8)), splitN acc P = some ns → wt ns ≤ wt acc + wt P
 | [], acc, ns, h => by cases h; simp [wt]
 | p :: ps, acc, ns, h => by
   unfold splitN at h
   cases hs : stepN acc p with
   | none => rw [hs] at h; cases h
   | some a =>
     rw [hs] at h
     have h1 := splitN_wt ps a ns h
     have h2 := step_wt hs
     simp only [wt]; omega
theorem split_slashed {l : List UInt8} {ns : List (List UInt8)} (h : splitF l = some ns) : ∃ r, l = 47 :: r ∧ l.length ≤ 120 ∧ splitN [] (piecesF r) = some ns := by
 unfold splitF at h
 split at h
 · rename_i hc
   cases l with
   | nil => simp at hc
   | cons c r =>
     simp at hc
     obtain ⟨h1, rfl⟩ := hc
     refine ⟨r, rfl, by simp; omega, ?_⟩
     have e : piecesF (47 :: r) = [] :: piecesF r := by simp [piecesF]
     rw [e] at h
     exact h
 · cases h
theorem split_wt {l : List UInt8} {ns : List (List UInt8)} (h : splitF l = some ns) : wt ns ≤ l.length := by
 obtain ⟨r, rfl, _, h1⟩ := split_slashed h
 have := splitN_wt _ _ _ h1
 rw [pieces_wt] at this
 simp [wt] at this ⊢; omega
def flat : List (List UInt8) → List UInt8
 | [] => []
 | n :: ns => 47 :: (n ++ flat ns)
theorem flat_length : ∀ (ns : List (List UInt8)), (flat ns).length = wt ns
 | [] => rfl
 | n :: ns => by simp [flat, wt, flat_length ns]; omega
theorem joinG_ok : ∀ (ns : List (List UInt8)) (text : List UInt8), (∀ n ∈ ns, nameB n = true) → text.length + wt ns ≤ 120 → joinG text ns = some (text ++ flat ns)
 | [], text, _, _ => by simp [joinG, flat]
 | n :: ns, text, hn, hw => by
   simp only [wt] at hw
   unfold joinG
   rw [if_pos ⟨hn n List.mem_cons_self, by omega⟩, joinG_ok ns _ (fun m hm => hn m (List.mem_cons_of_mem _ hm)) (by simp; omega)]
   simp [flat]
theorem joinG_inv : ∀ (ns : List (List UInt8)) (text t : List UInt8), joinG text ns = some t → t = text ++ flat ns ∧ (∀ n ∈ ns, nameB n = true) ∧ (ns ≠ [] → t.length ≤ 120)
 | [], text, t, h => by cases h; simp [flat]
 | n :: ns, text, t, h => by
   unfold joinG at h
   split at h
   · rename_i hc
     obtain ⟨h1, h2, h3⟩ := joinG_inv ns _ _ h
     refine ⟨by rw [h1]; simp [flat], ?_, fun _ => ?_⟩
     · intro m hm
       rcases List.mem_cons.1 hm with rfl | hm
       · exact hc.1
       · exact h2 m hm
     · cases ns with
       | nil => rw [h1]; simp [flat]; omega
       | cons m ms => exact h3 (by simp)
   · cases h
theorem name_noslash {n : List UInt8} (h : nameB n = true) : 47 ∉ n := by
 intro hm
 simp only [nameB, Bool.and_eq_true, List.all_eq_true] at h
 exact absurd (h.2 47 hm) (by decide)
theorem pieces_flat : ∀ (ns : List (List UInt8)) (n : List UInt8), (∀ m ∈ ns, nameB m = true) → 47 ∉ n → piecesF (n ++ flat ns) = n :: ns
 | [], n, _, hn => by simp only [flat, List.append_nil]; exact pieces_none n hn
 | m :: ms, n, hm, hn => by
   simp only [flat]
   rw [pieces_cut _ _ hn, pieces_flat ms m (fun k hk => hm k (List.mem_cons_of_mem _ hk)) (name_noslash (hm m List.mem_cons_self))]
theorem splitN_all : ∀ (ns acc : List (List UInt8)), (∀ m ∈ ns, nameB m = true) → splitN acc ns = some (acc ++ ns)
 | [], acc, _ => by simp [splitN]
 | n :: ns, acc, h => by
   unfold splitN
   rw [step_name acc n (h n List.mem_cons_self)]
   show splitN (acc ++ [n]) ns = _
   rw [splitN_all ns _ (fun k hk => h k (List.mem_cons_of_mem _ hk))]; simp
theorem split_flat (ns : List (List UInt8)) (hne : ns ≠ []) (hn : ∀ m ∈ ns, nameB m = true) (hl : (flat ns).length ≤ 120) : splitF (flat ns) = some ns := by
 cases ns with
 | nil => exact absurd rfl hne
 | cons n ns =>
   unfold splitF
   rw [if_pos ⟨hl, rfl⟩]
   have e : piecesF (flat (n :: ns)) = [] :: n :: ns := by
     simp only [flat]
     have h1 : piecesF (47 :: (n ++ flat ns)) = [] :: piecesF (n ++ flat ns) := by simp [piecesF]
     rw [h1, pieces_flat ns n (fun k hk => hn k (List.mem_cons_of_mem _ hk)) (name_noslash (hn n List.mem_cons_self))]
   rw [e]
   show splitN [] (n :: ns) = _
   rw [splitN_all _ _ hn]; simp
theorem split_join {ns : List (List UInt8)} {t : List UInt8} (h : joinF ns = some t) : splitF t = some ns := by
 unfold joinF at h
 split at h
 · rename_i e; cases h; subst e; decide +kernel
 · rename_i hne
   obtain ⟨h1, h2, h3⟩ := joinG_inv ns _ _ h
   rw [List.nil_append] at h1
   subst h1
   exact split_flat ns hne h2 (h3 hne)
theorem join_split {l : List UInt8} {ns : List (List UInt8)} (h : splitF l = some ns) : ∃ t, joinF ns = some t ∧ t.length ≤ l.length := by
 obtain ⟨r, hr, hl, _⟩ := split_slashed h
 have hw := split_wt h
 unfold joinF
 by_cases e : ns = []
 · rw [if_pos e]; exact ⟨[47], rfl, by rw [hr]; simp⟩
 · rw [if_neg e, joinG_ok ns [] (split_names h) (by simp; omega)]
   exact ⟨_, rfl, by rw [List.nil_append, flat_length]; exact hw⟩
theorem join_names {ns : List (List UInt8)} (hn : ∀ m ∈ ns, nameB m = true) (hw : wt ns ≤ 120) : ∃ t, joinF ns = some t := by
 unfold joinF
 by_cases e : ns = []
 · rw [if_pos e]; exact ⟨_, rfl⟩
 · rw [if_neg e, joinG_ok ns [] hn (by simp; omega)]; exact ⟨_, rfl⟩
theorem parts {l : List UInt8} {ns : List (List UInt8)} (h : splitF l = some ns) (hne : ns ≠ []) :
   ∃ d b c, dirF l = some d ∧ baseF l = some b ∧ splitF d = some ns.dropLast ∧ ns.dropLast ++ [b] = ns ∧ joinF ns = some c ∧ cleanF l = some c ∧ belowB l d = true ∧ belowB d l = false ∧ d.length ≤ 120 ∧ b.length ≤ 12 ∧ ns.dropLast.length ≤ 120 := by
 obtain ⟨r, hr, hl, _⟩ := split_slashed h
 have hw := split_wt h
 have hnm := split_names h
 have hdn : ∀ m ∈ ns.dropLast, nameB m = true := fun m hm => hnm m (by rw [List.dropLast_eq_take] at hm; exact List.mem_of_mem_take hm)
 have hdw := wt_dropLast ns
 obtain ⟨d, hd⟩ := join_names hdn (by omega)
 obtain ⟨c, hc, _⟩ := join_split h
 have hs : someF l = some ns := by unfold someF; rw [h]; exact if_neg hne
 have hsd := split_join hd
 have hlast := List.dropLast_concat_getLast hne
 have hlen : ns.dropLast.length < ns.length := by
   rw [List.length_dropLast]
   cases ns with
   | nil => exact absurd rfl hne
   | cons a b => simp
 have hwl : ∀ a : List (List UInt8), a.length ≤ wt a := fun a => by
   induction a with
   | nil => simp
   | cons x a ih => simp [wt]; omega
 have hb : belowB l d = true := below_mk h hsd hlen (by rw [List.length_dropLast, List.dropLast_eq_take])
 refine ⟨d, ns.getLast hne, c, by unfold dirF; rw [hs]; exact hd, by unfold baseF; rw [hs]; exact List.getLast?_eq_some_getLast hne, hsd, hlast, hc, by unfold cleanF; rw [h]; exact hc, hb, below_anti hb, ?_, (name_len _ (hnm _ (List.getLast_mem hne))).2, ?_⟩
 · obtain ⟨_, _, h9, _⟩ := split_slashed hsd
   exact h9
 · have := hwl ns.dropLast; omega
/-! ### Down and up -/
/-! ### A name with one more letter -/
end Go.Proofs.YtfmghbennahlfaaGreat.Pa
namespace Go.Proofs.YtfmghbennahlfaaGreat
open Go.RowKit Go.ChangeShapes Go.WideShapes Go.ChangeAt
set_option linter.unusedVariables false
set_option linter.unusedSimpArgs false
theorem ret_bool' {a b : Bool} (h : a = b) : Ending.returned (.bool a) = .returned (.bool b) := by rw [h]
theorem hid' {p : Prop} (h : p) : Hid p := h
set_option maxHeartbeats 1000000 in
theorem inName_c (r : Int) (w : World) :
   Calls Tryz.prog 180 #[.int .i32 r] w fun e w' => e = .returned (.bool (Pa.okR r)) ∧ w' = w := by
 go_enter Tryz.func180, Tryz.ntmps180
 go_wp2
 all_goals go_ret
 all_goals exact ⟨ret_bool' (by first | rfl | (rw [Bool.eq_iff_iff]; simp [Pa.okR]; done) | (rw [Bool.eq_iff_iff]; simp [Pa.okR]; omega)), rfl⟩
set_option maxHeartbeats 1000000 in
theorem name_c (s : ByteArray) (w : World) (hs : s.size ≤ maxLen) :
   Calls Tryz.prog 114 #[.string s] w fun e w' => e = .returned (.bool (Pa.nameB s.data.toList)) ∧ Below w.heap.size w w' := by
 have hlen : s.data.toList.length = s.size := rfl
 unfold maxLen at hs
 by_cases h1 : s.size < 1
 · have N := hid' (Pa.nameB_short s.data.toList (by omega))
   go_enter Tryz.func114, Tryz.ntmps114
   go_wp2
   go_ret
   exact ⟨ret_bool' N.out.symm, Below.refl _ _⟩
 · by_cases h2 : 12 < s.size
   · have N := hid' (Pa.nameB_long s.data.toList (by omega))
     go_enter Tryz.func114, Tryz.ntmps114
     go_wp2
     go_ret
     exact ⟨ret_bool' N.out.symm, Below.refl _ _⟩
   · cases h3 : (s.toList == [46]) with
     | true =>
       have N : Hid (Pa.nameB s.data.toList = false) := by
         have : s.data.toList = [46] := by rw [← Lib.toList_data]; exact beq_iff_eq.1 h3
         show _ = _
         rw [this]; exact Pa.nameB_dot
       go_enter Tryz.func114, Tryz.ntmps114
       go_wp2
       go_ret
       exact ⟨ret_bool' N.out.symm, Below.refl _ _⟩
     | false =>
       cases h4 : (s.toList == [46, 46]) with
       | true =>
         have N : Hid (Pa.nameB s.data.toList = false) := by
           have : s.data.toList = [46, 46] := by rw [← Lib.toList_data]; exact beq_iff_eq.1 h4
           show _ = _
           rw [this]; exact Pa.nameB_dots
         go_enter Tryz.func114, Tryz.ntmps114
         go_wp2
         go_ret
         exact ⟨ret_bool' N.out.symm, Below.refl _ _⟩
       | false =>
         have N : Hid (Pa.nameB s.data.toList = s.data.toList.all Pa.okC) := Pa.nameB_mid _ (by omega) (by omega) (by rw [← Lib.toList_data]; exact h3) (by rw [← Lib.toList_data]; exact h4)
         have g1 : decide ((s.size : Int) < 1) = false := by simp; omega
         have g2 : decide ((12 : Int) < (s.size : Int)) = false := by simp; omega
         have HL := hid' hlen
         clear hlen
         go_enter Tryz.func114, Tryz.ntmps114
         go_wp2
         go_loopw [4] (fun r wr => ∃ j : Nat, wr = w.iter s j ∧ j ≤ s.size ∧ Hid ((s.data.toList.take j).all Pa.okC = true)) (fun _ wr => s.size - wr.iterPos w.heap.size)
         case atStart => exact ⟨0, rfl, by omega, by simp [Hid]⟩
         case round =>
           obtain ⟨j, rfl, hj, HA⟩ := hrel
           have hpos := World.iterPos_iter w s j
           by_cases hp : j < s.size
           · by_cases ha : (s[j]'hp).toNat < 128
             · have hnx := fun ty => run_next_ascii (P := Tryz.prog) w s j ty hp ha
               cases hc : Pa.okR ((s[j]'hp).toNat : Int) with
               | true =>
                 have HB : Hid ((s.data.toList.take (j + 1)).all Pa.okC = true) := Pa.all_take_succ s.data.toList j (by have := HL.out; omega) HA.out (by unfold Pa.okC; exact hc)
                 go_wp2_with (go_at_call 180; refine (inName_c _ _).mono ?_; rintro e w' ⟨rfl, rfl⟩)
                 go_roundw
                 case rel => exact ⟨j + 1, rfl, by omega, HB⟩
                 case measure => rw [World.iterPos_iter, World.iterPos_iter]; omega
               | false =>
                 have HB : Hid (s.data.toList.all Pa.okC = false) := Pa.all_bad s.data.toList j (by have := HL.out; omega) (by unfold Pa.okC; exact hc)
                 go_wp2_with (go_at_call 180; refine (inName_c _ _).mono ?_; rintro e w' ⟨rfl, rfl⟩)
                 go_ret
                 exact ⟨ret_bool' (by rw [N.out, HB.out]), (Below.refl _ _).alloc (Nat.le_refl _) _⟩
             · have hnx := fun ty => run_next_any (P := Tryz.prog) w s j ty hp
               have hd := decode_high s j hp (by omega)
               have hc : Pa.okR ((Utf8.decode s j).1 : Int) = false := Pa.okR_high _ (by omega)
               have HB : Hid (s.data.toList.all Pa.okC = false) := Pa.all_bad s.data.toList j (by have := HL.out; omega) (by unfold Pa.okC; exact Pa.okR_high _ (by have h' : (s.data.toList[j]'(by have := HL.out; omega)) = s[j]'hp := rfl; rw [h']; omega))
               go_wp2_with (go_at_call 180; refine (inName_c _ _).mono ?_; rintro e w' ⟨rfl, rfl⟩)
               go_ret
               exact ⟨ret_bool' (by rw [N.out, HB.out]), (Below.refl _ _).alloc (Nat.le_refl _) _⟩
           · have hnx := fun ty => run_next_end (P := Tryz.prog) w s j ty hp
             go_wp2
             go_ret
             exact ⟨ret_bool' (by rw [N.out]; have := HA.out; rw [List.take_of_length_le (by have := HL.out; omega)] at this; exact this.symm), (Below.refl _ _).alloc (Nat.le_refl _) _⟩
end Go.Proofs.YtfmghbennahlfaaGreat
