/-
  What is within quotes, as the program and as the document say it: plain facts.
-/
import Derived.Test.YthoaiapfjbgfhaaDoorQuBe
namespace Go.Proofs.YthoaiapfjbgfhaaDoor
open Go.RowKit Go.ChangeShapes Go.WideShapes Go.ChangeAt
set_option linter.unusedVariables false
set_option linter.unusedSimpArgs false
set_option maxRecDepth 100000
def docP : Nat → List UInt8 → Option (List UInt8)
 | 0, r => if r = [] then some [] else none
 | _ + 1, [] => some []
 | n + 1, a :: t => if a = 92 then (match t with
     | x :: y :: t' => if hexI x < 0 ∨ hexI y < 0 then none else (docP n t').map (UInt8.ofNat ((hexI x).toNat * 16 + (hexI y).toNat) :: ·)
     | _ => none)
   else (docP n t).map (a :: ·)
theorem docP_plain (n : Nat) {a : UInt8} (t : List UInt8) (h : a ≠ 92) : docP (n + 1) (a :: t) = (docP n t).map (a :: ·) := by
 conv => lhs; unfold docP
 rw [if_neg h]
theorem docP_esc (n : Nat) (x y : UInt8) (t : List UInt8) : docP (n + 1) (92 :: x :: y :: t) = if hexI x < 0 ∨ hexI y < 0 then none else (docP n t).map (UInt8.ofNat ((hexI x).toNat * 16 + (hexI y).toNat) :: ·) := rfl
theorem docP_nil (n : Nat) : docP n [] = some [] := by cases n <;> rfl
def keepQ (l : List UInt8) : Option (List UInt8) → Option (List UInt8)
 | none => none
 | some o => if quoteL o = l then some o else none
theorem keepQ_some (l o : List UInt8) : keepQ l (some o) = if quoteL o = l then some o else none := rfl
def docL (l : List UInt8) : Option (List UInt8) := if l.length < 2 ∨ l.getD 0 0 ≠ 34 ∨ l.getD (l.length - 1) 0 ≠ 34 then none else keepQ l (docP l.length ((l.drop 1).take (l.length - 2)))
theorem hex_back (c : UInt8) (h : ¬ hexI c < 0) : hx (hexI c).toNat = c := by
 have key : ∀ (l : List UInt8) (c : UInt8), ¬ Lib.indexByte l c < 0 → l.getD (Lib.indexByte l c).toNat 0 = c := fun l => by
   induction l with
   | nil => intro c h; simp [Lib.indexByte] at h
   | cons b t ih =>
     intro c h
     unfold Lib.indexByte at h ⊢
     split
     · rename_i e
       simp at e
       simp [e]
     · rename_i e
       rw [if_neg e] at h
       split
       · rename_i e2
         rw [if_pos e2] at h
         exact absurd h (by omega)
       · rename_i e2
         rw [if_neg e2] at h
         have hge := Lib.indexByte_ge t c
         have hne : Lib.indexByte t c ≠ -1 := by simpa using e2
         have := ih c (by omega)
         have e3 : (Lib.indexByte t c + 1).toNat = (Lib.indexByte t c).toNat + 1 := by omega
         rw [e3]
         simpa using this
 exact key hexL c h
theorem qB_esc {x y : UInt8} (hx0 : ¬ hexI x < 0) (hy0 : ¬ hexI y < 0) (h : plnI (UInt8.ofNat ((hexI x).toNat * 16 + (hexI y).toNat)).toNat = false) : qB (UInt8.ofNat ((hexI x).toNat * 16 + (hexI y).toNat)) = [92, x, y] := by
 have h1 := hexI_lt x
 have h2 := hexI_lt y
 have hn : (UInt8.ofNat ((hexI x).toNat * 16 + (hexI y).toNat)).toNat = (hexI x).toNat * 16 + (hexI y).toNat := by simp; omega
 unfold qB
 rw [h, hn]
 have e1 : ((hexI x).toNat * 16 + (hexI y).toNat) / 16 = (hexI x).toNat := by omega
 have e2 : ((hexI x).toNat * 16 + (hexI y).toNat) % 16 = (hexI y).toNat := by omega
 rw [e1, e2, hex_back x hx0, hex_back y hy0]
 rfl
theorem unq_doc : ∀ (n : Nat) (r o : List UInt8), unqN n r = some o → docP n r = some o ∧ o.flatMap qB = r
 | 0, r, o, h => by
   unfold unqN at h
   split at h
   · rename_i e
     cases h
     subst e
     exact ⟨rfl, rfl⟩
   · cases h
 | n + 1, [], o, h => by
   rw [unqN_nil] at h
   cases h
   exact ⟨rfl, rfl⟩
 | n + 1, a :: t, o, h => by
   rw [unqN_step n (by simp)] at h
   split at h
   · rename_i ok
     obtain ⟨o', ho, rfl⟩ := Option.map_eq_some_iff.1 h
     obtain ⟨h1, h2⟩ := unq_doc n _ o' ho
     rw [firstF_cons] at ok h1 h2 ⊢
     by_cases ha : a = 92
     · rw [if_pos ha] at ok h1 h2 ⊢
       subst ha
       match t, ok, h1, h2 with
       | [], ok, _, _ => exact absurd ok (by simp [escF])
       | [x], ok, _, _ => exact absurd ok (by simp [escF])
       | x :: y :: t', ok, h1, h2 =>
         rw [escF_two] at ok h1 h2 ⊢
         by_cases hh : hexI x < 0 ∨ hexI y < 0
         · rw [if_pos hh] at ok
           exact absurd ok (by simp)
         · rw [if_neg hh] at ok h1 h2 ⊢
           simp only [List.drop_succ_cons, List.drop_zero] at h1 h2 ok ⊢
           rw [docP_esc, if_neg hh, h1, List.flatMap_cons, h2, qB_esc (fun e => hh (.inl e)) (fun e => hh (.inr e)) (by simpa using ok)]
           exact ⟨rfl, rfl⟩
     · rw [if_neg ha] at ok h1 h2 ⊢
       simp only [List.drop_succ_cons, List.drop_zero] at h1 h2 ok ⊢
       rw [docP_plain n t ha, h1, List.flatMap_cons, h2]
       refine ⟨rfl, ?_⟩
       unfold qB
       rw [if_pos ok]
       rfl
   · cases h
theorem pln92 : plnI ((92 : UInt8).toNat : Int) = false := by decide
theorem doc_unq : ∀ (n : Nat) (r o : List UInt8), docP n r = some o → o.flatMap qB = r → unqN n r = some o
 | 0, r, o, h, _ => by
   unfold docP at h
   unfold unqN
   exact h
 | n + 1, [], o, h, _ => by
   rw [docP_nil] at h
   rw [unqN_nil]
   exact h
 | n + 1, a :: t, o, h, hq => by
   rw [unqN_step n (by simp), firstF_cons]
   by_cases ha : a = 92
   · subst ha
     rw [if_pos rfl]
     match t, h, hq with
     | [], h, _ => exact absurd h (by simp [docP])
     | [x], h, _ => exact absurd h (by simp [docP])
     | x :: y :: t', h, hq =>
       rw [docP_esc] at h
       rw [escF_two]
       by_cases hh : hexI x < 0 ∨ hexI y < 0
       · rw [if_pos hh] at h
         cases h
       · rw [if_neg hh] at h ⊢
         obtain ⟨o', ho, rfl⟩ := Option.map_eq_some_iff.1 h
         rw [List.flatMap_cons] at hq
         generalize hb : UInt8.ofNat ((hexI x).toNat * 16 + (hexI y).toNat) = b at *
         cases hp : plnI b.toNat with
         | true =>
           have e : qB b = [b] := by unfold qB; rw [if_pos hp]
           rw [e] at hq
           have : b = 92 := by simpa using congrArg (fun l => l.getD 0 0) hq
           rw [this, pln92] at hp
           cases hp
         | false =>
           have e := qB_esc (x := x) (y := y) (fun e => hh (.inl e)) (fun e => hh (.inr e)) (by rw [hb]; exact hp)
           rw [hb] at e
           rw [e] at hq
           have hq2 : o'.flatMap qB = t' := by simpa using hq
           have := doc_unq n t' o' ho hq2
           simp [this, hp]
   · rw [if_neg ha]
     rw [docP_plain n t ha] at h
     obtain ⟨o', ho, rfl⟩ := Option.map_eq_some_iff.1 h
     rw [List.flatMap_cons] at hq
     cases hp : plnI a.toNat with
     | true =>
       have e : qB a = [a] := by unfold qB; rw [if_pos hp]
       rw [e] at hq
       have hq2 : o'.flatMap qB = t := by simpa using hq
       have := doc_unq n t o' ho hq2
       simp [this]
     | false =>
       have e : qB a = [92, hx (a.toNat / 16), hx (a.toNat % 16)] := by unfold qB; rw [if_neg (by rw [hp]; simp)]
       rw [e] at hq
       have : (92 : UInt8) = a := by simpa using congrArg (fun l => l.getD 0 0) hq
       exact absurd this.symm ha
theorem ends_mid {l : List UInt8} (h2 : ¬ l.length < 2) (h0 : l.getD 0 0 = 34) (hl : l.getD (l.length - 1) 0 = 34) : l = 34 :: ((l.drop 1).take (l.length - 2) ++ [34]) := by
 match l, h2 with
 | [], h2 => exact absurd h2 (by simp)
 | a :: t, h2 =>
   have ha : a = 34 := by simpa using h0
   subst ha
   rw [List.drop_succ_cons, List.drop_zero]
   congr 1
   rw [List.length_cons] at h2 hl ⊢
   have ht : 0 < t.length := by omega
   have e1 : t.length + 1 - 2 = t.length - 1 := by omega
   have e2 : t.length + 1 - 1 = (t.length - 1) + 1 := by omega
   rw [e1]
   rw [e2, List.getD_cons_succ] at hl
   have hlast : t[t.length - 1]'(by omega) = 34 := by
     rw [List.getD, List.getElem?_eq_getElem (by omega)] at hl
     exact hl
   rw [← hlast]
   have : t = t.take (t.length - 1 + 1) := by rw [List.take_of_length_le (by omega)]
   conv => lhs; rw [this]
   exact List.take_succ_eq_append_getElem (by omega)
theorem unq_is (l : List UInt8) : unqL l = docL l := by
 unfold unqL docL
 split
 · rfl
 · rename_i h
   have h2 : ¬ l.length < 2 := fun e => h (.inl e)
   have h0 : l.getD 0 0 = 34 := Decidable.byContradiction fun e => h (.inr (.inl e))
   have hl : l.getD (l.length - 1) 0 = 34 := Decidable.byContradiction fun e => h (.inr (.inr e))
   have em := ends_mid h2 h0 hl
   have qe : ∀ o : List UInt8, quoteL o = l ↔ o.flatMap qB = (l.drop 1).take (l.length - 2) := fun o => by
     constructor
     · intro e
       have e' : 34 :: (o.flatMap qB ++ [34]) = 34 :: ((l.drop 1).take (l.length - 2) ++ [34]) := by rw [← em]; exact e
       exact List.append_cancel_right (List.cons.inj e').2
     · intro e
       rw [em]
       unfold quoteL
       rw [e]
   generalize (l.drop 1).take (l.length - 2) = r at *
   cases hu : unqN l.length r with
   | some o =>
     obtain ⟨h1, h3⟩ := unq_doc _ _ _ hu
     rw [h1, keepQ_some, if_pos ((qe o).2 h3)]
   | none =>
     cases hd : docP l.length r with
     | none => rfl
     | some o =>
       rw [keepQ_some, if_neg]
       intro e
       rw [doc_unq _ _ _ hd ((qe o).1 e)] at hu
       cases hu
end Go.Proofs.YthoaiapfjbgfhaaDoor
