/-
  What is within quotes, as the program and as the document say it: plain facts.
  Lines read, plainly: what the program reads of a line, and that it is what Line writes.
-/
import Derived.Test.YtkokjkaclcjnjaaDoorRdAu
import Derived.Test.YtkokjkaclcjnjaaDoorRdAa
import Derived.Test.YtkokjkaclcjnjaaDoorRdAt
import Derived.Test.YtkokjkaclcjnjaaDoorRdAs
import Derived.Test.YtkokjkaclcjnjaaDoorRdAo
namespace Go.Proofs.YtkokjkaclcjnjaaDoor
open Go.RowKit Go.ChangeShapes Go.WideShapes Go.ChangeAt
set_option linter.unusedVariables false
set_option linter.unusedSimpArgs false
set_option maxRecDepth 100000
def docP : Nat → List UInt8 → Option (List UInt8)
 | 0, r => if r = [] then some [] else none
 | _ + 1, [] => some []
 | n + 1, a :: t => if a = 92 then (match t with
     | x :: y :: t' => if hexI x < 0 ∨ hexI y < 0 then none else (docP n t').map (UInt8.ofNat ((hexI x).toNat * 16 + (hexI y).toNat) :: ·)
     | _ => none)
   else (docP n t).map (a :: ·)
theorem docP_plain (n : Nat) {a : UInt8} (t : List UInt8) (h : a ≠ 92) : docP (n + 1) (a :: t) = (docP n t).map (a :: ·) := by
 conv => lhs; unfold docP
 rw [if_neg h]
theorem docP_esc (n : Nat) (x y : UInt8) (t : List UInt8) : docP (n + 1) (92 :: x :: y :: t) = if hexI x < 0 ∨ hexI y < 0 then none else (docP n t).map (UInt8.ofNat ((hexI x).toNat * 16 + (hexI y).toNat) :: ·) := rfl
theorem docP_nil (n : Nat) : docP n [] = some [] := by cases n <;> rfl
def keepQ (l : List UInt8) : Option (List UInt8) → Option (List UInt8)
 | none => none
 | some o => if quoteL o = l then some o else none
theorem keepQ_some (l o : List UInt8) : keepQ l (some o) = if quoteL o = l then some o else none := rfl
def docL (l : List UInt8) : Option (List UInt8) := if l.length < 2 ∨ l.getD 0 0 ≠ 34 ∨ l.getD (l.length - 1) 0 ≠ 34 then none else keepQ l (docP l.length ((l.drop 1).take (l.length - 2)))
theorem hex_back (c : UInt8) (h : ¬ hexI c < 0) : hx (hexI c).toNat = c := by
 have key : ∀ (l : List UInt8) (c : UInt8), ¬ Lib.indexByte l c < 0 → l.getD (Lib.indexByte l c).toNat 0 = c := fun l => by
   induction l with
   | nil => intro c h; simp [Lib.indexByte] at h
   | cons b t ih =>
     intro c h
     unfold Lib.indexByte at h ⊢
     split
     · rename_i e
       simp at e
       simp [e]
     · rename_i e
       rw [if_neg e] at h
       split
       · rename_i e2
         rw [if_pos e2] at h
         exact absurd h (by omega)
       · rename_i e2
         rw [if_neg e2] at h
         have hge := Lib.indexByte_ge t c
         have hne : Lib.indexByte t c ≠ -1 := by simpa using e2
         have := ih c (by omega)
         have e3 : (Lib.indexByte t c + 1).toNat = (Lib.indexByte t c).toNat + 1 := by omega
         rw [e3]
         simpa using this
 exact key hexL c h
theorem qB_esc {x y : UInt8} (hx0 : ¬ hexI x < 0) (hy0 : ¬ hexI y < 0) (h : plnI (UInt8.ofNat ((hexI x).toNat * 16 + (hexI y).toNat)).toNat = false) : qB (UInt8.ofNat ((hexI x).toNat * 16 + (hexI y).toNat)) = [92, x, y] := by
 have h1 := hexI_lt x
 have h2 := hexI_lt y
 have hn : (UInt8.ofNat ((hexI x).toNat * 16 + (hexI y).toNat)).toNat = (hexI x).toNat * 16 + (hexI y).toNat := by simp; omega
 unfold qB
 rw [h, hn]
 have e1 : ((hexI x).toNat * 16 + (hexI y).toNat) / 16 = (hexI x).toNat := by omega
 have e2 : ((hexI x).toNat * 16 + (hexI y).toNat) % 16 = (hexI y).toNat := by omega
 rw [e1, e2, hex_back x hx0, hex_back y hy0]
 rfl
theorem unq_doc : ∀ (n : Nat) (r o : List UInt8), unqN n r = some o → docP n r = some o ∧ o.flatMap qB = r
 | 0, r, o, h => by
   unfold unqN at h
   split at h
   · rename_i e
     cases h
     subst e
     exact ⟨rfl, rfl⟩
   · cases h
 | n + 1, [], o, h => by
   rw [unqN_nil] at h
   cases h
   exact ⟨rfl, rfl⟩
 | n + 1, a :: t, o, h => by
   rw [unqN_step n (by simp)] at h
   split at h
   · rename_i ok
     obtain ⟨o', ho, rfl⟩ := Option.map_eq_some_iff.1 h
     obtain ⟨h1, h2⟩ := unq_doc n _ o' ho
     rw [firstF_cons] at ok h1 h2 ⊢
     by_cases ha : a = 92
     · rw [if_pos ha] at ok h1 h2 ⊢
       subst ha
       match t, ok, h1, h2 with
       | [], ok, _, _ => exact absurd ok (by simp [escF])
       | [x], ok, _, _ => exact absurd ok (by simp [escF])
       | x :: y :: t', ok, h1, h2 =>
         rw [escF_two] at ok h1 h2 ⊢
         by_cases hh : hexI x < 0 ∨ hexI y < 0
         · rw [if_pos hh] at ok
           exact absurd ok (by simp)
         · rw [if_neg hh] at ok h1 h2 ⊢
           simp only [List.drop_succ_cons, List.drop_zero] at h1 h2 ok ⊢
           rw [docP_esc, if_neg hh, h1, List.flatMap_cons, h2, qB_esc (fun e => hh (.inl e)) (fun e => hh (.inr e)) (by simpa using ok)]
           exact ⟨rfl, rfl⟩
     · rw [if_neg ha] at ok h1 h2 ⊢
       simp only [List.drop_succ_cons, List.drop_zero] at h1 h2 ok ⊢
       rw [docP_plain n t ha, h1, List.flatMap_cons, h2]
       refine ⟨rfl, ?_⟩
       unfold qB
       rw [if_pos ok]
       rfl
   · cases h
theorem pln92 : plnI ((92 : UInt8).toNat : Int) = false := by decide
theorem doc_unq : ∀ (n : Nat) (r o : List UInt8), docP n r = some o → o.flatMap qB = r → unqN n r = some o
 | 0, r, o, h, _ => by
   unfold docP at h
   unfold unqN
   exact h
 | n + 1, [], o, h, _ => by
   rw [docP_nil] at h
   rw [unqN_nil]
   exact h
 | n + 1, a :: t, o, h, hq => by
   rw [unqN_step n (by simp), firstF_cons]
   by_cases ha : a = 92
   · subst ha
     rw [if_pos rfl]
     match t, h, hq with
     | [], h, _ => exact absurd h (by simp [docP])
     | [x], h, _ => exact absurd h (by simp [docP])
     | x :: y :: t', h, hq =>
       rw [docP_esc] at h
       rw [escF_two]
       by_cases hh : hexI x < 0 ∨ hexI y < 0
       · rw [if_pos hh] at h
         cases h
       · rw [if_neg hh] at h ⊢
         obtain ⟨o', ho, rfl⟩ := Option.map_eq_some_iff.1 h
         rw [List.flatMap_cons] at hq
         generalize hb : UInt8.ofNat ((hexI x).toNat * 16 + (hexI y).toNat) = b at *
         cases hp : plnI b.toNat with
         | true =>
           have e : qB b = [b] := by unfold qB; rw [if_pos hp]
           rw [e] at hq
           have : b = 92 := by simpa using congrArg (fun l => l.getD 0 0) hq
           rw [this, pln92] at hp
           cases hp
         | false =>
           have e := qB_esc (x := x) (y := y) (fun e => hh (.inl e)) (fun e => hh (.inr e)) (by rw [hb]; exact hp)
           rw [hb] at e
           rw [e] at hq
           have hq2 : o'.flatMap qB = t' := by simpa using hq
           have := doc_unq n t' o' ho hq2
           simp [this, hp]
   · rw [if_neg ha]
     rw [docP_plain n t ha] at h
     obtain ⟨o', ho, rfl⟩ := Option.map_eq_some_iff.1 h
     rw [List.flatMap_cons] at hq
     cases hp : plnI a.toNat with
     | true =>
       have e : qB a = [a] := by unfold qB; rw [if_pos hp]
       rw [e] at hq
       have hq2 : o'.flatMap qB = t := by simpa using hq
       have := doc_unq n t o' ho hq2
       simp [this]
     | false =>
       have e : qB a = [92, hx (a.toNat / 16), hx (a.toNat % 16)] := by unfold qB; rw [if_neg (by rw [hp]; simp)]
       rw [e] at hq
       have : (92 : UInt8) = a := by simpa using congrArg (fun l => l.getD 0 0) hq
       exact absurd this.symm ha
theorem ends_mid {l : List UInt8} (h2 : ¬ l.length < 2) (h0 : l.getD 0 0 = 34) (hl : l.getD (l.length - 1) 0 = 34) : l = 34 :: ((l.drop 1).take (l.length - 2) ++ [34]) := by
 match l, h2 with
 | [], h2 => exact absurd h2 (by simp)
 | a :: t, h2 =>
   have ha : a = 34 := by simpa using h0
   subst ha
   rw [List.drop_succ_cons, List.drop_zero]
   congr 1
   rw [List.length_cons] at h2 hl ⊢
   have ht : 0 < t.length := by omega
   have e1 : t.length + 1 - 2 = t.length - 1 := by omega
   have e2 : t.length + 1 - 1 = (t.length - 1) + 1 := by omega
   rw [e1]
   rw [e2, List.getD_cons_succ] at hl
   have hlast : t[t.length - 1]'(by omega) = 34 := by
     rw [List.getD, List.getElem?_eq_getElem (by omega)] at hl
     exact hl
   rw [← hlast]
   have : t = t.take (t.length - 1 + 1) := by rw [List.take_of_length_le (by omega)]
   conv => lhs; rw [this]
   exact List.take_succ_eq_append_getElem (by omega)
theorem unq_is (l : List UInt8) : unqL l = docL l := by
 unfold unqL docL
 split
 · rfl
 · rename_i h
   have h2 : ¬ l.length < 2 := fun e => h (.inl e)
   have h0 : l.getD 0 0 = 34 := Decidable.byContradiction fun e => h (.inr (.inl e))
   have hl : l.getD (l.length - 1) 0 = 34 := Decidable.byContradiction fun e => h (.inr (.inr e))
   have em := ends_mid h2 h0 hl
   have qe : ∀ o : List UInt8, quoteL o = l ↔ o.flatMap qB = (l.drop 1).take (l.length - 2) := fun o => by
     constructor
     · intro e
       have e' : 34 :: (o.flatMap qB ++ [34]) = 34 :: ((l.drop 1).take (l.length - 2) ++ [34]) := by rw [← em]; exact e
       exact List.append_cancel_right (List.cons.inj e').2
     · intro e
       rw [em]
       unfold quoteL
       rw [e]
   generalize (l.drop 1).take (l.length - 2) = r at *
   cases hu : unqN l.length r with
   | some o =>
     obtain ⟨h1, h3⟩ := unq_doc _ _ _ hu
     rw [h1, keepQ_some, if_pos ((qe o).2 h3)]
   | none =>
     cases hd : docP l.length r with
     | none => rfl
     | some o =>
       rw [keepQ_some, if_neg]
       intro e
       rw [doc_unq _ _ _ hd ((qe o).1 e)] at hu
       cases hu
def kidP (e : List UInt8) : Option Kd := match (cutL 61 e).2 with
 | none => none
 | some d => (readD 4294967295 d).map fun (f : Nat) => ⟨⟨(cutL 61 e).1.toArray⟩, (f : Int)⟩
def goK : Nat → List (List UInt8) → Option (List Kd)
 | _, [] => some []
 | 0, _ :: _ => none
 | r + 1, e :: t => match kidP e with
   | none => none
   | some k => (goK r t).map (k :: ·)
def kidsP (s : List UInt8) : Option (List Kd) := if s = [45] then some [] else goK 12 (splN 44 s.length s)
def kindP (b : List UInt8) : Int := if b = [102, 105, 108, 101] then 1 else if b = [100, 105, 114] then 2 else if b = [108, 105, 110, 107] then 3 else 0
def inP (k : Int) (s : List UInt8) : Option (List UInt8 × List Kd) := if k = 2 then (kidsP s).map fun l => ([], l) else (unqL s).map fun o => (o, [])
def partP (a b c d e : List UInt8) : Option Nd := match readD 4294967295 a, readD 65535 c, readD 65535 d, inP (kindP b) e with
 | some f, some m, some n, some i => if kindP b = 0 then none else some ⟨(f : Int), kindP b, (m : Int), (n : Int), none, 0, Fr.bs ⟨i.1.toArray⟩, none, 0, i.2⟩
 | _, _, _, _ => none
def lineP (l : List UInt8) : Option Nd := match splN 32 4 l with
 | [a, b, c, d, e] => partP a b c d e
 | _ => none
theorem join_lib (c : UInt8) : ∀ (l : List (List UInt8)), Lib.join l [c] = joinL c l
 | [] => rfl
 | [a] => by rw [Lib.join_one]; rfl
 | a :: b :: t => by
   have h := join_lib c (b :: t)
   rw [Lib.join_cons] at h ⊢
   rw [joinL, ← h]
   unfold Lib.joinTail
   simp
theorem join_len (c : UInt8) : ∀ (l : List (List UInt8)), l.length ≤ (joinL c l).length + 1
 | [] => by simp
 | [a] => by simp
 | a :: b :: t => by
   have h := join_len c (b :: t)
   rw [joinL, List.length_append, List.length_cons (a := a), List.length_cons (a := c)]
   omega
/-! ### What stands in a line -/
theorem dec_all (P : UInt8 → Prop) (h : ∀ d, d < 10 → P (UInt8.ofNat (48 + d))) : ∀ (k n : Nat), n ≤ k → ∀ c ∈ Lib.decDigits n, P c
 | k, n, hk, c, hc => by
   by_cases q : n < 10
   · rw [Lib.decDigits_one q, List.mem_singleton] at hc
     rw [hc]; exact h n q
   · match k with
     | 0 => omega
     | k + 1 =>
       rw [dec_big q] at hc
       rcases List.mem_append.1 hc with e | e
       · exact dec_all P h k (n / 10) (by omega) c e
       · rw [List.mem_singleton.1 e]; exact h _ (by omega)
theorem dec_free {c : UInt8} (hc : c < 48 ∨ 57 < c) (n : Nat) : c ∉ Lib.decDigits n := fun hm =>
 dec_all (fun x => x ≠ c) (fun d hd e => dig_in hd (by rw [e]; exact hc)) n n (Nat.le_refl _) c hm rfl
theorem ok_ne {c : UInt8} {l : List UInt8} (h : l.all Pa.okC = true) (hc : Pa.okC c = false) : c ∉ l := fun hm => by
 rw [List.all_eq_true] at h
 rw [h c hm] at hc
 cases hc
theorem name_all {l : List UInt8} (h : Pa.nameB l = true) : l.all Pa.okC = true := by
 unfold Pa.nameB at h
 simp only [Bool.and_eq_true] at h
 exact h.2
theorem qB_free {c : UInt8} (hc : c < 32) (o : List UInt8) : c ∉ quoteL o := fun hm => by
 have c32 : c.toNat < 32 := by rw [UInt8.lt_iff_toNat_lt] at hc; exact hc
 have hq : ∀ x, c ∉ qB x := fun x hm => by
   unfold qB at hm
   split at hm
   · rename_i hp
     rw [List.mem_singleton.1 hm] at c32
     unfold plnI at hp
     simp only [Bool.and_eq_true, decide_eq_true_eq] at hp
     omega
   · have hh : ∀ n, n < 16 → c ≠ hx n := fun n h e => by
       have key : ∀ y ∈ hexL, ¬ y < 32 := by decide
       unfold hx at e
       have : hexL.getD n 0 ∈ hexL := by
         rw [List.getD, List.getElem?_eq_getElem (by exact h)]
         exact List.getElem_mem _
       exact key _ this (by rw [← e]; exact hc)
     have hx1 : x.toNat / 16 < 16 := by have := x.toNat_lt; omega
     rcases List.mem_cons.1 hm with e | e
     · rw [e] at c32; revert c32; decide
     · rcases List.mem_cons.1 e with e | e
       · exact hh _ hx1 e
       · exact hh _ (by omega) (List.mem_singleton.1 e)
 unfold quoteL at hm
 rcases List.mem_cons.1 hm with e | e
 · rw [e] at c32; revert c32; decide
 · rcases List.mem_append.1 e with e | e
   · obtain ⟨x, _, hx⟩ := List.mem_flatMap.1 e
     exact hq x hx
   · rw [List.mem_singleton.1 e] at c32; revert c32; decide
/-! ### A text in quotes is read as it was -/
theorem hexI_hx {n : Nat} (h : n < 16) : hexI (hx n) = (n : Int) := by
 have key : ∀ m, m < 16 → hexI (hx m) = (m : Int) := by decide +kernel
 exact key n h
theorem unq_flat : ∀ (n : Nat) (o : List UInt8), (o.flatMap qB).length ≤ n → unqN n (o.flatMap qB) = some o
 | n, [], _ => unqN_nil n
 | 0, c :: o, h => by
   rw [List.flatMap_cons, List.length_append] at h
   have := (qB_len c).1
   omega
 | n + 1, c :: o, h => by
   rw [List.flatMap_cons, List.length_append] at h
   have h1 := (qB_len c).1
   have ih := unq_flat n o (by omega)
   rw [List.flatMap_cons, unqN_step n (by intro e; have := congrArg List.length e; rw [List.length_append, List.length_nil] at this; omega)]
   by_cases hp : plnI c.toNat = true
   · have e : qB c = [c] := by unfold qB; rw [if_pos hp]
     have c92 : c ≠ 92 := fun e => by rw [e] at hp; revert hp; decide
     rw [e, List.cons_append, List.nil_append, firstF_cons, if_neg c92, if_pos hp]
     show (unqN n (List.drop 1 (c :: o.flatMap qB))).map (c :: ·) = _
     rw [List.drop_succ_cons, List.drop_zero, ih]
     rfl
   · have hpf : plnI c.toNat = false := by simpa using hp
     have e : qB c = [92, hx (c.toNat / 16), hx (c.toNat % 16)] := by unfold qB; rw [if_neg hp]
     have k1 := hexI_hx (n := c.toNat / 16) (by have := c.toNat_lt; omega)
     have k2 := hexI_hx (n := c.toNat % 16) (by omega)
     have kc : UInt8.ofNat (c.toNat / 16 * 16 + c.toNat % 16) = c := by rw [Nat.div_add_mod' ]; exact UInt8.ofNat_toNat
     have ef : firstF (qB c ++ o.flatMap qB) = (c, 3, true) := by
       rw [e, List.cons_append, List.cons_append, List.cons_append, List.nil_append, firstF_cons, if_pos rfl, escF_two, k1, k2, if_neg (by omega), Int.toNat_natCast, Int.toNat_natCast, kc, hpf]
       rfl
     rw [ef, if_pos rfl]
     show (unqN n (List.drop 3 (qB c ++ o.flatMap qB))).map (c :: ·) = _
     rw [e]
     show (unqN n (o.flatMap qB)).map (c :: ·) = _
     rw [ih]
     rfl
theorem unq_quote (o : List UInt8) : unqL (quoteL o) = some o := by
 unfold unqL quoteL
 have hl : (34 :: (o.flatMap qB ++ [34]) : List UInt8).length = (o.flatMap qB).length + 2 := by simp
 rw [if_neg, hl]
 · rw [List.drop_succ_cons, List.drop_zero, show (o.flatMap qB).length + 2 - 2 = (o.flatMap qB).length by omega, List.take_left]
   exact unq_flat _ o (by omega)
 · rw [hl]
   rintro (e | e | e)
   · omega
   · exact e rfl
   · apply e
     rw [show (o.flatMap qB).length + 2 - 1 = (o.flatMap qB).length + 1 by omega]
     simp [List.getD]
theorem unq_back {l o : List UInt8} (h : unqL l = some o) : quoteL o = l := by
 rw [unq_is] at h
 unfold docL at h
 split at h
 · cases h
 · cases hd : docP l.length ((l.drop 1).take (l.length - 2)) with
   | none => rw [hd] at h; cases h
   | some p =>
     rw [hd, keepQ_some] at h
     split at h
     · rename_i e; cases h; exact e
     · cases h
/-! ### Entries -/
theorem kid_text (k : Kd) : (kidT k).data.toList = k.nm.data.toList ++ 61 :: Lib.decDigits k.fid.toNat := by
 unfold kidT
 rw [app_dT, app_dT]
 unfold decB
 simp
theorem kidP_of {k : Kd} (hn : Pa.nameB k.nm.data.toList = true) (hw : k.Wf) : kidP (kidT k).data.toList = some k := by
 have e : cutL 61 (kidT k).data.toList = (k.nm.data.toList, some (Lib.decDigits k.fid.toNat)) := by
   rw [kid_text]
   exact cut_app _ (ok_ne (name_all hn) (by decide +kernel))
 unfold kidP
 rw [e]
 show (readD 4294967295 (Lib.decDigits k.fid.toNat)).map _ = _
 have h1 := hw.2.1
 have h2 := hw.2.2
 rw [read_dec (by omega)]
 simp only [Option.map_some, Option.some.injEq]
 obtain ⟨nm, fid⟩ := k
 simp only at h1 h2 ⊢
 congr 1
 omega
theorem kidP_back {e : List UInt8} {k : Kd} (h : kidP e = some k) : (kidT k).data.toList = e ∧ 0 ≤ k.fid ∧ k.fid < 4294967296 := by
 unfold kidP at h
 cases hc : (cutL 61 e).2 with
 | none => rw [hc] at h; cases h
 | some d =>
   rw [hc] at h
   replace h : (readD 4294967295 d).map (fun (f : Nat) => (⟨⟨(cutL 61 e).1.toArray⟩, (f : Int)⟩ : Kd)) = some k := h
   cases hr : readD 4294967295 d with
   | none => rw [hr] at h; cases h
   | some f =>
     rw [hr] at h
     simp only [Option.map_some, Option.some.injEq] at h
     subst h
     obtain ⟨h1, h2⟩ := read_back hr
     refine ⟨?_, by simp, by simp; omega⟩
     rw [kid_text]
     simp only [Int.toNat_natCast]
     rw [h1]
     have := (cut_some hc).1
     conv => rhs; rw [this]
theorem goK_of : ∀ (l : List Kd) (r : Nat), l.length ≤ r → (∀ k ∈ l, Pa.nameB k.nm.data.toList = true ∧ k.Wf) → goK r (l.map fun k => (kidT k).data.toList) = some l
 | [], r, _, _ => by cases r <;> rfl
 | k :: t, 0, h, _ => by simp at h
 | k :: t, r + 1, h, hk => by
   have h1 := hk k (List.mem_cons_self ..)
   show (match kidP (kidT k).data.toList with
     | none => none
     | some k => (goK r (t.map fun k => (kidT k).data.toList)).map (k :: ·)) = _
   rw [kidP_of h1.1 h1.2, goK_of t r (by simpa using h) (fun q hq => hk q (List.mem_cons_of_mem _ hq))]
   rfl
theorem goK_back : ∀ (es : List (List UInt8)) (r : Nat) (l : List Kd), goK r es = some l → (l.map fun k => (kidT k).data.toList) = es ∧ l.length ≤ r ∧ ∀ k ∈ l, 0 ≤ k.fid ∧ k.fid < 4294967296
 | [], r, l, h => by
   have : l = [] := by cases r <;> (cases h; rfl)
   subst this
   exact ⟨rfl, Nat.zero_le _, fun k hk => by cases hk⟩
 | e :: t, 0, l, h => by cases h
 | e :: t, r + 1, l, h => by
   replace h : (match kidP e with
     | none => none
     | some k => (goK r t).map (k :: ·)) = some l := h
   cases hk : kidP e with
   | none => rw [hk] at h; cases h
   | some k =>
     rw [hk] at h
     replace h : (goK r t).map (k :: ·) = some l := h
     cases hg : goK r t with
     | none => rw [hg] at h; cases h
     | some m =>
       rw [hg] at h
       cases h
       obtain ⟨h1, h2, h3⟩ := goK_back t r m hg
       obtain ⟨q1, q2⟩ := kidP_back hk
       refine ⟨by rw [List.map_cons, h1, q1], by simpa using h2, fun q hq => ?_⟩
       rcases List.mem_cons.1 hq with e | e
       · rw [e]; exact q2
       · exact h3 q e
def kidsT (l : List Kd) : List UInt8 := if l = [] then [45] else joinL 44 (l.map fun k => (kidT k).data.toList)
theorem kid_has (k : Kd) : (61 : UInt8) ∈ (kidT k).data.toList := by rw [kid_text]; simp
theorem join_has {c d : UInt8} : ∀ {l : List (List UInt8)}, (∃ a ∈ l, d ∈ a) → d ∈ joinL c l
 | [], h => by obtain ⟨a, ha, _⟩ := h; cases ha
 | [a], h => by obtain ⟨b, hb, hd⟩ := h; rw [List.mem_singleton.1 hb] at hd; exact hd
 | a :: b :: t, h => by
   obtain ⟨x, hx, hd⟩ := h
   rw [joinL]
   rcases List.mem_cons.1 hx with e | e
   · exact List.mem_append_left _ (by rw [← e]; exact hd)
   · exact List.mem_append_right _ (List.mem_cons_of_mem _ (join_has ⟨x, e, hd⟩))
theorem kids_ne {l : List Kd} (h : l ≠ []) : joinL 44 (l.map fun k => (kidT k).data.toList) ≠ [45] := by
 intro e
 cases l with
 | nil => exact h rfl
 | cons k t =>
   have := join_has (c := 44) (d := 61) (l := (k :: t).map fun k => (kidT k).data.toList) ⟨_, List.mem_map.2 ⟨k, List.mem_cons_self .., rfl⟩, kid_has k⟩
   rw [e] at this
   revert this; decide
theorem kid_free {k : Kd} {c : UInt8} (hn : Pa.nameB k.nm.data.toList = true) (h1 : Pa.okC c = false) (h2 : c ≠ 61) (h3 : c < 48 ∨ 57 < c) : c ∉ (kidT k).data.toList := fun hm => by
 rw [kid_text] at hm
 rcases List.mem_append.1 hm with e | e
 · exact ok_ne (name_all hn) h1 e
 · rcases List.mem_cons.1 e with e | e
   · exact h2 e
   · exact dec_free h3 _ e
theorem kidsP_of {l : List Kd} (hl : l.length ≤ 12) (hk : ∀ k ∈ l, Pa.nameB k.nm.data.toList = true ∧ k.Wf) : kidsP (kidsT l) = some l := by
 unfold kidsP kidsT
 by_cases e : l = []
 · subst e
   rfl
 · have hf : ∀ a ∈ l.map (fun k => (kidT k).data.toList), (44 : UInt8) ∉ a := fun a ha => by
     obtain ⟨k, hm, rfl⟩ := List.mem_map.1 ha
     exact kid_free (hk k hm).1 (by decide +kernel) (by decide) (by decide)
   rw [if_neg e, if_neg (kids_ne e), spl_join _ (by simpa using e) hf (join_len 44 _), goK_of l 12 hl hk]
theorem kidsP_back {s : List UInt8} {l : List Kd} (h : kidsP s = some l) : kidsT l = s ∧ l.length ≤ 12 ∧ ∀ k ∈ l, 0 ≤ k.fid ∧ k.fid < 4294967296 := by
 unfold kidsP at h
 split at h
 · rename_i e
   cases h
   exact ⟨by rw [e]; rfl, by simp, fun k hk => by cases hk⟩
 · obtain ⟨h1, h2, h3⟩ := goK_back _ _ _ h
   refine ⟨?_, h2, h3⟩
   unfold kidsT
   rw [if_neg, h1, join_spl]
   intro e
   rw [e, List.map_nil] at h1
   exact spl_ne _ _ _ h1.symm
end Go.Proofs.YtkokjkaclcjnjaaDoor
