/-
  Trees' texts read, plainly: what Read of the program reads is what Tree writes.
-/
import Derived.Test.YtkokjkaclcjnjaaDoorRdAv
import Derived.Test.YtkokjkaclcjnjaaDoorRdBb
import Derived.Test.YtkokjkaclcjnjaaDoorRdBc
namespace Go.Proofs.YtkokjkaclcjnjaaDoor
open Go.RowKit Go.ChangeShapes Go.WideShapes Go.ChangeAt
set_option linter.unusedVariables false
set_option linter.unusedSimpArgs false
set_option maxRecDepth 100000
def Nd.In (x : Nd) : Prop := (0 ≤ x.fid ∧ x.fid < 4294967296) ∧ (0 ≤ x.k ∧ x.k < 256) ∧ (0 ≤ x.md ∧ x.md < 65536) ∧ (0 ≤ x.ln ∧ x.ln < 65536) ∧ (∀ y ∈ x.zs, 0 ≤ y ∧ y ≤ 255) ∧ ∀ q ∈ x.ks, 0 ≤ q.fid ∧ q.fid < 4294967296
theorem kid_names {x : Nd} (h : nodeOk x = true) (h2 : x.k = 2) : ∀ q ∈ x.ks, Pa.nameB q.nm.data.toList = true := by
 unfold nodeOk at h
 simp only [Bool.and_eq_true] at h
 have h3 := h.2
 rw [h2] at h3
 have e1 : ((2 : Int) == 1 || (2 : Int) == 3) = false := by decide
 have e2 : ((2 : Int) == 2) = true := by decide
 rw [e1, e2] at h3
 simp only [cond_false, cond_true, Bool.and_eq_true] at h3
 intro q hq
 obtain ⟨i, hi, rfl⟩ := List.getElem_of_mem hq
 have g : x.ks.getD i Kd.no = x.ks[i] := by rw [List.getD, List.getElem?_eq_getElem hi]; rfl
 have := kidsTo_name _ h3.2 i hi
 rwa [g] at this
theorem dir_zs {x : Nd} (h : nodeOk x = true) (h2 : x.k = 2) : x.zs = [] := by
 unfold nodeOk at h
 simp only [Bool.and_eq_true] at h
 have h3 := h.2
 rw [h2] at h3
 have e1 : ((2 : Int) == 1 || (2 : Int) == 3) = false := by decide
 have e2 : ((2 : Int) == 2) = true := by decide
 rw [e1, e2] at h3
 simp only [cond_false, cond_true, Bool.and_eq_true, decide_eq_true_eq] at h3
 exact List.eq_nil_of_length_eq_zero h3.1
theorem file_ks {x : Nd} (h : nodeOk x = true) (h2 : x.k ≠ 2) : x.ks = [] := Classical.byContradiction fun e => h2 (ok_dir15 h e)
where
 ok_dir15 {x : Nd} (h : nodeOk x = true) (hk : x.ks ≠ []) : x.k = 2 := by
   rcases node_kind h with e | e | e
   · unfold nodeOk at h
     simp only [Bool.and_eq_true] at h
     have h3 := h.2
     simp [e] at h3
     exact absurd h3 hk
   · exact e
   · unfold nodeOk at h
     simp only [Bool.and_eq_true] at h
     have h3 := h.2
     simp [e] at h3
     exact absurd h3 hk
theorem ins_text (x : Nd) : (insB x).data.toList = if x.k = 2 then kidsT x.ks else quoteL (Fr.tx x.zs).data.toList := by
 unfold insB kidsT
 split
 · split
   · rfl
   · rw [← join_lib]
 · rfl
theorem line_text (x : Nd) : lineL x = joinL 32 [Lib.decDigits x.fid.toNat, (wordB x.k).data.toList, Lib.decDigits x.md.toNat, Lib.decDigits x.ln.toNat, (insB x).data.toList] := by
 unfold lineL
 rw [join_lib]
 unfold decB
 rfl
theorem word_free (k : Int) : (32 : UInt8) ∉ (wordB k).data.toList ∧ (10 : UInt8) ∉ (wordB k).data.toList := by
 unfold wordB
 split
 · decide
 · split
   · decide
   · split <;> decide
theorem kind_word {k : Int} (h : k = 1 ∨ k = 2 ∨ k = 3) : kindP (wordB k).data.toList = k := by
 rcases h with rfl | rfl | rfl <;> decide +kernel
theorem kind_back {b : List UInt8} (h : kindP b ≠ 0) : (wordB (kindP b)).data.toList = b ∧ (kindP b = 1 ∨ kindP b = 2 ∨ kindP b = 3) := by
 unfold kindP at h ⊢
 split
 · rename_i e; rw [e]; exact ⟨by decide +kernel, .inl rfl⟩
 · split
   · rename_i e; rw [e]; exact ⟨by decide +kernel, .inr (.inl rfl)⟩
   · split
     · rename_i e; rw [e]; exact ⟨by decide +kernel, .inr (.inr rfl)⟩
     · rename_i e1 e2 e3
       rw [if_neg e1, if_neg e2, if_neg e3] at h
       exact absurd rfl h
theorem spl5 {a b c d : List UInt8} (e : List UInt8) (ha : (32 : UInt8) ∉ a) (hb : (32 : UInt8) ∉ b) (hc : (32 : UInt8) ∉ c) (hd : (32 : UInt8) ∉ d) : splN 32 4 (joinL 32 [a, b, c, d, e]) = [a, b, c, d, e] := by
 show splN 32 4 (a ++ 32 :: (b ++ 32 :: (c ++ 32 :: (d ++ 32 :: e)))) = _
 rw [spl_cons 3 _ ha, spl_cons 2 _ hb, spl_cons 1 _ hc, spl_cons 0 _ hd]
 rfl
theorem tx_bsL (o : List UInt8) : (Fr.tx (Fr.bs ⟨o.toArray⟩)).data.toList = o := by rw [Fr.tx_bs]
theorem bs_txL {zs : List Int} (h : ∀ y ∈ zs, 0 ≤ y ∧ y ≤ 255) : Fr.bs ⟨(Fr.tx zs).data.toList.toArray⟩ = zs := by
 have e : (⟨(Fr.tx zs).data.toList.toArray⟩ : ByteArray) = Fr.tx zs := by apply ByteArray.ext; simp
 rw [e, Fr.bs_tx zs h]
theorem partP_some {a b c d e : List UInt8} {f m n : Nat} {i : List UInt8 × List Kd} (h1 : readD 4294967295 a = some f) (h2 : readD 65535 c = some m) (h3 : readD 65535 d = some n) (h4 : inP (kindP b) e = some i) (h5 : kindP b ≠ 0) :
   partP a b c d e = some ⟨(f : Int), kindP b, (m : Int), (n : Int), none, 0, Fr.bs ⟨i.1.toArray⟩, none, 0, i.2⟩ := by
 unfold partP
 rw [h1, h2, h3, h4]
 simp only
 rw [if_neg h5]
theorem lineP_of {x : Nd} (h : nodeOk x = true) (hx : x.In) : lineP (lineL x) = some x.er := by
 have hk := node_kind h
 obtain ⟨h1, h2, h3, h4, h5, h6⟩ := hx
 have e1 := read_dec (most := 4294967295) (n := x.fid.toNat) (by omega)
 have e2 := read_dec (most := 65535) (n := x.md.toNat) (by omega)
 have e3 := read_dec (most := 65535) (n := x.ln.toNat) (by omega)
 have k1 := kind_word hk
 have hsm := node_small h
 have e4 : ∃ i, inP (kindP (wordB x.k).data.toList) (insB x).data.toList = some i ∧ Fr.bs ⟨i.1.toArray⟩ = x.zs ∧ i.2 = x.ks := by
   rw [k1, ins_text]
   unfold inP
   by_cases q : x.k = 2
   · rw [if_pos q, if_pos q, kidsP_of hsm.2.1 (fun k hk => ⟨kid_names h q k hk, by have := hsm.2.2 k hk; unfold Kd.Wf maxLen; have := h6 k hk; omega⟩)]
     exact ⟨_, rfl, by rw [dir_zs h q]; rfl, rfl⟩
   · rw [if_neg q, if_neg q, unq_quote]
     exact ⟨_, rfl, bs_txL h5, (file_ks h q).symm⟩
 obtain ⟨i, e4, e5, e6⟩ := e4
 unfold lineP
 rw [line_text, spl5 _ (dec_free (by decide) _) (word_free x.k).1 (dec_free (by decide) _) (dec_free (by decide) _)]
 show partP _ _ _ _ _ = _
 rw [partP_some e1 e2 e3 e4 (by rw [k1]; omega), k1, e5, e6]
 obtain ⟨xf, xk, xm, xl, xda, xdc, xzs, xka, xkc, xks⟩ := x
 simp only at h1 h3 h4 ⊢
 unfold Nd.er Nd.lie
 simp only [Option.some.injEq, Nd.mk.injEq, and_true, true_and]
 omega
theorem inP_back {k : Int} {e : List UInt8} {i : List UInt8 × List Kd} (h : inP k e = some i) : (if k = 2 then kidsT i.2 else quoteL i.1) = e ∧ (k ≠ 2 → i.2 = []) ∧ (k = 2 → i.1 = []) ∧ ∀ q ∈ i.2, 0 ≤ q.fid ∧ q.fid < 4294967296 := by
 unfold inP at h
 split at h
 · rename_i q
   cases hp : kidsP e with
   | none => rw [hp] at h; cases h
   | some l =>
     rw [hp] at h
     cases h
     obtain ⟨h1, h2, h3⟩ := kidsP_back hp
     exact ⟨by rw [if_pos q]; exact h1, fun n => absurd q n, fun _ => rfl, h3⟩
 · rename_i q
   cases hp : unqL e with
   | none => rw [hp] at h; cases h
   | some o =>
     rw [hp] at h
     cases h
     exact ⟨by rw [if_neg q]; exact unq_back hp, fun _ => rfl, fun n => absurd n q, fun q hq => by cases hq⟩
theorem bs_in (o : List UInt8) : ∀ y ∈ Fr.bs ⟨o.toArray⟩, 0 ≤ y ∧ y ≤ 255 := fun y hy => by
 unfold Fr.bs at hy
 obtain ⟨c, _, rfl⟩ := List.mem_map.1 hy
 have := c.toNat_lt
 omega
theorem partP_back {a b c d e : List UInt8} {x : Nd} (h : partP a b c d e = some x) : lineL x = joinL 32 [a, b, c, d, e] ∧ x.In ∧ x.er = x := by
 unfold partP at h
 cases e1 : readD 4294967295 a with
 | none => rw [e1] at h; cases h
 | some f =>
   cases e2 : readD 65535 c with
   | none => rw [e1, e2] at h; cases h
   | some m =>
     cases e3 : readD 65535 d with
     | none => rw [e1, e2, e3] at h; cases h
     | some n =>
       cases e4 : inP (kindP b) e with
       | none => rw [e1, e2, e3, e4] at h; cases h
       | some i =>
         rw [e1, e2, e3, e4] at h
         simp only at h
         split at h
         · cases h
         · rename_i q
           cases h
           obtain ⟨f1, f2⟩ := read_back e1
           obtain ⟨m1, m2⟩ := read_back e2
           obtain ⟨n1, n2⟩ := read_back e3
           obtain ⟨k1, k2⟩ := kind_back q
           obtain ⟨i1, i2, i3, i4⟩ := inP_back e4
           refine ⟨?_, ⟨by simp; omega, by show 0 ≤ kindP b ∧ kindP b < 256; omega, by simp; omega, by simp; omega, bs_in _, i4⟩, rfl⟩
           rw [line_text, ins_text]
           simp only [Int.toNat_natCast]
           rw [f1, m1, n1, k1, tx_bsL, i1]
theorem lineP_back {l : List UInt8} {x : Nd} (h : lineP l = some x) : lineL x = l ∧ x.In ∧ x.er = x := by
 unfold lineP at h
 have hj := join_spl 32 4 l
 split at h
 · rename_i a b c d e hs
   obtain ⟨h1, h2, h3⟩ := partP_back h
   rw [hs] at hj
   exact ⟨h1.trans hj, h2, h3⟩
 · cases h
theorem line_free {x : Nd} (h : nodeOk x = true) : (10 : UInt8) ∉ lineL x := by
 have hd : ∀ n, (10 : UInt8) ∉ Lib.decDigits n := fun n => dec_free (by decide) n
 have hi : (10 : UInt8) ∉ (insB x).data.toList := by
   rw [ins_text]
   split
   · rename_i q
     unfold kidsT
     split
     · decide
     · have : ∀ (l : List (List UInt8)), (∀ a ∈ l, (10 : UInt8) ∉ a) → (10 : UInt8) ∉ joinL 44 l := fun l => by
         induction l with
         | nil => intro _; simp [joinL]
         | cons a t ih =>
           intro hl
           cases t with
           | nil => exact hl a (List.mem_cons_self ..)
           | cons b t =>
             intro hm
             rw [joinL] at hm
             rcases List.mem_append.1 hm with e | e
             · exact hl a (List.mem_cons_self ..) e
             · rcases List.mem_cons.1 e with e | e
               · revert e; decide
               · exact ih (fun y hy => hl y (List.mem_cons_of_mem _ hy)) e
       refine this _ (fun a ha => ?_)
       obtain ⟨k, hm, rfl⟩ := List.mem_map.1 ha
       exact kid_free (kid_names h q k hm) (by decide +kernel) (by decide) (by decide)
   · exact qB_free (by decide) _
 rw [line_text]
 show (10 : UInt8) ∉ (_ ++ 32 :: (_ ++ 32 :: (_ ++ 32 :: (_ ++ 32 :: _))))
 simp only [List.mem_append, List.mem_cons, not_or]
 exact ⟨hd _, by decide, (word_free x.k).2, by decide, hd _, by decide, hd _, by decide, hi⟩
def readN : Nat → Nat → List UInt8 → Option (List Nd)
 | _, _, [] => some []
 | 0, _, _ :: _ => none
 | n + 1, r, a :: s => match (cutL 10 (a :: s)).2, lineP (cutL 10 (a :: s)).1, r with
   | some t, some x, r + 1 => (readN n r t).map (x :: ·)
   | _, _, _ => none
theorem readN_step (n r : Nat) {s : List UInt8} (h : s ≠ []) : readN (n + 1) r s = (match (cutL 10 s).2, lineP (cutL 10 s).1, r with
   | some t, some x, r + 1 => (readN n r t).map (x :: ·)
   | _, _, _ => none) := by
 cases s with
 | nil => exact absurd rfl h
 | cons a s => rfl
theorem readN_of : ∀ (l : List Nd) (n r : Nat), (∀ x ∈ l, nodeOk x = true ∧ x.In) → l.length ≤ r → l.length ≤ n → readN n r (l.flatMap fun x => lineL x ++ [10]) = some (l.map Nd.er)
 | [], n, r, _, _, _ => by cases n <;> rfl
 | x :: t, 0, r, _, _, h => by simp at h
 | x :: t, n + 1, 0, _, h, _ => by simp at h
 | x :: t, n + 1, r + 1, hx, hr, hn => by
   obtain ⟨h1, h2⟩ := hx x (List.mem_cons_self ..)
   have e : ((x :: t).flatMap fun x => lineL x ++ [10]) = lineL x ++ 10 :: (t.flatMap fun x => lineL x ++ [10]) := by rw [List.flatMap_cons]; simp
   rw [e, readN_step _ _ (by simp), cut_app _ (line_free h1), lineP_of h1 h2]
   simp only
   rw [readN_of t n r (fun y hy => hx y (List.mem_cons_of_mem _ hy)) (by simpa using hr) (by simpa using hn)]
   rfl
theorem readN_back : ∀ (n r : Nat) (s : List UInt8) (l : List Nd), readN n r s = some l → (l.flatMap fun x => lineL x ++ [10]) = s ∧ l.length ≤ r ∧ ∀ x ∈ l, x.In ∧ x.er = x
 | n, r, [], l, h => by
   have : l = [] := by cases n <;> (cases h; rfl)
   subst this
   exact ⟨rfl, Nat.zero_le _, fun x hx => by cases hx⟩
 | 0, r, a :: s, l, h => by cases h
 | n + 1, r, a :: s, l, h => by
   rw [readN_step _ _ (by simp)] at h
   split at h
   · rename_i t x r' h1 h2
     cases hg : readN n r' t with
     | none => rw [hg] at h; cases h
     | some m =>
       rw [hg] at h
       cases h
       obtain ⟨q1, q2, q3⟩ := readN_back n r' t m hg
       obtain ⟨p1, p2, p3⟩ := lineP_back h2
       refine ⟨?_, by simpa using q2, fun y hy => ?_⟩
       · rw [List.flatMap_cons, q1, p1, (cut_some h1).1]
         simp
         rw [← (cut_some h1).1]
       · rcases List.mem_cons.1 hy with e | e
         · rw [e]; exact ⟨p2, p3⟩
         · exact q3 y e
   · cases h
end Go.Proofs.YtkokjkaclcjnjaaDoor
