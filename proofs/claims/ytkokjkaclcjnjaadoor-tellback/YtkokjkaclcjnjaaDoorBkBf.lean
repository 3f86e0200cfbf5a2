/-
  The document's Line: its answer.
  The document's Get and above (backwaterref06).
  The document's tree: Get, kid, dir, Look, what they answer to the letter.
  The document's tree: without, set: lists of nodes that are made anew.
  The document's tree: enter: a directory with an entry more, or less.
  The document's tree: dir, Look, less.
  The document's tree: copied: nodes whose lists are their own.
  Trees' texts read, plainly: what Read of the program reads is what Tree writes.
-/
import Derived.Test.YtkokjkaclcjnjaaDoorBkBe
import Derived.Test.YtkokjkaclcjnjaaDoorBkAq
import Derived.BigQuiet
import Derived.Test.YtkokjkaclcjnjaaDoorBkAz
namespace Go.Proofs.YtkokjkaclcjnjaaDoor
open Go.RowKit Go.ChangeShapes Go.WideShapes Go.ChangeAt
set_option linter.unusedVariables false
set_option linter.unusedSimpArgs false
set_option maxRecDepth 100000
theorem node_kind {x : Nd} (hr : nodeOk x = true) : x.k = 1 ∨ x.k = 2 ∨ x.k = 3 := by
 unfold nodeOk at hr
 simp only [Bool.and_eq_true] at hr
 have h3 := hr.2
 by_cases q1 : x.k = 1
 · exact .inl q1
 by_cases q2 : x.k = 2
 · exact .inr (.inl q2)
 by_cases q3 : x.k = 3
 · exact .inr (.inr q3)
 · simp [q1, q2, q3] at h3
end Go.Proofs.YtkokjkaclcjnjaaDoor
namespace Go.Proofs.YtkokjkaclcjnjaaDoor
open Go.RowKit Go.ChangeShapes Go.WideShapes Go.ChangeAt Go.Maps
set_option linter.unusedVariables false
set_option linter.unusedSimpArgs false
set_option maxRecDepth 100000
def hasTo (l : List Nd) (f : Int) : Nat → Bool
 | 0 => false
 | m + 1 => hasTo l f m || (l.getD m Nd.no).fid == f
def hasF (l : List Nd) (f : Int) : Bool := hasTo l f l.length
theorem has_yes (l : List Nd) (f : Int) (m : Nat) (h : ((l.getD m Nd.no).fid == f) = true) : ∀ d, hasTo l f (m + 1 + d) = true
 | 0 => by simp only [Nat.add_zero, hasTo, h, Bool.or_true]
 | d + 1 => by rw [← Nat.add_assoc]; simp only [hasTo, has_yes l f m h d, Bool.true_or]
theorem hasF_yes {l : List Nd} {f : Int} {m : Nat} (hm : m < l.length) (h : ((l.getD m Nd.no).fid == f) = true) : hasF l f = true := by
 unfold hasF
 obtain ⟨d, hd⟩ : ∃ d, l.length = m + 1 + d := ⟨l.length - (m + 1), by omega⟩
 rw [hd]; exact has_yes l f m h d
def upM (x : Nd) (f acc : Int) : Nat → Int
 | 0 => acc
 | m + 1 => bif (x.ks.getD m Kd.no).fid == f then x.fid else upM x f acc m
def upK (l : List Nd) (f : Int) : Nat → Int
 | 0 => 0
 | k + 1 => upM (l.getD k Nd.no) f (upK l f k) (l.getD k Nd.no).ks.length
def upD (l : List Nd) (f : Int) : Int := upK l f l.length
def abN (l : List Nd) (f : Int) : Nat → Int → Bool
 | 0, _ => false
 | n + 1, at' => bif at' == f then true else bif upD l at' == 0 then false else abN l f n (upD l at')
end Go.Proofs.YtkokjkaclcjnjaaDoor
namespace Go.Proofs.YtkokjkaclcjnjaaDoor
open Go.RowKit Go.ChangeShapes Go.WideShapes Go.ChangeAt Go.Maps Go.Shelf
set_option linter.unusedVariables false
set_option linter.unusedSimpArgs false
set_option maxRecDepth 100000
def getF (l : List Nd) (f : Int) : Option Nd := l.find? (fun x => x.fid == f)
theorem getF_mem {l : List Nd} {f : Int} {x : Nd} (h : getF l f = some x) : x ∈ l ∧ x.fid = f := by
 unfold getF at h
 exact ⟨List.mem_of_find?_eq_some h, by simpa using List.find?_some h⟩
def kidI (l : List Kd) (s : ByteArray) : Int := match l.find? (fun k => decide (k.nm = s)) with
 | some k => k.fid
 | none => 0
def OwN (w : World) (base : Nat) (v : Value) (L : List Nd) : Prop := w.ownsRow base 35 6 v L.length (ncells L)
theorem OwN.nil (w : World) (base : Nat) : OwN w base (.slice none 0 0) [] := World.ownsRow_nil _ _ _ _
theorem OwN.later {w w' : World} {base : Nat} {v : Value} {L : List Nd} (h : OwN w base v L) (hb : Below w.heap.size w w') : OwN w' base v L := own_latR h hb
theorem OwN.shape {w : World} {base : Nat} {v : Value} {L : List Nd} (h : OwN w base v L) : ∃ a cap, v = .slice a L.length cap := by
 rcases h.2 with ⟨hv, hn⟩ | ⟨g, cap, cur, hv, hrest⟩
 · exact ⟨none, 0, by rw [hv, hn]⟩
 · exact ⟨_, _, hv⟩
theorem OwN.is {w : World} {base : Nat} {v : Value} {L : List Nd} (h : OwN w base v L) (hk : ∀ x ∈ L, x.Ok w) (hm : L.length ≤ 100000) : ∃ a cap, v = .slice a L.length cap ∧ IsNs w a L := by
 rcases h.2 with ⟨hv, hn⟩ | ⟨g, cap, cur, hv, hrest⟩
 · have e : L = [] := List.eq_nil_of_length_eq_zero hn
   subst e
   exact ⟨none, 0, hv, ⟨Nat.zero_le _, (fun x hx => by cases hx), fun hp => absurd hp (by simp)⟩⟩
 · refine ⟨_, _, hv, ⟨by unfold maxLen; omega, hk, fun hp => ⟨g, 0, rfl, fun i hi => ?_⟩⟩⟩
   intro j u hu
   have hj : j < 6 := by
     have := (List.getElem?_eq_some_iff.1 hu).1
     simpa [Nd.cells] using this
   have e := h.cells (g := g) (by rw [hv]; rfl) (i * 6 + j) u (by rw [ncells_get L i j hi hj]; exact hu)
   rw [← e]
   congr 1
   unfold Addr.add
   split
   · rename_i q; simp [q]
   · simp
theorem below_grownN {B : Nat} {a w w' : World} {base : Nat} {v : Value} {L : List Nd} (h : Below B a w) (hown : OwN w base v L) (hB : B ≤ base) (hBw : B ≤ w.heap.size) (hg : w.grownBy w' v.ownBlock) : Below B a w' := by
 refine ⟨hg.os.trans h.os, hg.tape.trans h.tape, hg.output.trans h.output, Nat.le_trans h.size hg.size, fun k hk => ?_⟩
 rw [hg.block k (by omega) ?_]
 · exact h.block k hk
 · intro e
   rcases hown.2 with ⟨hv, hn⟩ | ⟨g, cap, cur, hv, hb, hrest⟩
   · rw [hv] at e; cases e
   · rw [hv] at e
     cases e
     have hb' : base ≤ g := hb
     have hk' : g < B := hk
     omega
theorem wpList_appNd (w : World) {ops : Array Oper} {rest : List Oper} {o : Oper} {a : Act} {Q : Exit → Act → World → Prop} (hgd : o.guard = none) (s x : Operand)
   (ho : o.op = .call { callee := .builtin .append, args := #[s, x], argTypes := #[38, 38] }) (base : Nat) (v : Value) (L : List Nd) (hs : a.eval s = v) (hown : OwN w base v L)
   (g : Nat) (fr : Nat × Nat) (y : Nd) (hx : a.eval x = .slice (some ⟨g, 0, none⟩) 1 1) (hb : w.heap[g]? = some (.cells y.cells.toArray 35 fr)) (h63 : L.length ≤ 10000) (hbase : base ≤ w.heap.size)
   (h : ∀ v' w', OwN w' base v' (L ++ [y]) → w.grownBy w' v.ownBlock → wpList Tryd.prog ops Q rest (a.put o.dst v') w') : wpList Tryd.prog ops Q (o :: rest) a w := by
 obtain ⟨i0, hi, hz0, hz1, hz2⟩ := info_nd
 refine wpList_append_own w hgd s x 38 ho base 35 i0 Nd.no.val 6 64 Tryd.underlying38 hi hz0 hz1 hz2 (by rfl) (by decide) v L.length (ncells L) hs hown ⟨g, 0, none⟩ 1 1 y.cells hx rfl (nd_news hb) (nd_one y) (by unfold maxLen; omega) (by omega) hbase ?_
 intro v' w' h1 h2 h3
 refine h v' w' ?_ h2
 unfold OwN
 rw [ncells_snoc, List.length_append]
 exact h1
def outL (l : List Nd) (f : Int) : List Nd := l.filter (fun x => x.fid != f)
def setS (n : Nd) (p : List Nd × Bool) (x : Nd) : List Nd × Bool :=
 ((if !p.2 && decide (n.fid ≤ x.fid) then p.1 ++ [n] else p.1) ++ (if x.fid != n.fid then [x] else []), p.2 || decide (n.fid ≤ x.fid))
def setL (l : List Nd) (n : Nd) : List Nd := if (l.foldl (setS n) ([], false)).2 then (l.foldl (setS n) ([], false)).1 else (l.foldl (setS n) ([], false)).1 ++ [n]
def OwK (w : World) (base : Nat) (v : Value) (L : List Kd) : Prop := w.ownsRow base 71 2 v L.length (kcells L)
theorem OwK.nil (w : World) (base : Nat) : OwK w base (.slice none 0 0) [] := World.ownsRow_nil _ _ _ _
theorem OwK.later {w w' : World} {base : Nat} {v : Value} {L : List Kd} (h : OwK w base v L) (hb : Below w.heap.size w w') : OwK w' base v L := own_latR h hb
theorem OwK.shape {w : World} {base : Nat} {v : Value} {L : List Kd} (h : OwK w base v L) : ∃ a cap, v = .slice a L.length cap := by
 rcases h.2 with ⟨hv, hn⟩ | ⟨g, cap, cur, hv, hrest⟩
 · exact ⟨none, 0, by rw [hv, hn]⟩
 · exact ⟨_, _, hv⟩
theorem below_grownK {B : Nat} {a w w' : World} {base : Nat} {v : Value} {L : List Kd} (h : Below B a w) (hown : OwK w base v L) (hB : B ≤ base) (hBw : B ≤ w.heap.size) (hg : w.grownBy w' v.ownBlock) : Below B a w' := by
 refine ⟨hg.os.trans h.os, hg.tape.trans h.tape, hg.output.trans h.output, Nat.le_trans h.size hg.size, fun k hk => ?_⟩
 rw [hg.block k (by omega) ?_]
 · exact h.block k hk
 · intro e
   rcases hown.2 with ⟨hv, hn⟩ | ⟨g, cap, cur, hv, hb, hrest⟩
   · rw [hv] at e; cases e
   · rw [hv] at e
     cases e
     have hb' : base ≤ g := hb
     have hk' : g < B := hk
     omega
theorem wpList_appKd (w : World) {ops : Array Oper} {rest : List Oper} {o : Oper} {a : Act} {Q : Exit → Act → World → Prop} (hgd : o.guard = none) (s x : Operand)
   (ho : o.op = .call { callee := .builtin .append, args := #[s, x], argTypes := #[33, 33] }) (base : Nat) (v : Value) (L : List Kd) (hs : a.eval s = v) (hown : OwK w base v L)
   (g : Nat) (fr : Nat × Nat) (y : Kd) (hx : a.eval x = .slice (some ⟨g, 0, none⟩) 1 1) (hb : w.heap[g]? = some (.cells y.cells.toArray 71 fr)) (h63 : L.length ≤ 10000) (hbase : base ≤ w.heap.size)
   (h : ∀ v' w', OwK w' base v' (L ++ [y]) → w.grownBy w' v.ownBlock → wpList Tryd.prog ops Q rest (a.put o.dst v') w') : wpList Tryd.prog ops Q (o :: rest) a w := by
 obtain ⟨i0, hi, hz0, hz1, hz2⟩ := info_kid
 refine wpList_append_own w hgd s x 33 ho base 71 i0 Kd.no.val 2 24 Tryd.underlying33 hi hz0 hz1 hz2 (by rfl) (by decide) v L.length (kcells L) hs hown ⟨g, 0, none⟩ 1 1 y.cells hx rfl (kid_news hb) (kid_one y) (by unfold maxLen; omega) (by omega) hbase ?_
 intro v' w' h1 h2 h3
 refine h v' w' ?_ h2
 unfold OwK
 rw [kcells_snoc, List.length_append]
 exact h1
def entS (s : ByteArray) (f : Int) (p : List Kd × Bool) (x : Kd) : List Kd × Bool :=
 ((if !p.2 && leS s x.nm then p.1 ++ [⟨s, f⟩] else p.1) ++ (if decide (x.nm ≠ s) then [x] else []), p.2 || leS s x.nm)
def entL (l : List Kd) (s : ByteArray) (f : Int) : List Kd := if (l.foldl (entS s f) ([], f == 0)).2 then (l.foldl (entS s f) ([], f == 0)).1 else (l.foldl (entS s f) ([], f == 0)).1 ++ [⟨s, f⟩]
def Nd.kids (x : Nd) (ka : Option Addr) (kc : Nat) (ks : List Kd) : Nd := ⟨x.fid, x.k, x.md, x.ln, x.da, x.dc, x.zs, ka, kc, ks⟩
def dirE (o : Option Nd) : Int := match o with
 | none => 5
 | some x => if x.k = 2 then 0 else 7
def dirN (o : Option Nd) : Nd := match o with
 | none => Nd.no
 | some x => if x.k = 2 then x else Nd.no
def lookI (o : Option Nd) (s : ByteArray) : Int := match o with
 | none => 0
 | some x => if x.k = 2 then kidI x.ks s else 0
def lookE (o : Option Nd) (s : ByteArray) : Int := match o with
 | none => 5
 | some x => if x.k = 2 then (if kidI x.ks s = 0 then 5 else 0) else 7
def lessL (l : List Nd) (x : Nd) : List Nd := if x.ln = 1 then outL l x.fid else setL l ⟨x.fid, x.k, x.md, x.ln - 1, x.da, x.dc, x.zs, x.ka, x.kc, x.ks⟩
def Nd.Nil (x : Nd) : Prop := (x.da = none → x.dc = 0) ∧ (x.ka = none → x.kc = 0)
theorem RowAt.lowR {w : World} {base b : Nat} {t : TypeId} {p : Option Addr} {vs : List Value} (h : RowAt w base t p vs) (hb : b ≤ base) : RowAt w b t p vs := by
 rcases h with h | ⟨g, cs, fr, h1, h2, h3, h4⟩
 · exact .inl h
 · exact .inr ⟨g, cs, fr, h1, by omega, h3, h4⟩
end Go.Proofs.YtkokjkaclcjnjaaDoor
namespace Go.Proofs.YtkokjkaclcjnjaaDoor
open Go.RowKit Go.ChangeShapes Go.WideShapes Go.ChangeAt
set_option linter.unusedVariables false
set_option linter.unusedSimpArgs false
set_option maxRecDepth 100000
def Nd.In (x : Nd) : Prop := (0 ≤ x.fid ∧ x.fid < 4294967296) ∧ (0 ≤ x.k ∧ x.k < 256) ∧ (0 ≤ x.md ∧ x.md < 65536) ∧ (0 ≤ x.ln ∧ x.ln < 65536) ∧ (∀ y ∈ x.zs, 0 ≤ y ∧ y ≤ 255) ∧ ∀ q ∈ x.ks, 0 ≤ q.fid ∧ q.fid < 4294967296
theorem ok_in {x : Nd} {w : World} (h : x.Ok w) : x.In := by
 obtain ⟨h1, h2, h3, h4, h5, h6⟩ := h
 refine ⟨h1, h2, h3, h4, fun y hy => ?_, fun q hq => (h6.2.1 q hq).2⟩
 obtain ⟨i, hi, rfl⟩ := List.getElem_of_mem hy
 have := h5.2.2.2 i
 rwa [List.getD, List.getElem?_eq_getElem hi] at this
theorem kid_names {x : Nd} (h : nodeOk x = true) (h2 : x.k = 2) : ∀ q ∈ x.ks, Pa.nameB q.nm.data.toList = true := by
 unfold nodeOk at h
 simp only [Bool.and_eq_true] at h
 have h3 := h.2
 rw [h2] at h3
 have e1 : ((2 : Int) == 1 || (2 : Int) == 3) = false := by decide
 have e2 : ((2 : Int) == 2) = true := by decide
 rw [e1, e2] at h3
 simp only [cond_false, cond_true, Bool.and_eq_true] at h3
 intro q hq
 obtain ⟨i, hi, rfl⟩ := List.getElem_of_mem hq
 have g : x.ks.getD i Kd.no = x.ks[i] := by rw [List.getD, List.getElem?_eq_getElem hi]; rfl
 have := kidsTo_name _ h3.2 i hi
 rwa [g] at this
theorem dir_zs {x : Nd} (h : nodeOk x = true) (h2 : x.k = 2) : x.zs = [] := by
 unfold nodeOk at h
 simp only [Bool.and_eq_true] at h
 have h3 := h.2
 rw [h2] at h3
 have e1 : ((2 : Int) == 1 || (2 : Int) == 3) = false := by decide
 have e2 : ((2 : Int) == 2) = true := by decide
 rw [e1, e2] at h3
 simp only [cond_false, cond_true, Bool.and_eq_true, decide_eq_true_eq] at h3
 exact List.eq_nil_of_length_eq_zero h3.1
theorem file_ks {x : Nd} (h : nodeOk x = true) (h2 : x.k ≠ 2) : x.ks = [] := Classical.byContradiction fun e => h2 (ok_dir15 h e)
where
 ok_dir15 {x : Nd} (h : nodeOk x = true) (hk : x.ks ≠ []) : x.k = 2 := by
   rcases node_kind h with e | e | e
   · unfold nodeOk at h
     simp only [Bool.and_eq_true] at h
     have h3 := h.2
     simp [e] at h3
     exact absurd h3 hk
   · exact e
   · unfold nodeOk at h
     simp only [Bool.and_eq_true] at h
     have h3 := h.2
     simp [e] at h3
     exact absurd h3 hk
theorem ins_text (x : Nd) : (insB x).data.toList = if x.k = 2 then kidsT x.ks else quoteL (Fr.tx x.zs).data.toList := by
 unfold insB kidsT
 split
 · split
   · rfl
   · rw [← join_lib]
 · rfl
theorem line_text (x : Nd) : lineL x = joinL 32 [Lib.decDigits x.fid.toNat, (wordB x.k).data.toList, Lib.decDigits x.md.toNat, Lib.decDigits x.ln.toNat, (insB x).data.toList] := by
 unfold lineL
 rw [join_lib]
 unfold decB
 rfl
theorem word_free (k : Int) : (32 : UInt8) ∉ (wordB k).data.toList ∧ (10 : UInt8) ∉ (wordB k).data.toList := by
 unfold wordB
 split
 · decide
 · split
   · decide
   · split <;> decide
theorem kind_word {k : Int} (h : k = 1 ∨ k = 2 ∨ k = 3) : kindP (wordB k).data.toList = k := by
 rcases h with rfl | rfl | rfl <;> decide +kernel
theorem kind_back {b : List UInt8} (h : kindP b ≠ 0) : (wordB (kindP b)).data.toList = b ∧ (kindP b = 1 ∨ kindP b = 2 ∨ kindP b = 3) := by
 unfold kindP at h ⊢
 split
 · rename_i e; rw [e]; exact ⟨by decide +kernel, .inl rfl⟩
 · split
   · rename_i e; rw [e]; exact ⟨by decide +kernel, .inr (.inl rfl)⟩
   · split
     · rename_i e; rw [e]; exact ⟨by decide +kernel, .inr (.inr rfl)⟩
     · rename_i e1 e2 e3
       rw [if_neg e1, if_neg e2, if_neg e3] at h
       exact absurd rfl h
theorem spl5 {a b c d : List UInt8} (e : List UInt8) (ha : (32 : UInt8) ∉ a) (hb : (32 : UInt8) ∉ b) (hc : (32 : UInt8) ∉ c) (hd : (32 : UInt8) ∉ d) : splN 32 4 (joinL 32 [a, b, c, d, e]) = [a, b, c, d, e] := by
 show splN 32 4 (a ++ 32 :: (b ++ 32 :: (c ++ 32 :: (d ++ 32 :: e)))) = _
 rw [spl_cons 3 _ ha, spl_cons 2 _ hb, spl_cons 1 _ hc, spl_cons 0 _ hd]
 rfl
theorem tx_bsL (o : List UInt8) : (Fr.tx (Fr.bs ⟨o.toArray⟩)).data.toList = o := by rw [Fr.tx_bs]
theorem bs_txL {zs : List Int} (h : ∀ y ∈ zs, 0 ≤ y ∧ y ≤ 255) : Fr.bs ⟨(Fr.tx zs).data.toList.toArray⟩ = zs := by
 have e : (⟨(Fr.tx zs).data.toList.toArray⟩ : ByteArray) = Fr.tx zs := by apply ByteArray.ext; simp
 rw [e, Fr.bs_tx zs h]
theorem partP_some {a b c d e : List UInt8} {f m n : Nat} {i : List UInt8 × List Kd} (h1 : readD 4294967295 a = some f) (h2 : readD 65535 c = some m) (h3 : readD 65535 d = some n) (h4 : inP (kindP b) e = some i) (h5 : kindP b ≠ 0) :
   partP a b c d e = some ⟨(f : Int), kindP b, (m : Int), (n : Int), none, 0, Fr.bs ⟨i.1.toArray⟩, none, 0, i.2⟩ := by
 unfold partP
 rw [h1, h2, h3, h4]
 simp only
 rw [if_neg h5]
theorem lineP_of {x : Nd} (h : nodeOk x = true) (hx : x.In) : lineP (lineL x) = some x.er := by
 have hk := node_kind h
 obtain ⟨h1, h2, h3, h4, h5, h6⟩ := hx
 have e1 := read_dec (most := 4294967295) (n := x.fid.toNat) (by omega)
 have e2 := read_dec (most := 65535) (n := x.md.toNat) (by omega)
 have e3 := read_dec (most := 65535) (n := x.ln.toNat) (by omega)
 have k1 := kind_word hk
 have hsm := node_small h
 have e4 : ∃ i, inP (kindP (wordB x.k).data.toList) (insB x).data.toList = some i ∧ Fr.bs ⟨i.1.toArray⟩ = x.zs ∧ i.2 = x.ks := by
   rw [k1, ins_text]
   unfold inP
   by_cases q : x.k = 2
   · rw [if_pos q, if_pos q, kidsP_of hsm.2.1 (fun k hk => ⟨kid_names h q k hk, by have := hsm.2.2 k hk; unfold Kd.Wf maxLen; have := h6 k hk; omega⟩)]
     exact ⟨_, rfl, by rw [dir_zs h q]; rfl, rfl⟩
   · rw [if_neg q, if_neg q, unq_quote]
     exact ⟨_, rfl, bs_txL h5, (file_ks h q).symm⟩
 obtain ⟨i, e4, e5, e6⟩ := e4
 unfold lineP
 rw [line_text, spl5 _ (dec_free (by decide) _) (word_free x.k).1 (dec_free (by decide) _) (dec_free (by decide) _)]
 show partP _ _ _ _ _ = _
 rw [partP_some e1 e2 e3 e4 (by rw [k1]; omega), k1, e5, e6]
 obtain ⟨xf, xk, xm, xl, xda, xdc, xzs, xka, xkc, xks⟩ := x
 simp only at h1 h3 h4 ⊢
 unfold Nd.er Nd.lie
 simp only [Option.some.injEq, Nd.mk.injEq, and_true, true_and]
 omega
theorem inP_back {k : Int} {e : List UInt8} {i : List UInt8 × List Kd} (h : inP k e = some i) : (if k = 2 then kidsT i.2 else quoteL i.1) = e ∧ (k ≠ 2 → i.2 = []) ∧ (k = 2 → i.1 = []) ∧ ∀ q ∈ i.2, 0 ≤ q.fid ∧ q.fid < 4294967296 := by
 unfold inP at h
 split at h
 · rename_i q
   cases hp : kidsP e with
   | none => rw [hp] at h; cases h
   | some l =>
     rw [hp] at h
     cases h
     obtain ⟨h1, h2, h3⟩ := kidsP_back hp
     exact ⟨by rw [if_pos q]; exact h1, fun n => absurd q n, fun _ => rfl, h3⟩
 · rename_i q
   cases hp : unqL e with
   | none => rw [hp] at h; cases h
   | some o =>
     rw [hp] at h
     cases h
     exact ⟨by rw [if_neg q]; exact unq_back hp, fun _ => rfl, fun n => absurd n q, fun q hq => by cases hq⟩
theorem bs_in (o : List UInt8) : ∀ y ∈ Fr.bs ⟨o.toArray⟩, 0 ≤ y ∧ y ≤ 255 := fun y hy => by
 unfold Fr.bs at hy
 obtain ⟨c, _, rfl⟩ := List.mem_map.1 hy
 have := c.toNat_lt
 omega
theorem partP_back {a b c d e : List UInt8} {x : Nd} (h : partP a b c d e = some x) : lineL x = joinL 32 [a, b, c, d, e] ∧ x.In ∧ x.er = x := by
 unfold partP at h
 cases e1 : readD 4294967295 a with
 | none => rw [e1] at h; cases h
 | some f =>
   cases e2 : readD 65535 c with
   | none => rw [e1, e2] at h; cases h
   | some m =>
     cases e3 : readD 65535 d with
     | none => rw [e1, e2, e3] at h; cases h
     | some n =>
       cases e4 : inP (kindP b) e with
       | none => rw [e1, e2, e3, e4] at h; cases h
       | some i =>
         rw [e1, e2, e3, e4] at h
         simp only at h
         split at h
         · cases h
         · rename_i q
           cases h
           obtain ⟨f1, f2⟩ := read_back e1
           obtain ⟨m1, m2⟩ := read_back e2
           obtain ⟨n1, n2⟩ := read_back e3
           obtain ⟨k1, k2⟩ := kind_back q
           obtain ⟨i1, i2, i3, i4⟩ := inP_back e4
           refine ⟨?_, ⟨by simp; omega, by show 0 ≤ kindP b ∧ kindP b < 256; omega, by simp; omega, by simp; omega, bs_in _, i4⟩, rfl⟩
           rw [line_text, ins_text]
           simp only [Int.toNat_natCast]
           rw [f1, m1, n1, k1, tx_bsL, i1]
theorem lineP_back {l : List UInt8} {x : Nd} (h : lineP l = some x) : lineL x = l ∧ x.In ∧ x.er = x := by
 unfold lineP at h
 have hj := join_spl 32 4 l
 split at h
 · rename_i a b c d e hs
   obtain ⟨h1, h2, h3⟩ := partP_back h
   rw [hs] at hj
   exact ⟨h1.trans hj, h2, h3⟩
 · cases h
theorem line_free {x : Nd} (h : nodeOk x = true) : (10 : UInt8) ∉ lineL x := by
 have hd : ∀ n, (10 : UInt8) ∉ Lib.decDigits n := fun n => dec_free (by decide) n
 have hi : (10 : UInt8) ∉ (insB x).data.toList := by
   rw [ins_text]
   split
   · rename_i q
     unfold kidsT
     split
     · decide
     · have : ∀ (l : List (List UInt8)), (∀ a ∈ l, (10 : UInt8) ∉ a) → (10 : UInt8) ∉ joinL 44 l := fun l => by
         induction l with
         | nil => intro _; simp [joinL]
         | cons a t ih =>
           intro hl
           cases t with
           | nil => exact hl a (List.mem_cons_self ..)
           | cons b t =>
             intro hm
             rw [joinL] at hm
             rcases List.mem_append.1 hm with e | e
             · exact hl a (List.mem_cons_self ..) e
             · rcases List.mem_cons.1 e with e | e
               · revert e; decide
               · exact ih (fun y hy => hl y (List.mem_cons_of_mem _ hy)) e
       refine this _ (fun a ha => ?_)
       obtain ⟨k, hm, rfl⟩ := List.mem_map.1 ha
       exact kid_free (kid_names h q k hm) (by decide +kernel) (by decide) (by decide)
   · exact qB_free (by decide) _
 rw [line_text]
 show (10 : UInt8) ∉ (_ ++ 32 :: (_ ++ 32 :: (_ ++ 32 :: (_ ++ 32 :: _))))
 simp only [List.mem_append, List.mem_cons, not_or]
 exact ⟨hd _, by decide, (word_free x.k).2, by decide, hd _, by decide, hd _, by decide, hi⟩
def readN : Nat → Nat → List UInt8 → Option (List Nd)
 | _, _, [] => some []
 | 0, _, _ :: _ => none
 | n + 1, r, a :: s => match (cutL 10 (a :: s)).2, lineP (cutL 10 (a :: s)).1, r with
   | some t, some x, r + 1 => (readN n r t).map (x :: ·)
   | _, _, _ => none
theorem readN_step (n r : Nat) {s : List UInt8} (h : s ≠ []) : readN (n + 1) r s = (match (cutL 10 s).2, lineP (cutL 10 s).1, r with
   | some t, some x, r + 1 => (readN n r t).map (x :: ·)
   | _, _, _ => none) := by
 cases s with
 | nil => exact absurd rfl h
 | cons a s => rfl
theorem readN_of : ∀ (l : List Nd) (n r : Nat), (∀ x ∈ l, nodeOk x = true ∧ x.In) → l.length ≤ r → l.length ≤ n → readN n r (l.flatMap fun x => lineL x ++ [10]) = some (l.map Nd.er)
 | [], n, r, _, _, _ => by cases n <;> rfl
 | x :: t, 0, r, _, _, h => by simp at h
 | x :: t, n + 1, 0, _, h, _ => by simp at h
 | x :: t, n + 1, r + 1, hx, hr, hn => by
   obtain ⟨h1, h2⟩ := hx x (List.mem_cons_self ..)
   have e : ((x :: t).flatMap fun x => lineL x ++ [10]) = lineL x ++ 10 :: (t.flatMap fun x => lineL x ++ [10]) := by rw [List.flatMap_cons]; simp
   rw [e, readN_step _ _ (by simp), cut_app _ (line_free h1), lineP_of h1 h2]
   simp only
   rw [readN_of t n r (fun y hy => hx y (List.mem_cons_of_mem _ hy)) (by simpa using hr) (by simpa using hn)]
   rfl
theorem readN_back : ∀ (n r : Nat) (s : List UInt8) (l : List Nd), readN n r s = some l → (l.flatMap fun x => lineL x ++ [10]) = s ∧ l.length ≤ r ∧ ∀ x ∈ l, x.In ∧ x.er = x
 | n, r, [], l, h => by
   have : l = [] := by cases n <;> (cases h; rfl)
   subst this
   exact ⟨rfl, Nat.zero_le _, fun x hx => by cases hx⟩
 | 0, r, a :: s, l, h => by cases h
 | n + 1, r, a :: s, l, h => by
   rw [readN_step _ _ (by simp)] at h
   split at h
   · rename_i t x r' h1 h2
     cases hg : readN n r' t with
     | none => rw [hg] at h; cases h
     | some m =>
       rw [hg] at h
       cases h
       obtain ⟨q1, q2, q3⟩ := readN_back n r' t m hg
       obtain ⟨p1, p2, p3⟩ := lineP_back h2
       refine ⟨?_, by simpa using q2, fun y hy => ?_⟩
       · rw [List.flatMap_cons, q1, p1, (cut_some h1).1]
         simp
         rw [← (cut_some h1).1]
       · rcases List.mem_cons.1 hy with e | e
         · rw [e]; exact ⟨p2, p3⟩
         · exact q3 y e
   · cases h
end Go.Proofs.YtkokjkaclcjnjaaDoor
