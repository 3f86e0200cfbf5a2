/-
  The document's disk: its sectors one behind the other, its buffer; what building and laying of them does.
-/
import Derived.Test.YteimegacnmakaabDOpen
import Derived.Maps.AppendAt
import Derived.OwnWalk
namespace Go.Proofs.Yteimegacnmakaab
open Go.RowKit Go.ChangeShapes Go.WideShapes Go.ChangeAt
set_option linter.unusedVariables false
set_option linter.unusedSimpArgs false
/-- A sector of the buffer, as cells. -/
def lcells (p : Int × Sec) : List Value := .int .i64 p.1 :: p.2.map by8
theorem lcells_len (p : Int × Sec) (h : p.2.length = 32) : (lcells p).length = 33 := by simp [lcells, h]
theorem lcells_one (p : Int × Sec) : ∀ v ∈ lcells p, v.oneCell' = true := by
  intro v hv
  unfold lcells at hv
  rcases List.mem_cons.1 hv with rfl | hv
  · rfl
  · obtain ⟨x, _, rfl⟩ := List.mem_map.1 hv; rfl
theorem fold_fill (off : Nat) : ∀ (l : List Value) (k : Nat) (cs : Array Value), off + k + l.length ≤ cs.size →
    (l.zipIdx k).foldl (fun cs (p : Value × Nat) => cs.setIfInBounds (off + p.2) p.1) cs = (cs.toList.take (off + k) ++ l ++ cs.toList.drop (off + k + l.length)).toArray
  | [], k, cs, h => by simp
  | v :: l, k, cs, h => by
    rw [List.zipIdx_cons, List.foldl_cons, fold_fill off l (k + 1) _ (by simp at h ⊢; omega)]
    congr 1
    rw [Array.toList_setIfInBounds]
    simp only [List.length_cons] at h ⊢
    rw [List.take_set, List.drop_set_of_lt (by omega)]
    have e : off + (k + 1) = (off + k) + 1 := by omega
    have hlt : off + k < cs.toList.length := by simp; omega
    rw [e, List.take_succ_eq_append_getElem hlt, List.set_append, if_neg (by rw [List.length_take]; omega), List.length_take]
    have : off + k - min (off + k) cs.toList.length = 0 := by omega
    rw [this]
    simp
    congr 1
    omega
theorem fill_at (off : Nat) (v cs : Array Value) (h : off + v.size ≤ cs.size) : v.zipIdx.foldl (fun cs (p : Value × Nat) => cs.setIfInBounds (off + p.2) p.1) cs = (cs.toList.take off ++ v.toList ++ cs.toList.drop (off + v.size)).toArray := by
  have := fold_fill off v.toList 0 cs (by simpa using h)
  simp only [Nat.add_zero, Array.length_toList] at this
  rw [← this]
  rw [← Array.foldl_toList, Array.toList_zipIdx]
theorem run_buildL (i : Int) (s : Sec) (hs : s.length = 32) (w : World) : (Instr.build 96 #[(0, .int .i64 i), (1, secV s)]).run Try.prog w = .ok (.agg (lcells (i, s)).toArray) w := by
  have e2 : ∀ cs : Array Value, cs.size = 33 → (secV s).cells.zipIdx.foldl (fun cs (p : Value × Nat) => cs.setIfInBounds (1 + p.2) p.1) cs = (cs.toList.take 1 ++ s.map by8).toArray := by
    intro cs hc
    rw [fill_at 1 (secV s).cells cs (by simp [secV, Value.cells, hs, hc])]
    simp [secV, Value.cells, hs]
    omega
  have e1 : (secV s).cells.size = 32 := by simp [secV, Value.cells, hs]
  have e3 : ∀ cs : Array Value, cs.size = 33 → Array.foldl (fun cs (p : Value × Nat) => cs.setIfInBounds (1 + p.2) p.1) cs (secV s).cells.zipIdx 0 32 = (cs.toList.take 1 ++ s.map by8).toArray := fun cs hc => by
    have h := e2 cs hc
    rw [Array.size_zipIdx, e1] at h
    exact h
  clear e2
  simp only [Instr.build, Sem.run_bind, Try.zeroValue96, run_underlying Try.underlying96, Result.andThen_ok]
  simp [Try.sizeOf3, Try.sizeOf61, Instr.fill, e1, e3, Result.andThen, Sem.run_bind]
  simp only [lcells]
  simp [Value.cells]
  exact (e3 _ rfl).trans rfl
theorem run_slice1 {t e : TypeId} {n : Nat} {z : Value} (ht : Try.prog.underlying t = some (.slice e)) (hn : ∀ w, (sizeOf e).run Try.prog w = .ok n w) (hz : ∀ w, (zeroValue e).run Try.prog w = .ok z w) (h0 : 0 < n) (h1 : n ≤ 16777216) (cs : Array Value) (hc : cs.size = n) (w : World) :
    (Instr.buildSlice t 1 #[(0, .agg cs)]).run Try.prog w = .ok (.slice (some ⟨w.heap.size, 0, none⟩) 1 1) (w.alloc (.cells cs e)) := by
  have e2 : ∀ xs : Array Value, xs.size = n → cs.zipIdx.foldl (fun cs (p : Value × Nat) => cs.setIfInBounds (0 + p.2) p.1) xs = cs := by
    intro xs hx
    rw [fill_at 0 cs xs (by omega)]
    apply Array.ext'
    simp [hc, hx]
  have e3 : ∀ xs : Array Value, xs.size = n → Array.foldl (fun cs (p : Value × Nat) => cs.setIfInBounds p.2 p.1) xs cs.zipIdx 0 n = cs := fun xs hx => by
    have h := e2 xs hx
    rw [Array.size_zipIdx, hc] at h
    simpa using h
  have h2 : ¬ n = 0 := by omega
  have h3 : ¬ 16777216 < n := by omega
  simp only [Instr.buildSlice, Sem.run_bind, run_underlying ht, hn, Result.andThen_ok]
  simp [h2, h3, hz, Instr.fill, Value.cells, hc, e3, Result.andThen, newRow, go_sem]
section
variable (w : World) {ops : Array Oper} {rest : List Oper} {o : Oper} {a : Act} {Q : Exit → Act → World → Prop}
theorem wpList_buildL (hg : o.guard = none) (x y : Operand) (hop : o.op = Op.build 96 #[(0, x), (1, y)]) (i : Int) (hx : a.eval x = .int .i64 i) (s : Sec) (hy : a.eval y = secV s) (hs : s.length = 32)
    (h : wpList Try.prog ops Q rest (a.put o.dst (.agg (lcells (i, s)).toArray)) w) : wpList Try.prog ops Q (o :: rest) a w := by
  refine wpList_plain hg fun K' hK' => ?_
  have e := run_buildL i s hs w
  unfold Oper.wp
  simp only [execOp, hop, List.map_toArray, List.map_cons, List.map_nil, hx, hy, Sem.run_bind, e, Result.andThen, Sem.run_pure]
  exact hK' _ _ h
theorem wpList_slice1 (hg : o.guard = none) (x : Operand) (t e : TypeId) (n : Nat) (z : Value) (hop : o.op = Op.buildSlice t 1 #[(0, x)]) (ht : Try.prog.underlying t = some (.slice e)) (hn : ∀ w, (sizeOf e).run Try.prog w = .ok n w) (hz : ∀ w, (zeroValue e).run Try.prog w = .ok z w) (h0 : 0 < n) (h1 : n ≤ 16777216) (cs : Array Value) (hx : a.eval x = .agg cs) (hc : cs.size = n)
    (h : wpList Try.prog ops Q rest (a.put o.dst (.slice (some ⟨w.heap.size, 0, none⟩) 1 1)) (w.alloc (.cells cs e))) : wpList Try.prog ops Q (o :: rest) a w := by
  refine wpList_plain hg fun K' hK' => ?_
  have e := run_slice1 ht hn hz h0 h1 cs hc w
  unfold Oper.wp
  simp only [execOp, hop, List.map_toArray, List.map_cons, List.map_nil, hx, Sem.run_bind, e, Result.andThen, Sem.run_pure]
  exact hK' _ _ h
end
theorem infoL : ∃ i : TypeInfo, Try.prog.info? 96 = some i ∧ i.zero = some (.agg (lcells (0, zsec)).toArray) ∧ i.size = 33 ∧ i.bytes = 40 := by
  have h : (Try.prog.info? 96).map (fun i => (i.zero, i.size, i.bytes)) = some (some (.agg (lcells (0, zsec)).toArray), 33, 40) := by kernel_rfl
  cases hi : Try.prog.info? 96 with
  | none => rw [hi] at h; cases h
  | some i => rw [hi] at h; simp at h; exact ⟨i, rfl, h.1, h.2.1, h.2.2⟩
theorem infoS : ∃ i : TypeInfo, Try.prog.info? 61 = some i ∧ i.zero = some (secV zsec) ∧ i.size = 32 ∧ i.bytes = 32 := by
  have h : (Try.prog.info? 61).map (fun i => (i.zero, i.size, i.bytes)) = some (some (secV zsec), 32, 32) := by kernel_rfl
  cases hi : Try.prog.info? 61 with
  | none => rw [hi] at h; cases h
  | some i => rw [hi] at h; simp at h; exact ⟨i, rfl, h.1, h.2.1, h.2.2⟩
theorem zeroL (w : World) : (zeroValue 96).run Try.prog w = .ok (.agg (lcells (0, zsec)).toArray) w := by
  obtain ⟨i, h1, h2, _⟩ := infoL
  simp [zeroValue, typeInfo, h1, h2]
theorem sizeL : (Try.prog.info? 96).map (·.size) = some 33 := by kernel_rfl
theorem sizeR : (Try.prog.info? 61).map (·.size) = some 32 := by kernel_rfl
/-- The document's disk: its struct in block r; its sectors L, and its buffer B, rising. -/
def IsR (w : World) (r N : Nat) (L : List Sec) (B : List (Int × Sec)) : Prop :=
  (∃ lv bv, w.heap[r]? = some (.cells #[lv, bv] 94 (0, 0)) ∧ w.ownsRow 0 61 32 lv N (L.flatMap fun s => s.map by8) ∧ w.ownsRow 0 96 33 bv B.length (B.flatMap lcells)) ∧
  L.length = N ∧ (∀ s ∈ L, IsSec s) ∧ B.Pairwise (fun p q => p.1 < q.1) ∧ (∀ p ∈ B, IsSec p.2 ∧ 0 ≤ p.1 ∧ p.1 < N) ∧ 1 ≤ N ∧ N ≤ 8
theorem own_out {S : Nat → Prop} {w w' : World} {base : Nat} {e : TypeId} {size : Nat} {v : Value} {n : Nat} {xs : List Value} (h : w.ownsRow base e size v n xs) (ho : Out S w w') (hS : ∀ k cur, w.heap[k]? = some (.cells cur e (0, 0)) → ¬ S k) : w'.ownsRow base e size v n xs := by
  obtain ⟨h1, h2⟩ := h
  refine ⟨h1, ?_⟩
  rcases h2 with h2 | ⟨g, cap, cur, a, b, c, d⟩
  · exact .inl h2
  · exact .inr ⟨g, cap, cur, a, b, by rw [ho.block g (lt_blk c) (hS g cur c)]; exact c, d⟩
theorem IsR.out {S : Nat → Prop} {w w' : World} {r N : Nat} {L : List Sec} {B : List (Int × Sec)} (h : IsR w r N L B) (ho : Out S w w') (hS : ∀ k cur t, w.heap[k]? = some (.cells cur t (0, 0)) → ¬ S k) : IsR w' r N L B := by
  obtain ⟨⟨lv, bv, h1, h2, h3⟩, h4⟩ := h
  exact ⟨⟨lv, bv, by rw [ho.block r (lt_blk h1) (hS r _ _ h1)]; exact h1, own_out h2 ho (fun k cur hk => hS k cur _ hk), own_out h3 ho (fun k cur hk => hS k cur _ hk)⟩, h4⟩
theorem IsR.later {w w' : World} {r N : Nat} {L : List Sec} {B : List (Int × Sec)} (h : IsR w r N L B) (hb : Below w.heap.size w w') : IsR w' r N L B :=
  h.out (S := fun _ => False) (Out.of hb) (fun _ _ _ _ => id)
/-- What the disk does leaves the document's alone, and the other way round. -/
theorem IsR.disk {w w' : World} {r N : Nat} {L : List Sec} {B : List (Int × Sec)} {d b1 b2 M : Nat} {on : Int → Sec} {c : Int → Option Sec} (h : IsR w r N L B) (hd : IsD w d b1 b2 M on c) (ho : Out (fun k => k = b1 ∨ k = b2) w w') : IsR w' r N L B := by
  refine h.out ho fun k cur t hk e => ?_
  obtain ⟨_, _, _, _, ⟨⟨D2, ⟨es2, cl2, hb2, _⟩, _⟩, _⟩, m, ⟨⟨D1, ⟨es1, cl1, hb1, _⟩, _⟩, _⟩, _⟩ := hd
  rcases e with rfl | rfl
  · rw [hb1] at hk; cases hk
  · rw [hb2] at hk; cases hk
theorem IsD.ref {w w' : World} {r N : Nat} {L : List Sec} {B : List (Int × Sec)} {d b1 b2 M : Nat} {on : Int → Sec} {c : Int → Option Sec} (hd : IsD w d b1 b2 M on c) (h : IsR w r N L B) (ho : Out (fun k => k = r) w w') : IsD w' d b1 b2 M on c := by
  obtain ⟨⟨lv, bv, h1, _, _⟩, _⟩ := h
  have hd' := hd
  obtain ⟨e0, _, _, _, ⟨⟨D2, ⟨es2, cl2, hb2, _⟩, _⟩, _⟩, m, ⟨⟨D1, ⟨es1, cl1, hb1, _⟩, _⟩, _⟩, _⟩ := hd'
  refine hd.out ho ?_ ?_ ?_
  · rintro rfl; rw [h1] at e0; cases e0
  · rintro rfl; rw [h1] at hb1; cases hb1
  · rintro rfl; rw [h1] at hb2; cases hb2
/-- Cells in the midst of a row. -/
theorem flat_take {α : Type} (f : α → List Value) (n : Nat) : ∀ (l : List α), (∀ x ∈ l, (f x).length = n) → ∀ (k : Nat) (x : α), l[k]? = some x → ∀ j v, (f x)[j]? = some v → (l.flatMap f)[k * n + j]? = some v
  | [], _, k, x, h => by simp at h
  | y :: l, hf, 0, x, h => by
    intro j v hv
    simp at h
    subst h
    rw [List.flatMap_cons, Nat.zero_mul, Nat.zero_add, List.getElem?_append_left (by have := (List.getElem?_eq_some_iff.1 hv).1; exact this)]
    exact hv
  | y :: l, hf, k + 1, x, h => by
    intro j v hv
    have := flat_take f n l (fun z hz => hf z (by simp [hz])) k x (by simpa using h) j v hv
    have hy := hf y (by simp)
    rw [List.flatMap_cons, List.getElem?_append_right (by rw [hy]; have : n ≤ (k + 1) * n := Nat.le_mul_of_pos_left n (by omega); omega), hy]
    rw [show (k + 1) * n + j - n = k * n + j from by rw [Nat.add_mul]; omega]
    exact this
theorem row_at {α : Type} {f : α → List Value} {n : Nat} {w : World} {base : Nat} {e : TypeId} {v : Value} {l : List α} (h : w.ownsRow base e n v l.length (l.flatMap f)) (hf : ∀ x ∈ l, (f x).length = n) (hl : 0 < l.length) :
    ∃ g cap, v = .slice (some ⟨g, 0, none⟩) l.length cap ∧ l.length ≤ cap ∧ g < w.heap.size ∧ (∃ cur, w.heap[g]? = some (.cells cur e (0, 0))) ∧ ∀ k x, l[k]? = some x → w.rangeAt g (k * n) (f x) := by
  rcases h.2 with ⟨_, h0⟩ | ⟨g, cap, cur, rfl, hb, hg, hn, hm, hs, ht⟩
  · omega
  · refine ⟨g, cap, rfl, hn, lt_blk hg, ⟨cur, hg⟩, fun k x hx j u hu => ?_⟩
    have h1 := flat_take f n l hf k x hx j u hu
    rw [← ht, List.getElem?_take] at h1
    split at h1
    · rw [cell_of_row _ _ _ _ _ _ hg]; simpa using h1
    · cases h1
/-- What the buffer is behind a Write: the reckoning of the loop. -/
def insStep (i : Int) (s : Sec) (st : List (Int × Sec) × Bool) (p : Int × Sec) : List (Int × Sec) × Bool :=
  let a := if st.2 = false ∧ i ≤ p.1 then st.1 ++ [(i, s)] else st.1
  (if p.1 = i then a else a ++ [p], st.2 || decide (i ≤ p.1))
def insTo (i : Int) (s : Sec) (B : List (Int × Sec)) : List (Int × Sec) × Bool := B.foldl (insStep i s) ([], false)
def ins (i : Int) (s : Sec) (B : List (Int × Sec)) : List (Int × Sec) := if (insTo i s B).2 then (insTo i s B).1 else (insTo i s B).1 ++ [(i, s)]
theorem insTo_snoc (i : Int) (s : Sec) (B : List (Int × Sec)) (p : Int × Sec) : insTo i s (B ++ [p]) = insStep i s (insTo i s B) p := by unfold insTo; rw [List.foldl_append]; rfl
/-- What the loop has made of a rising buffer so far. -/
theorem insTo_is (i : Int) (s : Sec) : ∀ (n : Nat) (B : List (Int × Sec)), B.length = n → B.Pairwise (fun p q => p.1 < q.1) →
    (insTo i s B).2 = B.any (fun p => decide (i ≤ p.1)) ∧ (insTo i s B).1 = B.filter (fun p => decide (p.1 < i)) ++ (if B.any (fun p => decide (i ≤ p.1)) then [(i, s)] else []) ++ B.filter (fun p => decide (i < p.1))
  | 0, B, h, _ => by
    obtain rfl := List.eq_nil_of_length_eq_zero h
    simp [insTo]
  | n + 1, B, h, hp => by
    rcases List.eq_nil_or_concat B with rfl | ⟨A, p, rfl⟩
    · simp at h
    · rw [List.concat_eq_append] at *
      have hp' := List.pairwise_append.1 hp
      obtain ⟨i1, i2⟩ := insTo_is i s n A (by simp at h; omega) hp'.1
      rw [insTo_snoc]
      unfold insStep
      rw [i1, i2]
      have hA : ∀ q ∈ A, q.1 < p.1 := fun q hq => hp'.2.2 q hq p (by simp)
      simp only [List.any_append, List.any_cons, List.any_nil, Bool.or_false, List.filter_append, List.filter_cons, List.filter_nil]
      refine ⟨trivial, ?_⟩
      by_cases hany : A.any (fun p => decide (i ≤ p.1)) = true
      · have hlt : i < p.1 := by
          rw [List.any_eq_true] at hany
          obtain ⟨q, hq, h2⟩ := hany
          have := hA q hq
          simp at h2
          omega
        have e1 : ¬ p.1 = i := by omega
        have e2 : ¬ p.1 < i := by omega
        simp [hany, e1, e2, hlt]
      · have hany' : A.any (fun p => decide (i ≤ p.1)) = false := by simpa using hany
        have hf : A.filter (fun p => decide (i < p.1)) = [] := by
          rw [List.filter_eq_nil_iff]
          intro q hq
          have := List.any_eq_false.1 hany' q hq
          simp at this ⊢
          omega
        rw [hany', hf]
        by_cases h1 : i ≤ p.1
        · by_cases h2 : p.1 = i
          · have e2 : ¬ p.1 < i := by omega
            have e3 : ¬ i < p.1 := by omega
            simp [h1, h2, e2, e3]
          · have e2 : ¬ p.1 < i := by omega
            have e3 : i < p.1 := by omega
            simp [h1, h2, e2, e3]
        · have e1 : ¬ p.1 = i := by omega
          have e2 : p.1 < i := by omega
          have e3 : ¬ i < p.1 := by omega
          simp [h1, e1, e2, e3]
theorem ins_is (i : Int) (s : Sec) (B : List (Int × Sec)) (hp : B.Pairwise (fun p q => p.1 < q.1)) : ins i s B = B.filter (fun p => decide (p.1 < i)) ++ [(i, s)] ++ B.filter (fun p => decide (i < p.1)) := by
  obtain ⟨h1, h2⟩ := insTo_is i s B.length B rfl hp
  unfold ins
  rw [h1, h2]
  cases hany : B.any (fun p => decide (i ≤ p.1)) with
  | true => simp
  | false =>
    have hf : B.filter (fun p => decide (i < p.1)) = [] := by
      rw [List.filter_eq_nil_iff]
      intro q hq
      have := List.any_eq_false.1 hany q hq
      simp at this ⊢
      omega
    simp [hf]
theorem ins_mem (i : Int) (s : Sec) (B : List (Int × Sec)) (hp : B.Pairwise (fun p q => p.1 < q.1)) (q : Int × Sec) : q ∈ ins i s B ↔ q = (i, s) ∨ (q ∈ B ∧ q.1 ≠ i) := by
  rw [ins_is i s B hp]
  simp only [List.mem_append, List.mem_filter, List.mem_singleton, decide_eq_true_eq]
  constructor
  · rintro ((⟨h1, h2⟩ | h) | ⟨h1, h2⟩)
    · exact .inr ⟨h1, by omega⟩
    · exact .inl h
    · exact .inr ⟨h1, by omega⟩
  · rintro (h | ⟨h1, h2⟩)
    · exact .inl (.inr h)
    · by_cases h3 : q.1 < i
      · exact .inl (.inl ⟨h1, h3⟩)
      · exact .inr ⟨h1, by omega⟩
theorem ins_rising (i : Int) (s : Sec) (B : List (Int × Sec)) (hp : B.Pairwise (fun p q => p.1 < q.1)) : (ins i s B).Pairwise (fun p q => p.1 < q.1) := by
  rw [ins_is i s B hp]
  refine List.pairwise_append.2 ⟨List.pairwise_append.2 ⟨hp.filter _, by simp, ?_⟩, hp.filter _, ?_⟩
  · intro a ha b hb
    simp at ha hb
    subst hb
    exact ha.2
  · intro a ha b hb
    simp at ha hb
    rcases ha with ha | rfl
    · have := ha.2; have := hb.2; omega
    · exact hb.2
theorem insTo_len (i : Int) (s : Sec) : ∀ (n : Nat) (B : List (Int × Sec)), B.length = n → (insTo i s B).1.length + (if (insTo i s B).2 then 0 else 1) ≤ n + 1
  | 0, B, h => by obtain rfl := List.eq_nil_of_length_eq_zero h; simp [insTo]
  | n + 1, B, h => by
    rcases List.eq_nil_or_concat B with rfl | ⟨A, p, rfl⟩
    · simp at h
    · rw [List.concat_eq_append] at *
      have ih := insTo_len i s n A (by simp at h; omega)
      rw [insTo_snoc]
      unfold insStep
      cases hq : (insTo i s A).2 with
      | true =>
        rw [hq] at ih
        simp at ih ⊢
        split
        · omega
        · simp only [List.length_append, List.length_singleton]; omega
      | false =>
        rw [hq] at ih
        by_cases h1 : i ≤ p.1
        · simp [h1] at ih ⊢
          split <;> simp only [List.length_append, List.length_singleton, List.length_cons, List.length_nil] <;> omega
        · have e1 : ¬ p.1 = i := by omega
          simp [h1, e1] at ih ⊢
          omega
end Go.Proofs.Yteimegacnmakaab
