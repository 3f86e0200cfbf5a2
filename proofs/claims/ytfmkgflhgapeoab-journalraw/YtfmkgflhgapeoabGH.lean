/-
  The document's disk: its sectors one behind the other, its buffer; what building and laying of them does.
  What Write of the document's disk does.
  What New, Size, Read and Loose of the document's disk return.
  What out, Flush and Crash of the document's disk do.
  What Fork of the document's disk does.
-/
import Derived.Test.YtfmkgflhgapeoabGG
import Derived.Test.YtfmkgflhgapeoabGF
import Derived.Maps.AppendAt
import Derived.OwnWalk
import Derived.Deep.MidRow
import Derived.Laws.ResultCell
import Derived.Laws.AppendOwnNone
namespace Go.Proofs.Ytfmkgflhgapeoab
open Go.RowKit Go.ChangeShapes Go.WideShapes Go.ChangeAt
set_option linter.unusedVariables false
set_option linter.unusedSimpArgs false
/-- A sector of the buffer, as cells. -/
def lcells (p : Int × Sec) : List Value := .int .i64 p.1 :: p.2.map by8
theorem lcells_len (p : Int × Sec) (h : p.2.length = 32) : (lcells p).length = 33 := by simp [lcells, h]
theorem lcells_one (p : Int × Sec) : ∀ v ∈ lcells p, v.oneCell' = true := by
  intro v hv
  unfold lcells at hv
  rcases List.mem_cons.1 hv with rfl | hv
  · rfl
  · obtain ⟨x, _, rfl⟩ := List.mem_map.1 hv; rfl
theorem fold_fill (off : Nat) : ∀ (l : List Value) (k : Nat) (cs : Array Value), off + k + l.length ≤ cs.size →
    (l.zipIdx k).foldl (fun cs (p : Value × Nat) => cs.setIfInBounds (off + p.2) p.1) cs = (cs.toList.take (off + k) ++ l ++ cs.toList.drop (off + k + l.length)).toArray
  | [], k, cs, h => by simp
  | v :: l, k, cs, h => by
    rw [List.zipIdx_cons, List.foldl_cons, fold_fill off l (k + 1) _ (by simp at h ⊢; omega)]
    congr 1
    rw [Array.toList_setIfInBounds]
    simp only [List.length_cons] at h ⊢
    rw [List.take_set, List.drop_set_of_lt (by omega)]
    have e : off + (k + 1) = (off + k) + 1 := by omega
    have hlt : off + k < cs.toList.length := by simp; omega
    rw [e, List.take_succ_eq_append_getElem hlt, List.set_append, if_neg (by rw [List.length_take]; omega), List.length_take]
    have : off + k - min (off + k) cs.toList.length = 0 := by omega
    rw [this]
    simp
    congr 1
    omega
theorem fill_at (off : Nat) (v cs : Array Value) (h : off + v.size ≤ cs.size) : v.zipIdx.foldl (fun cs (p : Value × Nat) => cs.setIfInBounds (off + p.2) p.1) cs = (cs.toList.take off ++ v.toList ++ cs.toList.drop (off + v.size)).toArray := by
  have := fold_fill off v.toList 0 cs (by simpa using h)
  simp only [Nat.add_zero, Array.length_toList] at this
  rw [← this]
  rw [← Array.foldl_toList, Array.toList_zipIdx]
theorem run_buildL (i : Int) (s : Sec) (hs : s.length = 32) (w : World) : (Instr.build 54 #[(0, .int .i64 i), (1, secV s)]).run Try.prog w = .ok (.agg (lcells (i, s)).toArray) w := by
  have e2 : ∀ cs : Array Value, cs.size = 33 → (secV s).cells.zipIdx.foldl (fun cs (p : Value × Nat) => cs.setIfInBounds (1 + p.2) p.1) cs = (cs.toList.take 1 ++ s.map by8).toArray := by
    intro cs hc
    rw [fill_at 1 (secV s).cells cs (by simp [secV, Value.cells, hs, hc])]
    simp [secV, Value.cells, hs]
    omega
  have e1 : (secV s).cells.size = 32 := by simp [secV, Value.cells, hs]
  have e3 : ∀ cs : Array Value, cs.size = 33 → Array.foldl (fun cs (p : Value × Nat) => cs.setIfInBounds (1 + p.2) p.1) cs (secV s).cells.zipIdx 0 32 = (cs.toList.take 1 ++ s.map by8).toArray := fun cs hc => by
    have h := e2 cs hc
    rw [Array.size_zipIdx, e1] at h
    exact h
  clear e2
  simp only [Instr.build, Sem.run_bind, Try.zeroValue54, run_underlying Try.underlying54, Result.andThen_ok]
  simp [Try.sizeOf3, Try.sizeOf36, Instr.fill, e1, e3, Result.andThen, Sem.run_bind]
  simp only [lcells]
  simp [Value.cells]
  exact (e3 _ rfl).trans rfl
theorem run_slice1 {t e : TypeId} {n : Nat} {z : Value} (ht : Try.prog.underlying t = some (.slice e)) (hn : ∀ w, (sizeOf e).run Try.prog w = .ok n w) (hz : ∀ w, (zeroValue e).run Try.prog w = .ok z w) (h0 : 0 < n) (h1 : n ≤ 16777216) (cs : Array Value) (hc : cs.size = n) (w : World) :
    (Instr.buildSlice t 1 #[(0, .agg cs)]).run Try.prog w = .ok (.slice (some ⟨w.heap.size, 0, none⟩) 1 1) (w.alloc (.cells cs e)) := by
  have e2 : ∀ xs : Array Value, xs.size = n → cs.zipIdx.foldl (fun cs (p : Value × Nat) => cs.setIfInBounds (0 + p.2) p.1) xs = cs := by
    intro xs hx
    rw [fill_at 0 cs xs (by omega)]
    apply Array.ext'
    simp [hc, hx]
  have e3 : ∀ xs : Array Value, xs.size = n → Array.foldl (fun cs (p : Value × Nat) => cs.setIfInBounds p.2 p.1) xs cs.zipIdx 0 n = cs := fun xs hx => by
    have h := e2 xs hx
    rw [Array.size_zipIdx, hc] at h
    simpa using h
  have h2 : ¬ n = 0 := by omega
  have h3 : ¬ 16777216 < n := by omega
  simp only [Instr.buildSlice, Sem.run_bind, run_underlying ht, hn, Result.andThen_ok]
  simp [h2, h3, hz, Instr.fill, Value.cells, hc, e3, Result.andThen, newRow, go_sem]
section
variable (w : World) {ops : Array Oper} {rest : List Oper} {o : Oper} {a : Act} {Q : Exit → Act → World → Prop}
theorem wpList_buildL (hg : o.guard = none) (x y : Operand) (hop : o.op = Op.build 54 #[(0, x), (1, y)]) (i : Int) (hx : a.eval x = .int .i64 i) (s : Sec) (hy : a.eval y = secV s) (hs : s.length = 32)
    (h : wpList Try.prog ops Q rest (a.put o.dst (.agg (lcells (i, s)).toArray)) w) : wpList Try.prog ops Q (o :: rest) a w := by
  refine wpList_plain hg fun K' hK' => ?_
  have e := run_buildL i s hs w
  unfold Oper.wp
  simp only [execOp, hop, List.map_toArray, List.map_cons, List.map_nil, hx, hy, Sem.run_bind, e, Result.andThen, Sem.run_pure]
  exact hK' _ _ h
theorem wpList_slice1 (hg : o.guard = none) (x : Operand) (t e : TypeId) (n : Nat) (z : Value) (hop : o.op = Op.buildSlice t 1 #[(0, x)]) (ht : Try.prog.underlying t = some (.slice e)) (hn : ∀ w, (sizeOf e).run Try.prog w = .ok n w) (hz : ∀ w, (zeroValue e).run Try.prog w = .ok z w) (h0 : 0 < n) (h1 : n ≤ 16777216) (cs : Array Value) (hx : a.eval x = .agg cs) (hc : cs.size = n)
    (h : wpList Try.prog ops Q rest (a.put o.dst (.slice (some ⟨w.heap.size, 0, none⟩) 1 1)) (w.alloc (.cells cs e))) : wpList Try.prog ops Q (o :: rest) a w := by
  refine wpList_plain hg fun K' hK' => ?_
  have e := run_slice1 ht hn hz h0 h1 cs hc w
  unfold Oper.wp
  simp only [execOp, hop, List.map_toArray, List.map_cons, List.map_nil, hx, Sem.run_bind, e, Result.andThen, Sem.run_pure]
  exact hK' _ _ h
end
theorem infoL : ∃ i : TypeInfo, Try.prog.info? 54 = some i ∧ i.zero = some (.agg (lcells (0, zsec)).toArray) ∧ i.size = 33 ∧ i.bytes = 40 := by
  have h : (Try.prog.info? 54).map (fun i => (i.zero, i.size, i.bytes)) = some (some (.agg (lcells (0, zsec)).toArray), 33, 40) := by kernel_rfl
  cases hi : Try.prog.info? 54 with
  | none => rw [hi] at h; cases h
  | some i => rw [hi] at h; simp at h; exact ⟨i, rfl, h.1, h.2.1, h.2.2⟩
theorem infoS : ∃ i : TypeInfo, Try.prog.info? 36 = some i ∧ i.zero = some (secV zsec) ∧ i.size = 32 ∧ i.bytes = 32 := by
  have h : (Try.prog.info? 36).map (fun i => (i.zero, i.size, i.bytes)) = some (some (secV zsec), 32, 32) := by kernel_rfl
  cases hi : Try.prog.info? 36 with
  | none => rw [hi] at h; cases h
  | some i => rw [hi] at h; simp at h; exact ⟨i, rfl, h.1, h.2.1, h.2.2⟩
theorem zeroL (w : World) : (zeroValue 54).run Try.prog w = .ok (.agg (lcells (0, zsec)).toArray) w := by
  obtain ⟨i, h1, h2, _⟩ := infoL
  simp [zeroValue, typeInfo, h1, h2]
theorem sizeL : (Try.prog.info? 54).map (·.size) = some 33 := by kernel_rfl
theorem sizeR : (Try.prog.info? 36).map (·.size) = some 32 := by kernel_rfl
/-- The document's disk: its struct in block r; its sectors L, and its buffer B, rising. -/
def IsR (w : World) (r N : Nat) (L : List Sec) (B : List (Int × Sec)) : Prop :=
  (∃ lv bv, w.heap[r]? = some (.cells #[lv, bv] 51 (0, 0)) ∧ w.ownsRow 0 36 32 lv N (L.flatMap fun s => s.map by8) ∧ w.ownsRow 0 54 33 bv B.length (B.flatMap lcells)) ∧
  L.length = N ∧ (∀ s ∈ L, IsSec s) ∧ B.Pairwise (fun p q => p.1 < q.1) ∧ (∀ p ∈ B, IsSec p.2 ∧ 0 ≤ p.1 ∧ p.1 < N) ∧ 1 ≤ N ∧ N ≤ 2048
theorem own_out {S : Nat → Prop} {w w' : World} {base : Nat} {e : TypeId} {size : Nat} {v : Value} {n : Nat} {xs : List Value} (h : w.ownsRow base e size v n xs) (ho : Out S w w') (hS : ∀ k cur, w.heap[k]? = some (.cells cur e (0, 0)) → ¬ S k) : w'.ownsRow base e size v n xs := by
  obtain ⟨h1, h2⟩ := h
  refine ⟨h1, ?_⟩
  rcases h2 with h2 | ⟨g, cap, cur, a, b, c, d⟩
  · exact .inl h2
  · exact .inr ⟨g, cap, cur, a, b, by rw [ho.block g (lt_blk c) (hS g cur c)]; exact c, d⟩
theorem IsR.out {S : Nat → Prop} {w w' : World} {r N : Nat} {L : List Sec} {B : List (Int × Sec)} (h : IsR w r N L B) (ho : Out S w w') (hS : ∀ k cur t, w.heap[k]? = some (.cells cur t (0, 0)) → ¬ S k) : IsR w' r N L B := by
  obtain ⟨⟨lv, bv, h1, h2, h3⟩, h4⟩ := h
  exact ⟨⟨lv, bv, by rw [ho.block r (lt_blk h1) (hS r _ _ h1)]; exact h1, own_out h2 ho (fun k cur hk => hS k cur _ hk), own_out h3 ho (fun k cur hk => hS k cur _ hk)⟩, h4⟩
theorem IsR.later {w w' : World} {r N : Nat} {L : List Sec} {B : List (Int × Sec)} (h : IsR w r N L B) (hb : Below w.heap.size w w') : IsR w' r N L B :=
  h.out (S := fun _ => False) (Out.of hb) (fun _ _ _ _ => id)
/-- What the disk does leaves the document's alone, and the other way round. -/
theorem IsR.disk {w w' : World} {r N : Nat} {L : List Sec} {B : List (Int × Sec)} {d b1 b2 M : Nat} {on : Int → Sec} {c : Int → Option Sec} (h : IsR w r N L B) (hd : IsD w d b1 b2 M on c) (ho : Out (fun k => k = b1 ∨ k = b2) w w') : IsR w' r N L B := by
  refine h.out ho fun k cur t hk e => ?_
  obtain ⟨_, _, _, _, ⟨⟨D2, ⟨es2, cl2, hb2, _⟩, _⟩, _⟩, m, ⟨⟨D1, ⟨es1, cl1, hb1, _⟩, _⟩, _⟩, _⟩ := hd
  rcases e with rfl | rfl
  · rw [hb1] at hk; cases hk
  · rw [hb2] at hk; cases hk
theorem IsD.ref {w w' : World} {r N : Nat} {L : List Sec} {B : List (Int × Sec)} {d b1 b2 M : Nat} {on : Int → Sec} {c : Int → Option Sec} (hd : IsD w d b1 b2 M on c) (h : IsR w r N L B) (ho : Out (fun k => k = r) w w') : IsD w' d b1 b2 M on c := by
  obtain ⟨⟨lv, bv, h1, _, _⟩, _⟩ := h
  have hd' := hd
  obtain ⟨e0, _, _, _, ⟨⟨D2, ⟨es2, cl2, hb2, _⟩, _⟩, _⟩, m, ⟨⟨D1, ⟨es1, cl1, hb1, _⟩, _⟩, _⟩, _⟩ := hd'
  refine hd.out ho ?_ ?_ ?_
  · rintro rfl; rw [h1] at e0; cases e0
  · rintro rfl; rw [h1] at hb1; cases hb1
  · rintro rfl; rw [h1] at hb2; cases hb2
/-- Cells in the midst of a row. -/
theorem flat_take {α : Type} (f : α → List Value) (n : Nat) : ∀ (l : List α), (∀ x ∈ l, (f x).length = n) → ∀ (k : Nat) (x : α), l[k]? = some x → ∀ j v, (f x)[j]? = some v → (l.flatMap f)[k * n + j]? = some v
  | [], _, k, x, h => by simp at h
  | y :: l, hf, 0, x, h => by
    intro j v hv
    simp at h
    subst h
    rw [List.flatMap_cons, Nat.zero_mul, Nat.zero_add, List.getElem?_append_left (by have := (List.getElem?_eq_some_iff.1 hv).1; exact this)]
    exact hv
  | y :: l, hf, k + 1, x, h => by
    intro j v hv
    have := flat_take f n l (fun z hz => hf z (by simp [hz])) k x (by simpa using h) j v hv
    have hy := hf y (by simp)
    rw [List.flatMap_cons, List.getElem?_append_right (by rw [hy]; have : n ≤ (k + 1) * n := Nat.le_mul_of_pos_left n (by omega); omega), hy]
    rw [show (k + 1) * n + j - n = k * n + j from by rw [Nat.add_mul]; omega]
    exact this
theorem row_at {α : Type} {f : α → List Value} {n : Nat} {w : World} {base : Nat} {e : TypeId} {v : Value} {l : List α} (h : w.ownsRow base e n v l.length (l.flatMap f)) (hf : ∀ x ∈ l, (f x).length = n) (hl : 0 < l.length) :
    ∃ g cap, v = .slice (some ⟨g, 0, none⟩) l.length cap ∧ l.length ≤ cap ∧ g < w.heap.size ∧ (∃ cur, w.heap[g]? = some (.cells cur e (0, 0))) ∧ ∀ k x, l[k]? = some x → w.rangeAt g (k * n) (f x) := by
  rcases h.2 with ⟨_, h0⟩ | ⟨g, cap, cur, rfl, hb, hg, hn, hm, hs, ht⟩
  · omega
  · refine ⟨g, cap, rfl, hn, lt_blk hg, ⟨cur, hg⟩, fun k x hx j u hu => ?_⟩
    have h1 := flat_take f n l hf k x hx j u hu
    rw [← ht, List.getElem?_take] at h1
    split at h1
    · rw [cell_of_row _ _ _ _ _ _ hg]; simpa using h1
    · cases h1
/-- What the buffer is behind a Write: the reckoning of the loop. -/
def insStep (i : Int) (s : Sec) (st : List (Int × Sec) × Bool) (p : Int × Sec) : List (Int × Sec) × Bool :=
  let a := if st.2 = false ∧ i ≤ p.1 then st.1 ++ [(i, s)] else st.1
  (if p.1 = i then a else a ++ [p], st.2 || decide (i ≤ p.1))
def insTo (i : Int) (s : Sec) (B : List (Int × Sec)) : List (Int × Sec) × Bool := B.foldl (insStep i s) ([], false)
def ins (i : Int) (s : Sec) (B : List (Int × Sec)) : List (Int × Sec) := if (insTo i s B).2 then (insTo i s B).1 else (insTo i s B).1 ++ [(i, s)]
theorem insTo_snoc (i : Int) (s : Sec) (B : List (Int × Sec)) (p : Int × Sec) : insTo i s (B ++ [p]) = insStep i s (insTo i s B) p := by unfold insTo; rw [List.foldl_append]; rfl
/-- What the loop has made of a rising buffer so far. -/
theorem insTo_is (i : Int) (s : Sec) : ∀ (n : Nat) (B : List (Int × Sec)), B.length = n → B.Pairwise (fun p q => p.1 < q.1) →
    (insTo i s B).2 = B.any (fun p => decide (i ≤ p.1)) ∧ (insTo i s B).1 = B.filter (fun p => decide (p.1 < i)) ++ (if B.any (fun p => decide (i ≤ p.1)) then [(i, s)] else []) ++ B.filter (fun p => decide (i < p.1))
  | 0, B, h, _ => by
    obtain rfl := List.eq_nil_of_length_eq_zero h
    simp [insTo]
  | n + 1, B, h, hp => by
    rcases List.eq_nil_or_concat B with rfl | ⟨A, p, rfl⟩
    · simp at h
    · rw [List.concat_eq_append] at *
      have hp' := List.pairwise_append.1 hp
      obtain ⟨i1, i2⟩ := insTo_is i s n A (by simp at h; omega) hp'.1
      rw [insTo_snoc]
      unfold insStep
      rw [i1, i2]
      have hA : ∀ q ∈ A, q.1 < p.1 := fun q hq => hp'.2.2 q hq p (by simp)
      simp only [List.any_append, List.any_cons, List.any_nil, Bool.or_false, List.filter_append, List.filter_cons, List.filter_nil]
      refine ⟨trivial, ?_⟩
      by_cases hany : A.any (fun p => decide (i ≤ p.1)) = true
      · have hlt : i < p.1 := by
          rw [List.any_eq_true] at hany
          obtain ⟨q, hq, h2⟩ := hany
          have := hA q hq
          simp at h2
          omega
        have e1 : ¬ p.1 = i := by omega
        have e2 : ¬ p.1 < i := by omega
        simp [hany, e1, e2, hlt]
      · have hany' : A.any (fun p => decide (i ≤ p.1)) = false := by simpa using hany
        have hf : A.filter (fun p => decide (i < p.1)) = [] := by
          rw [List.filter_eq_nil_iff]
          intro q hq
          have := List.any_eq_false.1 hany' q hq
          simp at this ⊢
          omega
        rw [hany', hf]
        by_cases h1 : i ≤ p.1
        · by_cases h2 : p.1 = i
          · have e2 : ¬ p.1 < i := by omega
            have e3 : ¬ i < p.1 := by omega
            simp [h1, h2, e2, e3]
          · have e2 : ¬ p.1 < i := by omega
            have e3 : i < p.1 := by omega
            simp [h1, h2, e2, e3]
        · have e1 : ¬ p.1 = i := by omega
          have e2 : p.1 < i := by omega
          have e3 : ¬ i < p.1 := by omega
          simp [h1, e1, e2, e3]
theorem ins_is (i : Int) (s : Sec) (B : List (Int × Sec)) (hp : B.Pairwise (fun p q => p.1 < q.1)) : ins i s B = B.filter (fun p => decide (p.1 < i)) ++ [(i, s)] ++ B.filter (fun p => decide (i < p.1)) := by
  obtain ⟨h1, h2⟩ := insTo_is i s B.length B rfl hp
  unfold ins
  rw [h1, h2]
  cases hany : B.any (fun p => decide (i ≤ p.1)) with
  | true => simp
  | false =>
    have hf : B.filter (fun p => decide (i < p.1)) = [] := by
      rw [List.filter_eq_nil_iff]
      intro q hq
      have := List.any_eq_false.1 hany q hq
      simp at this ⊢
      omega
    simp [hf]
theorem ins_mem (i : Int) (s : Sec) (B : List (Int × Sec)) (hp : B.Pairwise (fun p q => p.1 < q.1)) (q : Int × Sec) : q ∈ ins i s B ↔ q = (i, s) ∨ (q ∈ B ∧ q.1 ≠ i) := by
  rw [ins_is i s B hp]
  simp only [List.mem_append, List.mem_filter, List.mem_singleton, decide_eq_true_eq]
  constructor
  · rintro ((⟨h1, h2⟩ | h) | ⟨h1, h2⟩)
    · exact .inr ⟨h1, by omega⟩
    · exact .inl h
    · exact .inr ⟨h1, by omega⟩
  · rintro (h | ⟨h1, h2⟩)
    · exact .inl (.inr h)
    · by_cases h3 : q.1 < i
      · exact .inl (.inl ⟨h1, h3⟩)
      · exact .inr ⟨h1, by omega⟩
theorem ins_rising (i : Int) (s : Sec) (B : List (Int × Sec)) (hp : B.Pairwise (fun p q => p.1 < q.1)) : (ins i s B).Pairwise (fun p q => p.1 < q.1) := by
  rw [ins_is i s B hp]
  refine List.pairwise_append.2 ⟨List.pairwise_append.2 ⟨hp.filter _, by simp, ?_⟩, hp.filter _, ?_⟩
  · intro a ha b hb
    simp at ha hb
    subst hb
    exact ha.2
  · intro a ha b hb
    simp at ha hb
    rcases ha with ha | rfl
    · have := ha.2; have := hb.2; omega
    · exact hb.2
theorem insTo_len (i : Int) (s : Sec) : ∀ (n : Nat) (B : List (Int × Sec)), B.length = n → (insTo i s B).1.length + (if (insTo i s B).2 then 0 else 1) ≤ n + 1
  | 0, B, h => by obtain rfl := List.eq_nil_of_length_eq_zero h; simp [insTo]
  | n + 1, B, h => by
    rcases List.eq_nil_or_concat B with rfl | ⟨A, p, rfl⟩
    · simp at h
    · rw [List.concat_eq_append] at *
      have ih := insTo_len i s n A (by simp at h; omega)
      rw [insTo_snoc]
      unfold insStep
      cases hq : (insTo i s A).2 with
      | true =>
        rw [hq] at ih
        simp at ih ⊢
        split
        · omega
        · simp only [List.length_append, List.length_singleton]; omega
      | false =>
        rw [hq] at ih
        by_cases h1 : i ≤ p.1
        · simp [h1] at ih ⊢
          split <;> simp only [List.length_append, List.length_singleton, List.length_cons, List.length_nil] <;> omega
        · have e1 : ¬ p.1 = i := by omega
          simp [h1, e1] at ih ⊢
          omega
end Go.Proofs.Ytfmkgflhgapeoab
namespace Go.Proofs.Ytfmkgflhgapeoab
open Go.RowKit Go.ChangeShapes Go.WideShapes Go.ChangeAt
set_option linter.unusedVariables false
set_option linter.unusedSimpArgs false
theorem IsR.few {w : World} {r N : Nat} {L : List Sec} {B : List (Int × Sec)} (h : IsR w r N L B) : B.length ≤ N := by
  obtain ⟨_, _, _, hp, hB, _, _⟩ := h
  have := few_keys N (B.map (·.1)) (by rw [List.pairwise_map]; exact hp.imp fun {a b} h => by omega) (fun x hx => by
    obtain ⟨p, hp1, rfl⟩ := List.mem_map.1 hx
    exact (hB p hp1).2)
  simpa using this
theorem IsR.row {w : World} {r N : Nat} {L : List Sec} {B : List (Int × Sec)} (h : IsR w r N L B) : ∃ al capl ab capb, w.heap[r]? = some (.cells #[.slice al N capl, .slice ab B.length capb] 51 (0, 0)) ∧
    w.ownsRow 0 36 32 (.slice al N capl) N (L.flatMap fun s => s.map by8) ∧ w.ownsRow 0 54 33 (.slice ab B.length capb) B.length (B.flatMap lcells) := by
  obtain ⟨⟨lv, bv, h1, h2, h3⟩, _⟩ := h
  obtain ⟨al, capl, rfl⟩ := own_shape6 h2
  obtain ⟨ab, capb, rfl⟩ := own_shape6 h3
  exact ⟨al, capl, ab, capb, h1, h2, h3⟩
theorem news_of (W : World) (cs : List Value) (t : TypeId) : ∀ j u, cs[j]? = some u → (W.alloc (.cells cs.toArray t)).cell? ((⟨W.heap.size, 0, none⟩ : Addr).add j) = some u := by
  intro j u hu
  have hadd : (⟨W.heap.size, 0, none⟩ : Addr).add j = ⟨W.heap.size, j, none⟩ := by unfold Addr.add; split <;> simp_all
  rw [hadd, cell_of_row _ _ _ _ _ _ (heap_alloc_new W _)]
  simpa using hu
theorem two_cells {w : World} {r : Nat} {x y : Value} {t : TypeId} (h : w.heap[r]? = some (.cells #[x, y] t (0, 0))) : w.cell? ⟨r, 0, none⟩ = some x ∧ w.cell? ⟨r, 1, none⟩ = some y ∧ w.frozen? ⟨r, 0, none⟩ = false ∧ w.frozen? ⟨r, 1, none⟩ = false := by
  simp [World.cell?, World.frozen?, h]
theorem set_second {w : World} {r : Nat} {x y z : Value} {t : TypeId} (h : w.heap[r]? = some (.cells #[x, y] t (0, 0))) : (w.setCell ⟨r, 1, none⟩ z).heap[r]? = some (.cells #[x, z] t (0, 0)) := by
  simp only [World.setCell, Array.getElem?_modify, h]
  simp
theorem set_first {w : World} {r : Nat} {x y z : Value} {t : TypeId} (h : w.heap[r]? = some (.cells #[x, y] t (0, 0))) : (w.setCell ⟨r, 0, none⟩ z).heap[r]? = some (.cells #[z, y] t (0, 0)) := by
  simp only [World.setCell, Array.getElem?_modify, h]
  simp
theorem Out.setOne {S : Nat → Prop} (w : World) (p : Addr) (v : Value) (h : S p.block) : Out S w (w.setCell p v) :=
  ⟨rfl, rfl, rfl, by simp [World.setCell], fun k _ hk => Below.heap_setCell _ _ _ _ (fun e => hk (by rw [e]; exact h))⟩
theorem own_set {w : World} {base : Nat} {e : TypeId} {size : Nat} {v : Value} {n : Nat} {xs : List Value} {r : Nat} {x y : Value} {t : TypeId} (h : w.ownsRow base e size v n xs) (hr : w.heap[r]? = some (.cells #[x, y] t (0, 0))) (hne : e ≠ t) (o : Nat) (z : Value) : (w.setCell ⟨r, o, none⟩ z).ownsRow base e size v n xs :=
  own_out h (Out.setOne (S := fun k => k = r) w ⟨r, o, none⟩ z rfl) (fun k cur hk e' => by subst e'; rw [hr] at hk; cases hk; exact hne rfl)
theorem own0 {w : World} {base : Nat} {e : TypeId} {size : Nat} {v : Value} {n : Nat} {xs : List Value} (h : w.ownsRow base e size v n xs) : w.ownsRow 0 e size v n xs := by
  refine ⟨h.1, ?_⟩
  rcases h.2 with h2 | ⟨g, cap, cur, a, b, c⟩
  · exact .inl h2
  · exact .inr ⟨g, cap, cur, a, Nat.zero_le _, c⟩
theorem own_lat {w w' : World} {base : Nat} {e : TypeId} {size : Nat} {v : Value} {n : Nat} {xs : List Value} (h : w.ownsRow base e size v n xs) (hb : Below w.heap.size w w') : w'.ownsRow base e size v n xs :=
  own_out h (Out.of (S := fun _ => False) hb) (fun _ _ _ => id)
theorem range_lat {w w' : World} {g o : Nat} {cs : List Value} (h : w.rangeAt g o cs) (hb : Below w.heap.size w w') (hg : g < w.heap.size) : w'.rangeAt g o cs := fun j v hv => by
  rw [← h j v hv]; exact World.cell?_of_block (hb.block g hg)
set_option maxRecDepth 100000 in
set_option maxHeartbeats 1000000 in
theorem rwrite_bad {w : World} {r N : Nat} {L : List Sec} {B : List (Int × Sec)} (h : IsR w r N L B) (i : Int) (s : Sec) (hi : i < 0 ∨ (N : Int) ≤ i) :
    Calls Try.prog 7 #[pD r, .int .i64 i, secV s] w fun e w' => e = .returned (.int .i64 2) ∧ Below w.heap.size w w' := by
  unfold secV
  have hb1 : Below w.heap.size w (w.alloc (.cells (s.map by8).toArray 36)) := (Below.refl _ _).alloc (Nat.le_refl _) _
  obtain ⟨al, capl, ab, capb, hr, _, _⟩ := (h.later hb1).row
  obtain ⟨c0, _, _, _⟩ := two_cells hr
  clear hr
  by_cases h0 : i < 0
  · go_enter Try.func7, Try.ntmps7
    go_wp2
    go_ret
    exact ⟨rfl, hb1⟩
  · have h1 : (N : Int) ≤ i := by omega
    go_enter Try.func7, Try.ntmps7
    go_wp2
    go_ret
    exact ⟨rfl, hb1⟩
set_option maxRecDepth 100000 in
set_option maxHeartbeats 4000000 in
theorem rwrite_c {w : World} {r N : Nat} {L : List Sec} {B : List (Int × Sec)} (h : IsR w r N L B) (i : Int) (s : Sec) (hs : IsSec s) (h0 : 0 ≤ i) (h1 : i < N) :
    Calls Try.prog 7 #[pD r, .int .i64 i, secV s] w fun e w' => e = .returned (.int .i64 0) ∧ IsR w' r N L (ins i s B) ∧ Out (fun k => k = r) w w' := by
  unfold secV
  have hb1 : Below w.heap.size w (w.alloc (.cells (s.map by8).toArray 36)) := (Below.refl _ _).alloc (Nat.le_refl _) _
  have HX : Hid ((w.alloc (.cells (s.map by8).toArray 36)).heap[w.heap.size]? = some (.cells (s.map by8).toArray 36)) := heap_alloc_new w _
  have HXL : Hid (w.heap.size < (w.alloc (.cells (s.map by8).toArray 36)).heap.size) := by show _ < _; simp
  have hIR := h.later hb1
  obtain ⟨al, capl, ab, capb, hr, hol, hob⟩ := hIR.row
  obtain ⟨c0, c1, f0, f1⟩ := two_cells hr
  have hfew := h.few
  have hN8 : N ≤ 2048 := h.2.2.2.2.2.2
  have HBS := hid h.2.2.2.2.1
  have HP := hid h.2.2.2.1
  have HR := hid hr
  have HOL := hid hol
  have HOB := hid hob
  have H := hid h
  have HB1 := hid hb1
  have hrl : r < (w.alloc (.cells (s.map by8).toArray 36)).heap.size := lt_blk hr
  obtain ⟨iL, hi, hz0, hz1, hz2⟩ := infoL
  have hzc : (Value.agg (lcells (0, zsec)).toArray).cells.size = 33 := by rfl
  clear h hIR hr hol hob hb1
  go_enter Try.func7, Try.ntmps7
  go_wp2
  generalize (w.alloc (.cells (s.map by8).toArray 36)) = W at *
  go_loopw [7, 8, 9] (fun v pl k wr => ∃ m : Nat, m ≤ B.length ∧ k = .int .i64 m ∧ pl = .bool (insTo i s (B.take m)).2 ∧ wr.ownsRow W.heap.size 54 33 v (insTo i s (B.take m)).1.length ((insTo i s (B.take m)).1.flatMap lcells) ∧ Below W.heap.size W wr) (fun _ _ k _ => (B.length - intOf k).toNat)
  case atStart => exact ⟨0, by omega, rfl, rfl, World.ownsRow_nil _ _ _ _, Below.refl _ _⟩
  case round =>
    obtain ⟨m, hm, rfl, rfl, hown, hB⟩ := hrel
    have hc1 : wr.cell? ⟨r, 1, none⟩ = some (.slice ab B.length capb) := by rw [← c1]; exact World.cell?_of_block (hB.block r hrl)
    have hx : wr.heap[w.heap.size]? = some (.cells (s.map by8).toArray 36) := by rw [hB.block _ HXL.out]; exact HX.out
    have hsz := hB.size
    have HIL := hid (insTo_len i s m (B.take m) (by rw [List.length_take]; omega))
    by_cases hml : m < B.length
    · obtain ⟨p, hp⟩ : ∃ p, B[m]? = some p := ⟨B[m], List.getElem?_eq_getElem hml⟩
      have hpB : p ∈ B := List.mem_of_getElem? hp
      obtain ⟨g, cap', eg, hcap, hgl, _, hrg⟩ := row_at HOB.out (fun x hx => lcells_len x (HBS.out x hx).1.1) (by omega)
      cases eg
      have hrp : wr.rangeAt g (m * 33) (lcells p) := range_lat (hrg m p hp) hB hgl
      have HRW := hid (hrg m p hp)
      have hpc : wr.cell? ⟨g, m * 33, none⟩ = some (.int .i64 p.1) := hrp 0 _ rfl
      have hIS : insTo i s (B.take (m + 1)) = insStep i s (insTo i s (B.take m)) p := by
        rw [← insTo_snoc]; congr 1
        rw [List.take_succ_eq_append_getElem hml]
        rw [List.getElem?_eq_getElem hml] at hp
        cases hp; rfl
      have HIS := hid hIS
      have hp32 : p.2.length = 32 := (HBS.out p hpB).1.1
      obtain ⟨acc, pl, eacc⟩ : ∃ acc pl, insTo i s (B.take m) = (acc, pl) := ⟨_, _, rfl⟩
      rw [eacc] at hown HIS HIL ⊢
      simp only at hown HIL ⊢
      have hal : acc.length ≤ 2049 := by
        have := HIL.out
        split at this <;> omega
      obtain ⟨pi, ps⟩ := p
      simp only at hpc hp32
      have HHB := hid hB
      have HRP := hid hrp
      clear hIS eacc hrg hpB hp HIL hB hrp
      obtain ⟨av, capv, eav⟩ := own_shape6 hown
      rw [eav] at hown ⊢
      clear eav
      cases pl with
      | true =>
        by_cases h2 : pi = i
        · have h2b : (pi == i) = true := by simp [h2]
          have H2 := hid h2
          clear h2
          go_wp2
          have eI : insStep i s (acc, true) (pi, ps) = (acc, true) := by simp [insStep, H2.out]
          go_roundw
          case rel =>
            refine ⟨m + 1, by omega, by go_num, by rw [HIS.out, eI], ?_, HHB.out⟩
            rw [HIS.out, eI]
            exact hown
          case measure => simp [intOf]; omega
        · have h2b : (pi == i) = false := by simp [h2]
          go_wp2_with (first
            | (refine wpList_load_mid rfl _ _ rfl g (m * 33) rfl (lcells (pi, ps)) _ HRP.out Try.underlying54 rfl (by rw [sizeL]; simp [lcells, hp32]) ?_)
            | (refine wpList_slice1 _ rfl _ _ _ 33 _ rfl Try.underlying49 Try.sizeOf54 zeroL (by omega) (by omega) _ rfl (by simp [lcells, hs.1, hp32]) ?_)
            | (at_builtin; refine wpList_append_own _ rfl _ _ 49 rfl W.heap.size 54 iL _ 33 40 Try.underlying49 hi hz0 hz1 hz2 hzc (by omega) _ _ _ rfl (hown.alloc _) ⟨wr.heap.size, 0, none⟩ 1 1 (lcells (pi, ps)) rfl (by rw [lcells_len _ hp32]) (news_of wr _ _) (lcells_one _) (by unfold maxLen; omega) (by omega) (by simp; omega) ?_; intro v6 w6 hown6 hgrow6 hnil6; (have HB6 : Hid (Below W.heap.size W w6) := (HHB.out.alloc hsz _).grown hgrow6 (by simp; omega) (fun k hk => (hown.lt k hk).1))))
          have eI : insStep i s (acc, true) (pi, ps) = (acc ++ [(pi, ps)], true) := by simp [insStep, h2]
          go_roundw
          case rel =>
            refine ⟨m + 1, by omega, by go_num, by rw [HIS.out, eI], ?_, HB6.out⟩
            rw [HIS.out, eI]
            simpa using hown6
          case measure => simp [intOf]; omega
      | false =>
        by_cases h3 : i ≤ pi
        · by_cases h2 : pi = i
          · have h2b : (pi == i) = true := by simp [h2]
            have H2 := hid h2
            clear h2
            go_wp2_with (first
              | (refine wpList_loadS _ rfl _ _ rfl sizeR Try.underlying36 _ rfl s hs.1 _ _ hx ?_)
              | (refine wpList_buildL _ rfl _ _ rfl i rfl s rfl hs.1 ?_)
              | (refine wpList_slice1 _ rfl _ _ _ 33 _ rfl Try.underlying49 Try.sizeOf54 zeroL (by omega) (by omega) _ rfl (by simp [lcells, hs.1, hp32]) ?_)
              | (at_builtin; refine wpList_append_own _ rfl _ _ 49 rfl W.heap.size 54 iL _ 33 40 Try.underlying49 hi hz0 hz1 hz2 hzc (by omega) _ _ _ rfl (hown.alloc _) ⟨wr.heap.size, 0, none⟩ 1 1 (lcells (i, s)) rfl (by rw [lcells_len _ hs.1]) (news_of wr _ _) (lcells_one _) (by unfold maxLen; omega) (by omega) (by simp; omega) ?_; intro v5 w5 hown5 hgrow5 hnil5; (have HB5 : Hid (Below W.heap.size W w5) := (HHB.out.alloc hsz _).grown hgrow5 (by simp; omega) (fun k hk => (hown.lt k hk).1)); (have hsz5 : W.heap.size ≤ w5.heap.size := HB5.out.size); (have hc5 : w5.cell? ⟨r, 1, none⟩ = some (.slice (some ⟨g, 0, none⟩) B.length capb) := by rw [← c1]; exact World.cell?_of_block (HB5.out.block r hrl)); (have hrp5 := range_lat HRW.out HB5.out hgl); (have hpc5 : w5.cell? ⟨g, m * 33, none⟩ = some (.int .i64 pi) := hrp5 0 _ rfl); (have HRP5 := hid hrp5); clear hrp5; (obtain ⟨av5, capv5, ev5⟩ := own_shape6 hown5); rw [ev5]; rw [ev5] at hown5; clear ev5))
            have eI : insStep i s (acc, false) (pi, ps) = (acc ++ [(i, s)], true) := by simp [insStep, H2.out]
            go_roundw
            case rel =>
              refine ⟨m + 1, by omega, by go_num, by rw [HIS.out, eI], ?_, HB5.out⟩
              rw [HIS.out, eI]
              simpa using hown5
            case measure => simp [intOf]; omega
          · have h2b : (pi == i) = false := by simp [h2]
            go_wp2_with (first
              | (refine wpList_loadS _ rfl _ _ rfl sizeR Try.underlying36 _ rfl s hs.1 _ _ hx ?_)
              | (refine wpList_buildL _ rfl _ _ rfl i rfl s rfl hs.1 ?_)
              | (refine wpList_slice1 _ rfl _ _ _ 33 _ rfl Try.underlying49 Try.sizeOf54 zeroL (by omega) (by omega) _ rfl (by simp [lcells, hs.1, hp32]) ?_)
              | (at_builtin; refine wpList_append_own _ rfl _ _ 49 rfl W.heap.size 54 iL _ 33 40 Try.underlying49 hi hz0 hz1 hz2 hzc (by omega) _ _ _ rfl (hown.alloc _) ⟨wr.heap.size, 0, none⟩ 1 1 (lcells (i, s)) rfl (by rw [lcells_len _ hs.1]) (news_of wr _ _) (lcells_one _) (by unfold maxLen; omega) (by omega) (by simp; omega) ?_; intro v5 w5 hown5 hgrow5 hnil5; (have HB5 : Hid (Below W.heap.size W w5) := (HHB.out.alloc hsz _).grown hgrow5 (by simp; omega) (fun k hk => (hown.lt k hk).1)); (have hsz5 : W.heap.size ≤ w5.heap.size := HB5.out.size); (have hc5 : w5.cell? ⟨r, 1, none⟩ = some (.slice (some ⟨g, 0, none⟩) B.length capb) := by rw [← c1]; exact World.cell?_of_block (HB5.out.block r hrl)); (have hrp5 := range_lat HRW.out HB5.out hgl); (have hpc5 : w5.cell? ⟨g, m * 33, none⟩ = some (.int .i64 pi) := hrp5 0 _ rfl); (have HRP5 := hid hrp5); clear hrp5; (obtain ⟨av5, capv5, ev5⟩ := own_shape6 hown5); rw [ev5]; rw [ev5] at hown5; clear ev5)
              | (refine wpList_load_mid rfl _ _ rfl g (m * 33) rfl (lcells (pi, ps)) _ HRP5.out Try.underlying54 rfl (by rw [sizeL]; simp [lcells, hp32]) ?_)
              | (refine wpList_slice1 _ rfl _ _ _ 33 _ rfl Try.underlying49 Try.sizeOf54 zeroL (by omega) (by omega) _ rfl (by simp [lcells, hs.1, hp32]) ?_)
              | (at_builtin; refine wpList_append_own _ rfl _ _ 49 rfl W.heap.size 54 iL _ 33 40 Try.underlying49 hi hz0 hz1 hz2 hzc (by omega) _ _ _ rfl (hown5.alloc _) ⟨w5.heap.size, 0, none⟩ 1 1 (lcells (pi, ps)) rfl (by rw [lcells_len _ hp32]) (news_of w5 _ _) (lcells_one _) (by unfold maxLen; omega) (by omega) (by simp; omega) ?_; intro v6 w6 hown6 hgrow6 hnil6; (have HB6 : Hid (Below W.heap.size W w6) := (HB5.out.alloc hsz5 _).grown hgrow6 (by simp; omega) (fun k hk => (hown5.lt k hk).1))))
            have eI : insStep i s (acc, false) (pi, ps) = (acc ++ [(i, s)] ++ [(pi, ps)], true) := by simp [insStep, h2, h3]
            go_roundw
            case rel =>
              refine ⟨m + 1, by omega, by go_num, by rw [HIS.out, eI], ?_, HB6.out⟩
              rw [HIS.out, eI]
              simpa using hown6
            case measure => simp [intOf]; omega
        · have h2 : ¬ pi = i := by omega
          have h2b : (pi == i) = false := by simp [h2]
          go_wp2_with (first
            | (refine wpList_load_mid rfl _ _ rfl g (m * 33) rfl (lcells (pi, ps)) _ HRP.out Try.underlying54 rfl (by rw [sizeL]; simp [lcells, hp32]) ?_)
            | (refine wpList_slice1 _ rfl _ _ _ 33 _ rfl Try.underlying49 Try.sizeOf54 zeroL (by omega) (by omega) _ rfl (by simp [lcells, hs.1, hp32]) ?_)
            | (at_builtin; refine wpList_append_own _ rfl _ _ 49 rfl W.heap.size 54 iL _ 33 40 Try.underlying49 hi hz0 hz1 hz2 hzc (by omega) _ _ _ rfl (hown.alloc _) ⟨wr.heap.size, 0, none⟩ 1 1 (lcells (pi, ps)) rfl (by rw [lcells_len _ hp32]) (news_of wr _ _) (lcells_one _) (by unfold maxLen; omega) (by omega) (by simp; omega) ?_; intro v6 w6 hown6 hgrow6 hnil6; (have HB6 : Hid (Below W.heap.size W w6) := (HHB.out.alloc hsz _).grown hgrow6 (by simp; omega) (fun k hk => (hown.lt k hk).1))))
          have eI : insStep i s (acc, false) (pi, ps) = (acc ++ [(pi, ps)], false) := by simp [insStep, h2, h3]
          go_roundw
          case rel =>
            refine ⟨m + 1, by omega, by go_num, by rw [HIS.out, eI], ?_, HB6.out⟩
            rw [HIS.out, eI]
            simpa using hown6
          case measure => simp [intOf]; omega
    · obtain rfl : m = B.length := by omega
      have eT : B.take B.length = B := List.take_of_length_le (Nat.le_refl _)
      rw [eT] at hown HIL ⊢
      have HINS : Hid (ins i s B = if (insTo i s B).2 then (insTo i s B).1 else (insTo i s B).1 ++ [(i, s)]) := rfl
      obtain ⟨acc, pl, eacc⟩ : ∃ acc pl, insTo i s B = (acc, pl) := ⟨_, _, rfl⟩
      rw [eacc] at hown HINS HIL ⊢
      simp only at hown HINS HIL ⊢
      have hal : acc.length ≤ 2049 := by
        have := HIL.out
        split at this <;> omega
      have hfr : wr.frozen? ⟨r, 1, none⟩ = false := by rw [← f1]; exact World.frozen?_of_block (hB.block r hrl)
      have FIN : Hid (∀ (w5 : World) (v : Value) (X : List (Int × Sec)), ins i s B = X → Below W.heap.size W w5 → w5.ownsRow W.heap.size 54 33 v X.length (X.flatMap lcells) →
          IsR (w5.setCell ⟨r, 1, none⟩ v) r N L (ins i s B) ∧ Out (fun k => k = r) w (w5.setCell ⟨r, 1, none⟩ v)) := by
        intro w5 v X eX hb5 ho5
        have hr5 : w5.heap[r]? = some (.cells #[.slice al N capl, .slice ab B.length capb] 51 (0, 0)) := by rw [hb5.block r hrl]; exact HR.out
        obtain ⟨_, q2, q3, q4, q5, q6, q7⟩ := H.out
        refine ⟨⟨⟨_, _, set_second hr5, own_set (own_lat HOL.out hb5) hr5 (by decide) _ _, ?_⟩, q2, q3, ins_rising i s B q4, fun q hq => ?_, q6, q7⟩, ?_⟩
        · rw [eX]; exact own_set (own0 ho5) hr5 (by decide) _ _
        · rcases (ins_mem i s B q4 q).1 hq with rfl | ⟨h3, _⟩
          · exact ⟨hs, h0, h1⟩
          · exact q5 q h3
        · exact (Out.of HB1.out).trans ((Out.of hb5).trans (Out.setOne w5 _ _ rfl))
      have HHB := hid hB
      obtain ⟨av, capv, eav⟩ := own_shape6 hown
      rw [eav] at hown ⊢
      clear hB eacc eT eav
      cases pl with
      | true =>
        go_wp2
        go_ret
        obtain ⟨t1, t2⟩ := FIN.out wr _ acc HINS.out HHB.out hown
        exact ⟨rfl, t1, t2⟩
      | false =>
        go_wp2_with (first
          | (refine wpList_loadS _ rfl _ _ rfl sizeR Try.underlying36 _ rfl s hs.1 _ _ hx ?_)
          | (refine wpList_buildL _ rfl _ _ rfl i rfl s rfl hs.1 ?_)
          | (refine wpList_slice1 _ rfl _ _ _ 33 _ rfl Try.underlying49 Try.sizeOf54 zeroL (by omega) (by omega) _ rfl (by simp [lcells, hs.1]) ?_)
          | (at_builtin; refine wpList_append_own _ rfl _ _ 49 rfl W.heap.size 54 iL _ 33 40 Try.underlying49 hi hz0 hz1 hz2 hzc (by omega) _ _ _ rfl (hown.alloc _) ⟨wr.heap.size, 0, none⟩ 1 1 (lcells (i, s)) rfl (by rw [lcells_len _ hs.1]) (news_of wr _ _) (lcells_one _) (by unfold maxLen; omega) (by omega) (by simp; omega) ?_; intro v5 w5 hown5 hgrow5 hnil5; (have HB5 : Hid (Below W.heap.size W w5) := (HHB.out.alloc hsz _).grown hgrow5 (by simp; omega) (fun k hk => (hown.lt k hk).1)); (have hr5 : w5.heap[r]? = some (.cells #[.slice al N capl, .slice ab B.length capb] 51 (0, 0)) := by rw [HB5.out.block r hrl]; exact HR.out); (obtain ⟨d0, d1, e0, e1⟩ := two_cells hr5); (obtain ⟨av5, capv5, ev5⟩ := own_shape6 hown5); rw [ev5]; rw [ev5] at hown5; clear ev5))
        go_ret
        obtain ⟨t1, t2⟩ := FIN.out w5 _ (acc ++ [(i, s)]) HINS.out HB5.out (by simpa using hown5)
        exact ⟨rfl, t1, t2⟩
end Go.Proofs.Ytfmkgflhgapeoab
namespace Go.Proofs.Ytfmkgflhgapeoab
open Go.RowKit Go.ChangeShapes Go.WideShapes Go.ChangeAt Go.Maps
set_option linter.unusedVariables false
set_option linter.unusedSimpArgs false
theorem rep_flat (N : Nat) : (List.replicate N zsec).flatMap (fun s => s.map by8) = List.replicate (N * 32) (by8 0) := by
  induction N with
  | zero => rfl
  | succ n ih =>
    rw [List.replicate_succ, List.flatMap_cons, ih]
    show List.replicate 32 (by8 0) ++ List.replicate (n * 32) (by8 0) = _
    rw [List.replicate_append_replicate]
    congr 1
    omega
theorem made_repR (v : Value) (k n : Nat) (hk : 0 < k) : (madeCells (List.replicate k v).toArray n).toList = List.replicate n v := by
  apply List.ext_getElem?
  intro j
  unfold madeCells
  rw [List.getElem?_replicate]
  by_cases hj : j < n
  · have h32 : j % k < k := Nat.mod_lt _ hk
    rw [if_pos hj]
    simp [hj, h32]
  · rw [if_neg hj]
    simp
    omega
theorem made_sec (N : Nat) : (madeCells (secV zsec).cells (N * 32)).toList = (List.replicate N zsec).flatMap (fun s => s.map by8) := by
  rw [rep_flat, show (secV zsec).cells = (List.replicate 32 (by8 0)).toArray from rfl]
  exact made_repR _ 32 _ (by omega)
set_option maxRecDepth 100000 in
set_option maxHeartbeats 1000000 in
theorem rnew_c (N : Nat) (w : World) (h1 : 1 ≤ N) (h2 : N ≤ 2048) : Calls Try.prog 5 #[.int .i64 N] w fun e w' => ∃ r, e = .returned (pD r) ∧ w.heap.size ≤ r ∧ IsR w' r N (List.replicate N zsec) [] ∧ Below w.heap.size w w' := by
  obtain ⟨iS, hi, hz0, hz1, hz2⟩ := infoS
  have g1 : ¬ (N : Int) < 1 := by omega
  have g2 : ¬ (2048 : Int) < (N : Int) := by omega
  go_enter Try.func5, Try.ntmps5
  go_wp2_with (at_make; refine wpList_make_full _ rfl _ _ 48 rfl w.heap.size 36 iS _ 32 Try.underlying48 hi hz0 hz1 _ _ _ _ N rfl rfl rfl rfl (by rw [hz2]; omega) (by unfold maxLen; omega) (Nat.le_refl _) ?_; intro w1 hown hgrow)
  go_ret
  rw [made_sec] at hown
  have hb1 : Below w.heap.size w w1 := (Below.refl _ _).grown hgrow (Nat.le_refl _) (fun k e => by cases e)
  refine ⟨w1.heap.size, rfl, hb1.size, ⟨⟨_, _, heap_alloc_new w1 _, own0 (hown.alloc _), World.ownsRow_nil _ _ _ _⟩, by simp, fun s hs => by rw [List.eq_of_mem_replicate hs]; exact zsec_is, List.Pairwise.nil, fun p hp => (by cases hp), h1, h2⟩, hb1.alloc hb1.size _⟩
set_option maxHeartbeats 400000 in
theorem rsize_c {w : World} {r N : Nat} {L : List Sec} {B : List (Int × Sec)} (h : IsR w r N L B) : Calls Try.prog 16 #[pD r] w fun e w' => e = .returned (.int .i64 N) ∧ w' = w := by
  obtain ⟨al, capl, ab, capb, hr, _, _⟩ := h.row
  obtain ⟨c0, _, _, _⟩ := two_cells hr
  clear hr h
  go_enter Try.func16, Try.ntmps16
  go_wp2
  go_ret
  exact ⟨rfl, rfl⟩
def bufAt (B : List (Int × Sec)) (i : Int) : Option Sec := (B.find? fun p => decide (p.1 = i)).map (·.2)
theorem bufAt_none {B : List (Int × Sec)} {i : Int} (h : ∀ q ∈ B, q.1 ≠ i) : bufAt B i = none := by
  unfold bufAt
  rw [List.find?_eq_none.2 (fun q hq => by simpa using h q hq)]; rfl
theorem bufAt_hit {B : List (Int × Sec)} {i : Int} {m : Nat} {p : Int × Sec} (h : ∀ q ∈ B.take m, q.1 ≠ i) (hp : B[m]? = some p) (e : p.1 = i) : bufAt B i = some p.2 := by
  unfold bufAt
  have hm : m < B.length := (List.getElem?_eq_some_iff.1 hp).1
  have e2 : B = B.take m ++ p :: B.drop (m + 1) := by
    rw [List.getElem?_eq_getElem hm] at hp
    cases hp
    rw [← List.drop_eq_getElem_cons hm, List.take_append_drop]
  rw [e2, List.find?_append, List.find?_eq_none.2 (fun q hq => by simpa using h q hq)]
  simp [e]
set_option maxRecDepth 100000 in
set_option maxHeartbeats 1000000 in
theorem rread_bad {w : World} {r N : Nat} {L : List Sec} {B : List (Int × Sec)} (h : IsR w r N L B) (i : Int) (hi : i < 0 ∨ (N : Int) ≤ i) :
    Calls Try.prog 25 #[pD r, .int .i64 i] w fun e w' => e = .returned (.tuple #[secV zsec, .int .i64 2]) ∧ Below w.heap.size w w' := by
  have zz := zlit
  have hb1 : Below w.heap.size w (w.alloc (.cells (zsec.map by8).toArray 36)) := (Below.refl _ _).alloc (Nat.le_refl _) _
  obtain ⟨al, capl, ab, capb, hr, _, _⟩ := (h.later hb1).row
  obtain ⟨c0, _, _, _⟩ := two_cells hr
  clear hr h
  by_cases h0 : i < 0
  · go_enter Try.func25, Try.ntmps25
    go_wp2_with (refine wpList_storeS _ rfl _ _ _ rfl sizeR _ rfl (by simp) zsec rfl zsec_is.1 _ (by simp; decide) ?_)
    exact bodyPost_ret (v := .tuple #[secV zsec, .int .i64 2]) (res_sec rfl _ _ sizeR Try.underlying36 w.heap.size rfl zsec zsec_is.1 _ _ (heap_alloc_new w _) _ rfl) rfl ⟨rfl, hb1⟩
  · have h1 : (N : Int) ≤ i := by omega
    go_enter Try.func25, Try.ntmps25
    go_wp2_with (refine wpList_storeS _ rfl _ _ _ rfl sizeR _ rfl (by simp) zsec rfl zsec_is.1 _ (by simp; decide) ?_)
    exact bodyPost_ret (v := .tuple #[secV zsec, .int .i64 2]) (res_sec rfl _ _ sizeR Try.underlying36 w.heap.size rfl zsec zsec_is.1 _ _ (heap_alloc_new w _) _ rfl) rfl ⟨rfl, hb1⟩
set_option maxRecDepth 100000 in
set_option maxHeartbeats 2000000 in
theorem rread_c {w : World} {r N : Nat} {L : List Sec} {B : List (Int × Sec)} (h : IsR w r N L B) (j : Nat) (hj : j < N) :
    Calls Try.prog 25 #[pD r, .int .i64 j] w fun e w' => e = .returned (.tuple #[secV ((bufAt B j).getD (L.getD j zsec)), .int .i64 0]) ∧ Below w.heap.size w w' := by
  have zz := zlit
  have hb1 : Below w.heap.size w (w.alloc (.cells (zsec.map by8).toArray 36)) := (Below.refl _ _).alloc (Nat.le_refl _) _
  obtain ⟨al, capl, ab, capb, hr, hol, hob⟩ := (h.later hb1).row
  obtain ⟨c0, c1, _, _⟩ := two_cells hr
  have HBS := hid h.2.2.2.2.1
  have HLS := hid h.2.2.1
  have HLN := hid h.2.1
  have hfew := h.few
  have hN8 : N ≤ 2048 := h.2.2.2.2.2.2
  have HX : Hid ((w.alloc (.cells (zsec.map by8).toArray 36)).heap[w.heap.size]? = some (.cells (zsec.map by8).toArray 36)) := heap_alloc_new w _
  have HXL : Hid (w.heap.size < (w.alloc (.cells (zsec.map by8).toArray 36)).heap.size) := by show _ < _; simp
  have HOL := hid hol
  have HOB := hid hob
  have HB1 := hid hb1
  have hjI : ¬ (j : Int) < 0 := by omega
  have hjN : ¬ (N : Int) ≤ (j : Int) := by omega
  have hz32 : (zsec.map by8).toArray.size = 32 := by rfl
  clear h hr hol hob hb1
  go_enter Try.func25, Try.ntmps25
  go_wp2
  generalize (w.alloc (.cells (zsec.map by8).toArray 36)) = W at *
  go_loop [6] (fun k => ∃ m : Nat, m ≤ B.length ∧ k = .int .i64 m ∧ Hid (∀ q ∈ B.take m, q.1 ≠ (j : Int))) (fun k => (B.length - intOf k).toNat)
  case atStart => exact ⟨0, by omega, rfl, fun q hq => by simp at hq⟩
  case round =>
    obtain ⟨m, hm, rfl, HQ⟩ := hrel
    by_cases hml : m < B.length
    · obtain ⟨p, hp⟩ : ∃ p, B[m]? = some p := ⟨B[m], List.getElem?_eq_getElem hml⟩
      have hpB : p ∈ B := List.mem_of_getElem? hp
      obtain ⟨g, cap', eg, hcap, hgl, _, hrg⟩ := row_at HOB.out (fun x hx => lcells_len x (HBS.out x hx).1.1) (by omega)
      cases eg
      have hrp : W.rangeAt g (m * 33) (lcells p) := hrg m p hp
      have hpc : W.cell? ⟨g, m * 33, none⟩ = some (.int .i64 p.1) := hrp 0 _ rfl
      have hp32 : p.2.length = 32 := (HBS.out p hpB).1.1
      have HRS : Hid (W.rangeAt g (m * 33 + 1) (p.2.map by8)) := fun a v hv => by
        have := hrp (a + 1) v (by unfold lcells; simpa using hv)
        rwa [show m * 33 + (a + 1) = m * 33 + 1 + a by omega] at this
      have HPP := hid hp
      obtain ⟨pi, ps⟩ := p
      simp only at hpc hp32 HRS
      clear hrp hrg hpB hp
      by_cases h2 : pi = (j : Int)
      · have h2b : (pi == (j : Int)) = true := by simp [h2]
        have HA := hid (bufAt_hit HQ.out HPP.out h2)
        have hl32 : (ps.map by8).length = 32 := by simp [hp32]
        clear h2
        go_wp2_with (first
          | (refine wpList_load_mid rfl _ _ rfl g (m * 33 + 1) rfl (ps.map by8) _ HRS.out Try.underlying36 rfl (by rw [sizeR, hl32]) ?_)
          | (refine wpList_storeA _ rfl _ _ _ rfl sizeR _ rfl ps rfl hp32 _ _ HX.out hz32 ?_; intro w4 k1 k2 k3))
        exact bodyPost_ret (v := .tuple #[secV ps, .int .i64 0]) (res_sec rfl _ _ sizeR Try.underlying36 w.heap.size rfl ps hp32 _ _ k1 _ rfl) rfl ⟨by rw [HA.out]; rfl, HB1.out.trans (k2.below (by have := HB1.out.size; omega) (fun k e => by omega))⟩
      · have h2b : (pi == (j : Int)) = false := by simp [h2]
        go_wp2
        go_round
        case rel =>
          refine ⟨m + 1, by omega, by go_num, fun q hq => ?_⟩
          rw [List.take_succ_eq_append_getElem hml] at hq
          rcases List.mem_append.1 hq with h3 | h3
          · exact HQ.out q h3
          · have h4 := HPP.out
            rw [List.getElem?_eq_getElem hml] at h4
            have h5 : B[m] = (pi, ps) := Option.some.inj h4
            rw [List.mem_singleton.1 h3, h5]
            exact h2
        case measure => simp [intOf]; omega
    · obtain rfl : m = B.length := by omega
      have HA : Hid (bufAt B (j : Int) = none) := bufAt_none (fun q hq => HQ.out q (by rw [List.take_of_length_le (Nat.le_refl _)]; exact hq))
      have hLl := HLN.out
      obtain ⟨sj, hsj⟩ : ∃ sj, L[j]? = some sj := ⟨L[j]'(by omega), List.getElem?_eq_getElem (by omega)⟩
      have hs32 : sj.length = 32 := (HLS.out sj (List.mem_of_getElem? hsj)).1
      have HGD : Hid (L[j]?.getD zsec = sj) := by show _ = _; rw [hsj]; rfl
      have HOL2 := HOL.out
      rw [← hLl] at HOL2
      obtain ⟨g, cap', eg, hcap, hgl, _, hrg⟩ := row_at HOL2 (fun x hx => by rw [List.length_map]; exact (HLS.out x hx).1) (by omega)
      rw [hLl] at eg
      cases eg
      have HRL := hid (hrg j sj hsj)
      have hl32 : (sj.map by8).length = 32 := by simp [hs32]
      clear hrg HOL2 hLl hsj
      go_wp2_with (first
        | (refine wpList_load_mid rfl _ _ rfl g (j * 32) rfl (sj.map by8) _ HRL.out Try.underlying36 rfl (by rw [sizeR, hl32]) ?_)
        | (refine wpList_storeA _ rfl _ _ _ rfl sizeR _ rfl sj rfl hs32 _ _ HX.out hz32 ?_; intro w4 k1 k2 k3))
      exact bodyPost_ret (v := .tuple #[secV sj, .int .i64 0]) (res_sec rfl _ _ sizeR Try.underlying36 w.heap.size rfl sj hs32 _ _ k1 _ rfl) rfl ⟨by rw [HA.out, HGD.out]; rfl, HB1.out.trans (k2.below (by have := HB1.out.size; omega) (fun k e => by omega))⟩
theorem info_I : ∃ i : TypeInfo, Try.prog.info? 3 = some i ∧ i.zero = some (.int .i64 0) ∧ i.size = 1 ∧ i.bytes = 8 := by
  have h : (Try.prog.info? 3).map (fun i => (i.zero, i.size, i.bytes)) = some (some (.int .i64 0), 1, 8) := by kernel_rfl
  cases hi : Try.prog.info? 3 with
  | none => rw [hi] at h; cases h
  | some i => rw [hi] at h; simp at h; exact ⟨i, rfl, h.1, h.2.1, h.2.2⟩
end Go.Proofs.Ytfmkgflhgapeoab
namespace Go.Proofs.Ytfmkgflhgapeoab
open Go.RowKit Go.ChangeShapes Go.WideShapes Go.ChangeAt Go.Maps
set_option linter.unusedVariables false
set_option linter.unusedSimpArgs false
theorem set_cells (g : Nat) (e : TypeId) (fr : Nat × Nat) : ∀ (vs : List Value) (o : Nat) (cur : Array Value) (w : World), w.heap[g]? = some (.cells cur e fr) → o + vs.length ≤ cur.size →
    (∃ cur', (w.setCells g o vs).heap[g]? = some (.cells cur' e fr) ∧ cur'.size = cur.size ∧ cur'.toList = cur.toList.take o ++ vs ++ cur.toList.drop (o + vs.length)) ∧ Out (fun k => k = g) w (w.setCells g o vs) ∧ (w.setCells g o vs).heap.size = w.heap.size
  | [], o, cur, w, h, hl => ⟨⟨cur, h, rfl, by simp⟩, Out.refl _ _, rfl⟩
  | v :: vs, o, cur, w, h, hl => by
    have h1 : (w.setCell ⟨g, o, none⟩ v).heap[g]? = some (.cells (cur.setIfInBounds o v) e fr) := by
      simp only [World.setCell, Array.getElem?_modify, h]
      simp
    simp only [List.length_cons] at hl
    obtain ⟨⟨cur', e1, e2, e3⟩, o1, s1⟩ := set_cells g e fr vs (o + 1) (cur.setIfInBounds o v) (w.setCell ⟨g, o, none⟩ v) h1 (by simp; omega)
    refine ⟨⟨cur', e1, by rw [e2]; simp, ?_⟩, (Out.setOne (S := fun k => k = g) w ⟨g, o, none⟩ v rfl).trans o1, by rw [World.setCells, s1]; simp [World.setCell]⟩
    rw [e3, Array.toList_setIfInBounds]
    have hlt : o < cur.toList.length := by simp; omega
    rw [List.take_set, List.drop_set_of_lt (by omega), List.take_succ_eq_append_getElem hlt, List.set_append, if_neg (by rw [List.length_take]; omega), List.length_take]
    have : o - min o cur.toList.length = 0 := by omega
    rw [this]
    simp
    congr 1
    omega
theorem flat_set {α : Type} (f : α → List Value) (n : Nat) : ∀ (l : List α), (∀ x ∈ l, (f x).length = n) → ∀ (q : Nat) (s : α), q < l.length → (l.flatMap f).take (q * n) ++ f s ++ (l.flatMap f).drop (q * n + n) = (l.set q s).flatMap f
  | [], _, q, s, h => by simp at h
  | y :: l, hf, 0, s, h => by
    have hy := hf y (by simp)
    simp [List.flatMap_cons, ← hy]
  | y :: l, hf, q + 1, s, h => by
    have hy := hf y (by simp)
    have ih := flat_set f n l (fun z hz => hf z (by simp [hz])) q s (by simpa using h)
    rw [List.set_cons_succ, List.flatMap_cons, List.flatMap_cons, ← ih]
    have e1 : (q + 1) * n = n + q * n := by rw [Nat.add_mul]; omega
    rw [e1, ← hy, List.take_length_add_append, Nat.add_assoc, List.drop_length_add_append]
    simp
theorem row_set {w : World} {base : Nat} {e : TypeId} {n N : Nat} {g cap : Nat} {α : Type} {f : α → List Value} {l : List α} (h : w.ownsRow base e n (.slice (some ⟨g, 0, none⟩) N cap) N (l.flatMap f)) (hl : l.length = N) (hf : ∀ x ∈ l, (f x).length = n) (q : Nat) (hq : q < N) (s : α) (hs : (f s).length = n) :
    (w.setCells g (q * n) (f s)).ownsRow base e n (.slice (some ⟨g, 0, none⟩) N cap) N ((l.set q s).flatMap f) ∧ Out (fun k => k = g) w (w.setCells g (q * n) (f s)) ∧ (w.setCells g (q * n) (f s)).heap.size = w.heap.size := by
  have hlen := h.1
  rcases h.2 with ⟨h1, _⟩ | ⟨g', cap', cur, h1, hb, hg, hn, hm, hs', ht⟩
  · cases h1
  · cases h1
    have hle : q * n + n ≤ N * n := by have := Nat.mul_le_mul_right n (show q + 1 ≤ N from hq); rw [Nat.add_mul] at this; omega
    have hcn : N * n ≤ cap * n := Nat.mul_le_mul_right n hn
    obtain ⟨⟨cur', c1, c2, c3⟩, o1, s1⟩ := set_cells g e (0, 0) (f s) (q * n) cur w hg (by omega)
    have key : cur'.toList.take (N * n) = (l.set q s).flatMap f := by
      rw [← flat_set f n l hf q s (by omega), c3, hs]
      have hX : cur.toList = l.flatMap f ++ cur.toList.drop (N * n) := by rw [← ht, List.take_append_drop]
      have hFl : (l.flatMap f).length = N * n := hlen
      generalize l.flatMap f = FQ at hX hFl ⊢
      generalize cur.toList.drop (N * n) = R at hX
      have t1 : (FQ ++ R).take (q * n) = FQ.take (q * n) := List.take_append_of_le_length (by omega)
      have t2 : (FQ ++ R).drop (q * n + n) = FQ.drop (q * n + n) ++ R := List.drop_append_of_le_length (by omega)
      have t3 : FQ.take (q * n) ++ f s ++ (FQ.drop (q * n + n) ++ R) = (FQ.take (q * n) ++ f s ++ FQ.drop (q * n + n)) ++ R := by simp
      rw [hX, t1, t2, t3, List.take_append_of_le_length (by simp [hs]; omega), List.take_of_length_le (by simp [hs]; omega)]
    exact ⟨⟨by rw [← key, List.length_take]; simp; omega, .inr ⟨g, cap, cur', rfl, hb, c1, hn, hm, by rw [c2]; exact hs', key⟩⟩, o1, s1⟩
theorem row_there {w : World} {base : Nat} {e : TypeId} {n N : Nat} {g cap : Nat} {xs : List Value} (h : w.ownsRow base e n (.slice (some ⟨g, 0, none⟩) N cap) N xs) (q : Nat) (hq : q < N) : w.there g (q * n) n := by
  rcases h.2 with ⟨h1, _⟩ | ⟨g', cap', cur, h1, hb, hg, hn, hm, hs', ht⟩
  · cases h1
  · cases h1
    have hle : q * n + n ≤ N * n := by have := Nat.mul_le_mul_right n (show q + 1 ≤ N from hq); rw [Nat.add_mul] at this; omega
    have hcn : N * n ≤ cap * n := Nat.mul_le_mul_right n hn
    intro j hj
    rw [cell_of_row _ _ _ _ _ _ hg]
    refine ⟨by rw [Array.getElem?_eq_getElem (by omega)]; rfl, by simp [World.frozen?, hg]⟩
/-- What is on the disk when some of the buffer are. -/
def outStep (all : Bool) (ks : List Int) (L : List Sec) (p : Int × Sec) : List Sec := if all = true ∨ p.1 ∈ ks then L.set p.1.toNat p.2 else L
def outL (all : Bool) (ks : List Int) (B : List (Int × Sec)) (L : List Sec) : List Sec := B.foldl (outStep all ks) L
theorem outL_snoc (all : Bool) (ks : List Int) (B : List (Int × Sec)) (L : List Sec) (p : Int × Sec) : outL all ks (B ++ [p]) L = outStep all ks (outL all ks B L) p := by unfold outL; rw [List.foldl_append]; rfl
theorem outL_len (all : Bool) (ks : List Int) : ∀ (B : List (Int × Sec)) (L : List Sec), (outL all ks B L).length = L.length
  | [], L => rfl
  | p :: B, L => by
    show (outL all ks B (outStep all ks L p)).length = _
    rw [outL_len all ks B]
    unfold outStep
    split <;> simp
theorem outL_sec (all : Bool) (ks : List Int) : ∀ (B : List (Int × Sec)) (L : List Sec), (∀ p ∈ B, IsSec p.2) → (∀ s ∈ L, IsSec s) → ∀ s ∈ outL all ks B L, IsSec s
  | [], L, _, h, s, hs => h s hs
  | p :: B, L, hB, h, s, hs => by
    refine outL_sec all ks B (outStep all ks L p) (fun q hq => hB q (by simp [hq])) (fun x hx => ?_) s hs
    unfold outStep at hx
    split at hx
    · rcases List.mem_or_eq_of_mem_set hx with h1 | h1
      · exact h x h1
      · rw [h1]; exact hB p (by simp)
    · exact h x hx
theorem own_emptyS (w : World) : (w.alloc (.cells #[] 36)).ownsRow w.heap.size 36 32 (.slice (some ⟨w.heap.size, 0, none⟩) 0 0) 0 [] :=
  ⟨rfl, .inr ⟨w.heap.size, 0, #[], rfl, Nat.le_refl _, heap_alloc_new w _, Nat.le_refl _, Nat.zero_le _, rfl, rfl⟩⟩
theorem row_cells {w : World} {base : Nat} {e : TypeId} {n N : Nat} {g cap : Nat} {xs : List Value} (h : w.ownsRow base e n (.slice (some ⟨g, 0, none⟩) N cap) N xs) : ∀ j u, xs[j]? = some u → w.cell? ((⟨g, 0, none⟩ : Addr).add j) = some u := by
  intro j u hu
  have hadd : (⟨g, 0, none⟩ : Addr).add j = ⟨g, j, none⟩ := by unfold Addr.add; split <;> simp_all
  rcases h.2 with ⟨h1, _⟩ | ⟨g', cap', cur, h1, hb, hg, hn, hm, hs', ht⟩
  · cases h1
  · cases h1
    rw [hadd, cell_of_row _ _ _ _ _ _ hg]
    rw [← ht, List.getElem?_take] at hu
    split at hu
    · simpa using hu
    · cases hu
def isB (all : Bool) (ks : List Int) (x : Int) (k : Nat) : Bool := all || decide (x ∈ ks.take k)
theorem isB_zero' (all : Bool) (ks : List Int) (x : Int) : isB all ks x 0 = all := by simp [isB]
theorem isB_succ (all : Bool) (ks : List Int) (x : Int) (k : Nat) (h : k < ks.length) : isB all ks x (k + 1) = (isB all ks x k || decide (ks.getD k 0 = x)) := by
  unfold isB
  rw [Bool.eq_iff_iff]
  simp only [Bool.or_eq_true, decide_eq_true_eq]
  rw [take_mem_succ ks k h]
  constructor
  · rintro (h1 | h1 | h1)
    · exact .inl (.inl h1)
    · exact .inl (.inr h1)
    · exact .inr h1.symm
  · rintro ((h1 | h1) | h1)
    · exact .inl h1
    · exact .inr (.inl h1)
    · exact .inr (.inr h1.symm)
theorem isB_all (all : Bool) (ks : List Int) (x : Int) (k : Nat) (h : ks.length ≤ k) : isB all ks x k = true ↔ (all = true ∨ x ∈ ks) := by
  unfold isB; rw [List.take_of_length_le h]; simp
theorem below_wide {W : World} {B : Nat} {v w : World} (h : Below B W v) (k : Below v.heap.size v w) (hB : B ≤ v.heap.size) : Below B W w := h.trans (k.mono hB)
set_option maxRecDepth 100000 in
set_option maxHeartbeats 4000000 in
theorem rout_c {w : World} {r N : Nat} {L : List Sec} {B : List (Int × Sec)} (h : IsR w r N L B) (all : Bool) (a : Option Addr) (len cap : Nat) (ks : List Int) (hz : IsZ w a len ks) :
    Calls Try.prog 91 #[pD r, .bool all, .slice a len cap] w fun e w' => e = .returned (.tuple #[]) ∧ IsR w' r N (outL all ks B L) [] ∧ Out (fun k => k = r) w w' := by
  obtain ⟨al, capl, ab, capb, hr, hol, hob⟩ := h.row
  obtain ⟨c0, c1, f0, f1⟩ := two_cells hr
  have hrl : r < w.heap.size := lt_blk hr
  have hfew := h.few
  have hN8 : N ≤ 2048 := h.2.2.2.2.2.2
  have hN1 : 1 ≤ N := h.2.2.2.2.2.1
  have HBS := hid h.2.2.2.2.1
  have HLS := hid h.2.2.1
  have HLN := hid h.2.1
  have H := hid h
  have HR := hid hr
  have HOB := hid hob
  have HZ := hid hz
  have hlm : len ≤ maxLen := hz.2.1
  unfold maxLen at hlm
  obtain ⟨iS, hi, hz0, hz1, hz2⟩ := infoS
  have hLl := HLN.out
  rw [← hLl] at hol
  obtain ⟨gl, capl', eg, hcapl, hgl, _, _⟩ := row_at hol (fun x hx => by rw [List.length_map]; exact (HLS.out x hx).1) (by omega)
  rw [hLl] at eg hol
  cases eg
  have HOL := hid hol
  have hfl : (L.flatMap fun s => s.map by8).length = N * 32 := hol.1
  have HONE : Hid (∀ u ∈ L.flatMap (fun s => s.map by8), u.oneCell' = true) := fun u hu => by
    obtain ⟨s, _, hs⟩ := List.mem_flatMap.1 hu
    obtain ⟨x, _, rfl⟩ := List.mem_map.1 hs
    rfl
  have HCE : Hid (∀ j u, (L.flatMap fun s => s.map by8)[j]? = some u → (w.alloc (.cells #[] 36)).cell? ((⟨gl, 0, none⟩ : Addr).add j) = some u) := fun j u hu => row_cells (hol.alloc _) j u hu
  obtain ⟨FL, eFL⟩ : ∃ FL, FL = L.flatMap (fun s => s.map by8) := ⟨_, rfl⟩
  rw [← eFL] at hfl HONE HCE
  have EFL := hid eFL
  have HFL := hid hfl
  have hcr : (w.alloc (.cells #[] 36)).cell? ⟨r, 0, none⟩ = some (.slice (some ⟨gl, 0, none⟩) N capl) := by
    rw [← c0]; exact World.cell?_of_block (Below.heap_alloc _ _ r hrl)
  clear h hr hol hob hz hLl eFL hfl
  go_enter Try.func91, Try.ntmps91
  go_wp2_with (at_builtin; refine wpList_append_own _ rfl _ _ 48 rfl w.heap.size 36 iS _ 32 32 Try.underlying48 hi hz0 hz1 hz2 rfl (by omega) _ _ _ rfl (own_emptyS w) ⟨gl, 0, none⟩ N capl FL rfl HFL.out HCE.out HONE.out (by unfold maxLen; omega) (by omega) (by simp) ?_; intro v2 w2 hown2 hgrow2 hnil2)
  have hB2 : Below w.heap.size w w2 := ((Below.refl _ _).alloc (Nat.le_refl _) _).grown hgrow2 (by simp) (fun k hk => by cases hk; exact Nat.le_refl _)
  have hown3 : w2.ownsRow w.heap.size 36 32 v2 N (L.flatMap fun s => s.map by8) := by
    rw [← EFL.out]; simpa using hown2
  have hsh : ∃ g2 cap2, v2 = .slice (some ⟨g2, 0, none⟩) N cap2 ∧ w.heap.size ≤ g2 := by
    rcases hown3.2 with ⟨_, h0⟩ | ⟨g2, cap2, cur, e, hb, _⟩
    · omega
    · exact ⟨g2, cap2, e, hb⟩
  obtain ⟨g2, cap2, ev2, hg2⟩ := hsh
  rw [ev2] at hown3 ⊢
  have HO3 := hid hown3
  have HB2 := hid hB2
  clear hown2 hown3 hgrow2 hnil2 hB2 ev2 hcr HCE HONE HFL EFL
  go_loopw [7] (fun k wr => ∃ m : Nat, m ≤ B.length ∧ k = .int .i64 m ∧ Hid (wr.ownsRow w.heap.size 36 32 (.slice (some ⟨g2, 0, none⟩) N cap2) N ((outL all ks (B.take m) L).flatMap fun s => s.map by8)) ∧ Hid (Below w.heap.size w wr)) (fun k _ => (B.length - intOf k).toNat)
  case atStart => exact ⟨0, by omega, rfl, HO3, HB2⟩
  case round =>
    obtain ⟨m, hm, rfl, HO, HB⟩ := hrel
    have hc1 : wr.cell? ⟨r, 1, none⟩ = some (.slice ab B.length capb) := by rw [← c1]; exact World.cell?_of_block (HB.out.block r hrl)
    by_cases hml : m < B.length
    · obtain ⟨p, hp⟩ : ∃ p, B[m]? = some p := ⟨B[m], List.getElem?_eq_getElem hml⟩
      have hpB : p ∈ B := List.mem_of_getElem? hp
      obtain ⟨g, cap', eg, hcap, hgb, _, hrg⟩ := row_at HOB.out (fun x hx => lcells_len x (HBS.out x hx).1.1) (by omega)
      cases eg
      have HRW := hid (hrg m p hp)
      have hpp := HBS.out p hpB
      have HTK : Hid (outL all ks (B.take (m + 1)) L = outStep all ks (outL all ks (B.take m) L) p) := by
        show _ = _
        rw [← outL_snoc]; congr 1
        rw [List.take_succ_eq_append_getElem hml]
        rw [List.getElem?_eq_getElem hml] at hp
        cases hp; rfl
      obtain ⟨pi, ps⟩ := p
      simp only at hpp
      obtain ⟨q, rfl⟩ : ∃ q : Nat, pi = (q : Int) := ⟨pi.toNat, by omega⟩
      have hps := hpp.1
      have hqN : q < N := by omega
      have HR2 : Hid (∀ W, Below w.heap.size w W → W.cell? ⟨r, 1, none⟩ = some (.slice (some ⟨g, 0, none⟩) B.length capb) ∧ W.cell? ⟨g, m * 33, none⟩ = some (.int .i64 (q : Int)) ∧ W.rangeAt g (m * 33 + 1) (ps.map by8)) := fun W hW => by
        have hrp := range_lat HRW.out hW hgb
        refine ⟨by rw [← c1]; exact World.cell?_of_block (hW.block r hrl), hrp 0 _ rfl, fun x v hv => ?_⟩
        have := hrp (x + 1) v (by unfold lcells; simpa using hv)
        rwa [show m * 33 + (x + 1) = m * 33 + 1 + x by omega] at this
      clear hrg hpB hp hpp HRW
      go_wp2
      generalize wr = wo at *
      go_loopw [8, 9] (fun is k wx => ∃ n : Nat, n ≤ len ∧ k = .int .i64 n ∧ is = .bool (isB all ks (q : Int) n) ∧ Hid (Below wo.heap.size wo wx)) (fun _ k _ => (len - intOf k).toNat)
      case atStart => exact ⟨0, by omega, rfl, by rw [isB_zero'], Below.refl _ _⟩
      case round =>
        obtain ⟨n, hn, rfl, rfl, HX⟩ := hrel
        have hBx : Below w.heap.size w wr := below_wide HB.out HX.out HB.out.size
        obtain ⟨d1, d2, d3⟩ := HR2.out wr hBx
        have HD3 := hid d3
        have hmB : (m : Int) < (B.length : Int) := by omega
        by_cases hnl : n < len
        · obtain ⟨zb, zo, ea, hcz⟩ := HZ.out.2.2.1 (by omega)
          have hcz1 : wr.cell? ⟨zb, zo + n, none⟩ = some (.int .i64 (ks.getD n 0)) := by
            rw [← hcz n hnl]; exact World.cell?_of_block (hBx.block zb (World.block_lt_of_cell? w _ (hcz n hnl)))
          have HIS := hid (isB_succ all ks (q : Int) n (by have := HZ.out.1; omega))
          obtain ⟨z, ez⟩ : ∃ z, z = ks.getD n 0 := ⟨_, rfl⟩
          rw [← ez] at hcz1 HIS
          have hnI : (n : Int) < (len : Int) := by omega
          have HBX := hid hBx
          rw [ea]
          clear hcz ez d3 hBx
          cases hb : isB all ks (q : Int) n with
          | true =>
            rw [hb] at HIS
            go_wp2
            go_quiet (fail)
            go_wp2
            go_roundw
            case rel => exact ⟨n + 1, by omega, by go_num, by rw [HIS.out]; rfl, below_drewN HX.out _⟩
            case measure => simp [intOf]; omega
          | false =>
            rw [hb] at HIS
            by_cases hzq : z = (q : Int)
            · have hzb : (z == (q : Int)) = true := by simp [hzq]
              have HZQ := hid hzq
              clear hzq
              go_wp2
              go_quiet (fail)
              go_wp2
              go_roundw
              case rel => exact ⟨n + 1, by omega, by go_num, by rw [HIS.out]; simp [HZQ.out], below_drewN HX.out _⟩
              case measure => simp [intOf]; omega
            · have hzb : (z == (q : Int)) = false := by simp [hzq]
              go_wp2
              go_quiet (fail)
              go_wp2
              go_roundw
              case rel => exact ⟨n + 1, by omega, by go_num, by rw [HIS.out]; simp [hzq], below_drewN HX.out _⟩
              case measure => simp [intOf]; omega
        · have HAL := hid (isB_all all ks (q : Int) n (by have := HZ.out.1; omega))
          have HBX := hid hBx
          clear d3 hBx
          have HORX := hid (own_lat HO.out HX.out)
          have hnI : ¬ (n : Int) < (len : Int) := by omega
          cases hb : isB all ks (q : Int) n with
          | false =>
            have eS : outStep all ks (outL all ks (B.take m) L) ((q : Int), ps) = outL all ks (B.take m) L := by
              unfold outStep
              rw [if_neg (fun h => by rw [HAL.out.2 h] at hb; cases hb)]
            have ES := hid eS
            clear eS
            go_wp2
            go_roundw
            case rel => exact ⟨m + 1, by omega, by go_num, by rw [HTK.out, ES.out]; exact HORX.out, HBX.out⟩
            case measure => simp [intOf]; omega
          | true =>
            have eS : outStep all ks (outL all ks (B.take m) L) ((q : Int), ps) = (outL all ks (B.take m) L).set q ps := by
              unfold outStep
              rw [if_pos (HAL.out.1 hb)]
              simp
            have ES := hid eS
            have hth : wr.there g2 (q * 32) 32 := row_there HORX.out q hqN
            have hu := Try.underlying36
            have hi5 : (Try.prog.info? 36).map (·.size) = some (ps.map by8).length := by rw [sizeR]; simp [hps.1]
            have hl32 : (ps.map by8).length = 32 := by simp [hps.1]
            have h1c : ∀ v ∈ ps.map by8, v.oneCell' = true := fun v hv => by obtain ⟨x, _, rfl⟩ := List.mem_map.1 hv; rfl
            have hne1 : r ≠ g2 := by omega
            have hne2 : g ≠ g2 := by omega
            have hqI : (q : Int) < (N : Int) := by omega
            have hd3 := HD3.out
            have hor : wr.drew.ownsRow w.heap.size 36 32 (.slice (some ⟨g2, 0, none⟩) N cap2) N ((outL all ks (B.take m) L).flatMap fun s => s.map by8) := HORX.out
            obtain ⟨r1, r2, r3⟩ := row_set hor (by rw [outL_len]; exact HLN.out) (fun x hx => by rw [List.length_map]; exact (outL_sec all ks _ L (fun p hp => (HBS.out p (List.mem_of_mem_take hp)).1) HLS.out x hx).1) q hqN ps hl32
            have hrx : r < wr.heap.size := Nat.lt_of_lt_of_le hrl HBX.out.size
            have hgx : g < wr.heap.size := Nat.lt_of_lt_of_le hgb HBX.out.size
            have KS : (fun w' : World => w'.cell? ⟨r, 1, none⟩ = some (.slice (some ⟨g, 0, none⟩) B.length capb) ∧ w'.cell? ⟨g, m * 33, none⟩ = some (.int .i64 (q : Int)) ∧ w'.rangeAt g (m * 33 + 1) (ps.map by8) ∧ w'.there g2 (q * 32) 32) (wr.drew.setCells g2 (q * 32) (ps.map by8)) := by
              refine ⟨?_, ?_, ?_, World.there_setCells (w := wr.drew) hth _ _ _⟩
              · rw [← d1]; exact World.cell?_of_block (r2.block r hrx hne1)
              · rw [← d2]; exact World.cell?_of_block (r2.block g hgx hne2)
              · intro x v hv; rw [← hd3 x v hv]; exact World.cell?_of_block (r2.block g hgx hne2)
            have R1 := hid r1
            have R2 := hid r2
            clear eS r1 r2 r3 hor
            go_wp2
            go_region_held3 (fun w' => w'.cell? ⟨r, 1, none⟩ = some (.slice (some ⟨g, 0, none⟩) B.length capb) ∧ w'.cell? ⟨g, m * 33, none⟩ = some (.int .i64 (q : Int)) ∧ w'.rangeAt g (m * 33 + 1) (ps.map by8) ∧ w'.there g2 (q * 32) 32) (first | go_keep_ranges | exact KS) (fail)
            go_wp2
            go_roundw
            case rel => exact ⟨m + 1, by omega, by go_num, by rw [HTK.out, ES.out]; exact R1.out, (HBX.out.drew).trans (R2.out.below (by have := HBX.out.size; exact this) (fun k e => by omega))⟩
            case measure => simp [intOf]; omega
    · obtain rfl : m = B.length := by omega
      have eT : B.take B.length = B := List.take_of_length_le (Nat.le_refl _)
      rw [eT] at HO
      have hcr0 : wr.cell? ⟨r, 0, none⟩ = some (.slice (some ⟨gl, 0, none⟩) N capl) := by rw [← c0]; exact World.cell?_of_block (HB.out.block r hrl)
      have hfr0 : wr.frozen? ⟨r, 0, none⟩ = false := by rw [← f0]; exact World.frozen?_of_block (HB.out.block r hrl)
      have hr5 : wr.heap[r]? = some (.cells #[.slice (some ⟨gl, 0, none⟩) N capl, .slice ab B.length capb] 51 (0, 0)) := by rw [HB.out.block r hrl]; exact HR.out
      have hr6 := set_first (z := .slice (some ⟨g2, 0, none⟩) N cap2) hr5
      obtain ⟨_, e1, _, e3⟩ := two_cells hr6
      have HR5 := hid hr5
      have HR6 := hid hr6
      clear hr5 hr6 eT
      go_wp2
      go_end0
      obtain ⟨_, q2, q3, q4, q5, q6, q7⟩ := H.out
      refine ⟨rfl, ⟨⟨_, _, set_second HR6.out, own_set (own_set (own0 HO.out) HR5.out (by decide) _ _) HR6.out (by decide) _ _, World.ownsRow_nil _ _ _ _⟩, by rw [outL_len]; exact q2, outL_sec all ks B L (fun p hp => (q5 p hp).1) q3, List.Pairwise.nil, fun p hp => (by cases hp), q6, q7⟩, ?_⟩
      exact (Out.of (HB.out)).trans ((Out.setOne (S := fun k => k = r) wr ⟨r, 0, none⟩ _ rfl).trans (Out.setOne (S := fun k => k = r) _ ⟨r, 1, none⟩ _ rfl))
theorem isZ_none (w : World) : IsZ w none 0 [] := ⟨rfl, Nat.zero_le _, fun h => absurd h (by omega), fun i => by simp⟩
set_option maxHeartbeats 400000 in
theorem rflush_c {w : World} {r N : Nat} {L : List Sec} {B : List (Int × Sec)} (h : IsR w r N L B) : Calls Try.prog 86 #[pD r] w fun e w' => e = .returned (.int .i64 0) ∧ IsR w' r N (outL true [] B L) [] ∧ Out (fun k => k = r) w w' := by
  have RC := hid (rout_c h true none 0 0 [] (isZ_none w))
  clear h
  go_enter Try.func86, Try.ntmps86
  go_wp2_with (go_at_call 91; refine RC.out.mono ?_; rintro _ w1 ⟨rfl, h1, h2⟩)
  go_ret
  exact ⟨rfl, h1, h2⟩
set_option maxHeartbeats 400000 in
theorem rcrash_c {w : World} {r N : Nat} {L : List Sec} {B : List (Int × Sec)} (h : IsR w r N L B) (a : Option Addr) (len cap : Nat) (ks : List Int) (hz : IsZ w a len ks) : Calls Try.prog 85 #[pD r, .slice a len cap] w fun e w' => e = .returned (.int .i64 0) ∧ IsR w' r N (outL false ks B L) [] ∧ Out (fun k => k = r) w w' := by
  have RC := hid (rout_c h false a len cap ks hz)
  clear h hz
  go_enter Try.func85, Try.ntmps85
  go_wp2_with (go_at_call 91; refine RC.out.mono ?_; rintro _ w1 ⟨rfl, h1, h2⟩)
  go_ret
  exact ⟨rfl, h1, h2⟩
end Go.Proofs.Ytfmkgflhgapeoab
namespace Go.Proofs.Ytfmkgflhgapeoab
open Go.RowKit Go.ChangeShapes Go.WideShapes Go.ChangeAt Go.Maps
set_option linter.unusedVariables false
set_option linter.unusedSimpArgs false
/-- append of a whole row, as one step of a region that draws. -/
theorem step_append_row (w : World) {ops : Array Oper} {o : Oper} {a : Act} {K : Act → World → Prop} {Q : Exit → Act → World → Prop} {E : Prop} (hgd : o.guard = none) (s x : Operand) (t : TypeId)
    (ho : o.op = .call { callee := .builtin .append, args := #[s, x], argTypes := #[t, t] })
    (base : Nat) (e : TypeId) (i : TypeInfo) (z : Value) (size bytes : Nat) (ht : Try.prog.underlying t = some (.slice e)) (hi : Try.prog.info? e = some i) (hz : i.zero = some z)
    (hsize : i.size = size) (hby : i.bytes = bytes) (hzs : z.cells.size = size) (hsz : 0 < size)
    (v : Value) (hs : a.eval s = v) (hown : w.ownsRow base e size v 0 [])
    (bv : Value) (m : Nat) (ys : List Value) (hx : a.eval x = bv) (hsrc : w.ownsRow 0 e size bv m ys) (h1 : ∀ u ∈ ys, u.oneCell' = true)
    (h63 : m ≤ maxLen) (hbytes : m * bytes ≤ 140737488355328) (hbase : base ≤ w.heap.size)
    (h : ∀ v' w', w'.ownsRow base e size v' m ys → w.grownBy w' v.ownBlock → K (a.put o.dst v') w') :
    if Region.wanted o (yielded ops a.tmps) = true then Oper.wp Try.prog o a w K Q else E := by
  rw [if_pos (by simp [Region.wanted, hgd])]
  rcases hsrc.2 with ⟨rfl, h0⟩ | ⟨g, cap, cur, rfl, _, hg, hn, hm, hsz2, htk⟩
  · subst h0
    have hy : ys = [] := List.eq_nil_of_length_eq_zero (by have := hsrc.1; omega)
    subst hy
    have hrun := run_append_owned_none (P := Try.prog) (w := w) base t o.type e i size ht hi v 0 [] hown
    unfold Oper.wp
    simp [execOp, ho, resolve, invoke, builtin, hs, hx, hrun, Result.andThen]
    exact h v w hown (World.grownBy.refl w _)
  · exact wp_append_own w s x t ho base e i z size bytes ht hi hz hsize hby hzs hsz v 0 [] hs hown ⟨g, 0, none⟩ m cap ys hx hsrc.1 (row_cells hsrc) h1 (by omega) (by rw [Nat.zero_add]; exact hbytes) hbase fun v' w' q1 q2 _ => h v' w' (by simpa using q1) q2
theorem own_is {w : World} {base : Nat} {e : TypeId} {size : Nat} {v : Value} {n : Nat} {xs : List Value} (h : w.ownsRow base e size v n xs) : ∃ a cap, v = .slice a n cap := by
  rcases h.2 with ⟨h1, h2⟩ | ⟨g, cap, cur, h1, _⟩
  · exact ⟨_, _, by subst h2; exact h1⟩
  · exact ⟨_, _, h1⟩
theorem carry_new {w5 w6 : World} {o : Obj} {base : Nat} {e : TypeId} {size : Nat} {v : Value} {n : Nat} {xs : List Value} (h : w5.ownsRow base e size v n xs) (g : (w5.alloc o).grownBy w6 (Value.slice (some ⟨w5.heap.size, 0, none⟩) 0 0).ownBlock) : w6.ownsRow base e size v n xs :=
  own_lat h (((Below.refl w5.heap.size w5).alloc (Nat.le_refl _) o).grown g (by simp) (fun k hk => by cases hk; exact Nat.le_refl _))
theorem carry_old {w5 w6 : World} {k : Nat} {e2 : TypeId} {base : Nat} {e : TypeId} {size : Nat} {v : Value} {n : Nat} {xs : List Value} (h : w5.ownsRow base e size v n xs) (E : w5.heap[k]? = some (.cells #[] e2 (0, 0))) (hne : e ≠ e2) (g : w5.grownBy w6 (Value.slice (some ⟨k, 0, none⟩) 0 0).ownBlock) : w6.ownsRow base e size v n xs :=
  own_out h (Out.grown (S := fun j => j = k) g (fun j hj => by cases hj; rfl)) (fun j cur hj e' => by subst e'; rw [E] at hj; cases hj; exact hne rfl)
theorem own_empty_at {w : World} {e : TypeId} {size g base : Nat} (h : w.heap[g]? = some (.cells #[] e (0, 0))) (hb : base ≤ g) : w.ownsRow base e size (.slice (some ⟨g, 0, none⟩) 0 0) 0 [] :=
  ⟨by simp, .inr ⟨g, 0, #[], rfl, hb, h, Nat.le_refl _, Nat.zero_le _, by simp, by simp⟩⟩
set_option maxRecDepth 100000 in
set_option maxHeartbeats 4000000 in
theorem rfork_c {w : World} {r N : Nat} {L : List Sec} {B : List (Int × Sec)} (h : IsR w r N L B) :
    Calls Try.prog 17 #[pD r] w fun e w' => ∃ r', e = .returned (pD r') ∧ IsR w' r' N L B ∧ w.heap.size ≤ r' ∧ Below w.heap.size w w' := by
  obtain ⟨al, capl, ab, capb, hr, hol, hob⟩ := h.row
  obtain ⟨c0, c1, _, _⟩ := two_cells hr
  have hrl := lt_blk hr
  have hfew := h.few
  have hN8 : N ≤ 2048 := h.2.2.2.2.2.2
  obtain ⟨iS, si, sz0, sz1, sz2⟩ := infoS
  obtain ⟨iL, li, lz0, lz1, lz2⟩ := infoL
  have HOL : Hid (w.drew.ownsRow 0 36 32 (.slice al N capl) N (L.flatMap fun s => s.map by8)) := hol
  have HOB : Hid (w.drew.ownsRow 0 54 33 (.slice ab B.length capb) B.length (B.flatMap lcells)) := hob
  have HOL2 : Hid (w.ownsRow 0 36 32 (.slice al N capl) N (L.flatMap fun s => s.map by8)) := hol
  have HOB2 : Hid (w.ownsRow 0 54 33 (.slice ab B.length capb) B.length (B.flatMap lcells)) := hob
  have HT := hid h.2
  have O1 : Hid (∀ u ∈ L.flatMap (fun s => s.map by8), u.oneCell' = true) := fun u hu => by
    obtain ⟨s, _, hs⟩ := List.mem_flatMap.1 hu
    obtain ⟨x, _, rfl⟩ := List.mem_map.1 hs
    rfl
  have O2 : Hid (∀ u ∈ B.flatMap lcells, u.oneCell' = true) := fun u hu => by
    obtain ⟨p, _, hs⟩ := List.mem_flatMap.1 hu
    exact lcells_one p u hs
  have KS : ∀ w', Below w.heap.size w w' → w'.cell? ⟨r, 0, none⟩ = some (.slice al N capl) ∧ w'.cell? ⟨r, 1, none⟩ = some (.slice ab B.length capb) := fun w' hb => by
    rw [← c0, ← c1]; exact ⟨World.cell?_of_block (hb.block r hrl), World.cell?_of_block (hb.block r hrl)⟩
  clear h hr hol hob
  go_enter Try.func17, Try.ntmps17
  go_wp2
  go_region_held3 (fun w' => w'.cell? ⟨r, 0, none⟩ = some (.slice al N capl) ∧ w'.cell? ⟨r, 1, none⟩ = some (.slice ab B.length capb)) (first | exact KS _ B6.out | exact KS _ B5.out | go_keep)
    (first
      | (refine step_append_row _ (by rfl) _ _ 48 (by rfl) w.heap.size 36 iS _ 32 32 Try.underlying48 si sz0 sz1 sz2 (by rfl) (by omega) _ (by rfl) (own_empty_at (heap_alloc_new w.drew _) (by first | exact Nat.le_refl _ | (simp; omega) | simp)) _ N (L.flatMap fun s => s.map by8) (by rfl) (own_lat HOL.out (by first | exact (Below.refl _ w.drew).alloc (Nat.le_refl _) _ | exact ((Below.refl _ w.drew).alloc (Nat.le_refl _) _).alloc (by simp) _)) O1.out (by unfold maxLen; omega) (by omega) (by first | (simp; done) | (simp; omega)) ?_; intro v5 w5 hv5 hg5; obtain ⟨a5, cap5, rfl⟩ := own_is hv5; have V1 := hid hv5; (have B5 : Hid (Below w.heap.size w w5) := ((Below.refl _ w).drew.trans (by first | exact (Below.refl _ w.drew).alloc (Nat.le_refl _) _ | exact ((Below.refl _ w.drew).alloc (Nat.le_refl _) _).alloc (by simp) _)).grown hg5 (by first | (simp; done) | (simp; omega)) (fun k hk => by cases hk; first | exact Nat.le_refl _ | exact Nat.le_succ _)))
      | (refine step_append_row _ (by rfl) _ _ 48 (by rfl) w.heap.size 36 iS _ 32 32 Try.underlying48 si sz0 sz1 sz2 (by rfl) (by omega) _ (by rfl) (own_empty_at (two_alloc w.drew _ _) (by first | exact Nat.le_refl _ | (simp; omega) | simp)) _ N (L.flatMap fun s => s.map by8) (by rfl) (own_lat HOL.out (by first | exact (Below.refl _ w.drew).alloc (Nat.le_refl _) _ | exact ((Below.refl _ w.drew).alloc (Nat.le_refl _) _).alloc (by simp) _)) O1.out (by unfold maxLen; omega) (by omega) (by first | (simp; done) | (simp; omega)) ?_; intro v5 w5 hv5 hg5; obtain ⟨a5, cap5, rfl⟩ := own_is hv5; have V1 := hid hv5; (have B5 : Hid (Below w.heap.size w w5) := ((Below.refl _ w).drew.trans (by first | exact (Below.refl _ w.drew).alloc (Nat.le_refl _) _ | exact ((Below.refl _ w.drew).alloc (Nat.le_refl _) _).alloc (by simp) _)).grown hg5 (by first | (simp; done) | (simp; omega)) (fun k hk => by cases hk; first | exact Nat.le_refl _ | exact Nat.le_succ _)); have E5 := hid ((hg5.block _ (by simp) (by simp [Value.ownBlock])).trans (two_last w.drew _ _)))
      | (refine step_append_row _ (by rfl) _ _ 48 (by rfl) w.heap.size 36 iS _ 32 32 Try.underlying48 si sz0 sz1 sz2 (by rfl) (by omega) _ (by rfl) (own_empty_at (two_last w.drew _ _) (by first | exact Nat.le_refl _ | (simp; omega) | simp)) _ N (L.flatMap fun s => s.map by8) (by rfl) (own_lat HOL.out (by first | exact (Below.refl _ w.drew).alloc (Nat.le_refl _) _ | exact ((Below.refl _ w.drew).alloc (Nat.le_refl _) _).alloc (by simp) _)) O1.out (by unfold maxLen; omega) (by omega) (by first | (simp; done) | (simp; omega)) ?_; intro v5 w5 hv5 hg5; obtain ⟨a5, cap5, rfl⟩ := own_is hv5; have V1 := hid hv5; (have B5 : Hid (Below w.heap.size w w5) := ((Below.refl _ w).drew.trans (by first | exact (Below.refl _ w.drew).alloc (Nat.le_refl _) _ | exact ((Below.refl _ w.drew).alloc (Nat.le_refl _) _).alloc (by simp) _)).grown hg5 (by first | (simp; done) | (simp; omega)) (fun k hk => by cases hk; first | exact Nat.le_refl _ | exact Nat.le_succ _)); have E5 := hid ((hg5.block _ (by simp; omega) (by simp [Value.ownBlock])).trans (two_alloc w.drew _ _)))
      | (refine step_append_row _ (by rfl) _ _ 49 (by rfl) w.heap.size 54 iL _ 33 40 Try.underlying49 li lz0 lz1 lz2 (by rfl) (by omega) _ (by rfl) (own_empty_at E5.out (by first | exact Nat.le_refl _ | exact Nat.le_succ _ | exact B5.out.size)) _ B.length (B.flatMap lcells) (by rfl) (own_lat HOB2.out B5.out) O2.out (by unfold maxLen; omega) (by omega) (by first | exact B5.out.size | (have := B5.out.size; simp; omega)) ?_; intro v6 w6 hv6 hg6; obtain ⟨a6, cap6, rfl⟩ := own_is hv6; have W2 := hid hv6; (have B6 : Hid (Below w.heap.size w w6) := B5.out.grown hg6 (by first | exact B5.out.size | (have := B5.out.size; simp; omega)) (fun k hk => by cases hk; first | exact Nat.le_refl _ | exact Nat.le_succ _ | exact B5.out.size)); have G6 := hid hg6)
      | (refine step_append_row _ (by rfl) _ _ 49 (by rfl) w.heap.size 54 iL _ 33 40 Try.underlying49 li lz0 lz1 lz2 (by rfl) (by omega) _ (by rfl) (own_empty_at (heap_alloc_new w5 _) (by first | exact Nat.le_refl _ | exact Nat.le_succ _ | exact B5.out.size)) _ B.length (B.flatMap lcells) (by rfl) (own_lat HOB2.out (B5.out.alloc B5.out.size _)) O2.out (by unfold maxLen; omega) (by omega) (by first | exact B5.out.size | (have := B5.out.size; simp; omega)) ?_; intro v6 w6 hv6 hg6; obtain ⟨a6, cap6, rfl⟩ := own_is hv6; have W2 := hid hv6; (have B6 : Hid (Below w.heap.size w w6) := (B5.out.alloc B5.out.size _).grown hg6 (by first | exact B5.out.size | (have := B5.out.size; simp; omega)) (fun k hk => by cases hk; first | exact Nat.le_refl _ | exact Nat.le_succ _ | exact B5.out.size)); have G6 := hid hg6)
      | (refine step_append_row _ (by rfl) _ _ 49 (by rfl) w.heap.size 54 iL _ 33 40 Try.underlying49 li lz0 lz1 lz2 (by rfl) (by omega) _ (by rfl) (own_empty_at (heap_alloc_new w.drew _) (by first | exact Nat.le_refl _ | (simp; omega) | simp)) _ B.length (B.flatMap lcells) (by rfl) (own_lat HOB.out (by first | exact (Below.refl _ w.drew).alloc (Nat.le_refl _) _ | exact ((Below.refl _ w.drew).alloc (Nat.le_refl _) _).alloc (by simp) _)) O2.out (by unfold maxLen; omega) (by omega) (by first | (simp; done) | (simp; omega)) ?_; intro v5 w5 hv5 hg5; obtain ⟨a5, cap5, rfl⟩ := own_is hv5; have V2 := hid hv5; (have B5 : Hid (Below w.heap.size w w5) := ((Below.refl _ w).drew.trans (by first | exact (Below.refl _ w.drew).alloc (Nat.le_refl _) _ | exact ((Below.refl _ w.drew).alloc (Nat.le_refl _) _).alloc (by simp) _)).grown hg5 (by first | (simp; done) | (simp; omega)) (fun k hk => by cases hk; first | exact Nat.le_refl _ | exact Nat.le_succ _)))
      | (refine step_append_row _ (by rfl) _ _ 49 (by rfl) w.heap.size 54 iL _ 33 40 Try.underlying49 li lz0 lz1 lz2 (by rfl) (by omega) _ (by rfl) (own_empty_at (two_alloc w.drew _ _) (by first | exact Nat.le_refl _ | (simp; omega) | simp)) _ B.length (B.flatMap lcells) (by rfl) (own_lat HOB.out (by first | exact (Below.refl _ w.drew).alloc (Nat.le_refl _) _ | exact ((Below.refl _ w.drew).alloc (Nat.le_refl _) _).alloc (by simp) _)) O2.out (by unfold maxLen; omega) (by omega) (by first | (simp; done) | (simp; omega)) ?_; intro v5 w5 hv5 hg5; obtain ⟨a5, cap5, rfl⟩ := own_is hv5; have V2 := hid hv5; (have B5 : Hid (Below w.heap.size w w5) := ((Below.refl _ w).drew.trans (by first | exact (Below.refl _ w.drew).alloc (Nat.le_refl _) _ | exact ((Below.refl _ w.drew).alloc (Nat.le_refl _) _).alloc (by simp) _)).grown hg5 (by first | (simp; done) | (simp; omega)) (fun k hk => by cases hk; first | exact Nat.le_refl _ | exact Nat.le_succ _)); have E5 := hid ((hg5.block _ (by simp) (by simp [Value.ownBlock])).trans (two_last w.drew _ _)))
      | (refine step_append_row _ (by rfl) _ _ 49 (by rfl) w.heap.size 54 iL _ 33 40 Try.underlying49 li lz0 lz1 lz2 (by rfl) (by omega) _ (by rfl) (own_empty_at (two_last w.drew _ _) (by first | exact Nat.le_refl _ | (simp; omega) | simp)) _ B.length (B.flatMap lcells) (by rfl) (own_lat HOB.out (by first | exact (Below.refl _ w.drew).alloc (Nat.le_refl _) _ | exact ((Below.refl _ w.drew).alloc (Nat.le_refl _) _).alloc (by simp) _)) O2.out (by unfold maxLen; omega) (by omega) (by first | (simp; done) | (simp; omega)) ?_; intro v5 w5 hv5 hg5; obtain ⟨a5, cap5, rfl⟩ := own_is hv5; have V2 := hid hv5; (have B5 : Hid (Below w.heap.size w w5) := ((Below.refl _ w).drew.trans (by first | exact (Below.refl _ w.drew).alloc (Nat.le_refl _) _ | exact ((Below.refl _ w.drew).alloc (Nat.le_refl _) _).alloc (by simp) _)).grown hg5 (by first | (simp; done) | (simp; omega)) (fun k hk => by cases hk; first | exact Nat.le_refl _ | exact Nat.le_succ _)); have E5 := hid ((hg5.block _ (by simp; omega) (by simp [Value.ownBlock])).trans (two_alloc w.drew _ _)))
      | (refine step_append_row _ (by rfl) _ _ 48 (by rfl) w.heap.size 36 iS _ 32 32 Try.underlying48 si sz0 sz1 sz2 (by rfl) (by omega) _ (by rfl) (own_empty_at E5.out (by first | exact Nat.le_refl _ | exact Nat.le_succ _ | exact B5.out.size)) _ N (L.flatMap fun s => s.map by8) (by rfl) (own_lat HOL2.out B5.out) O1.out (by unfold maxLen; omega) (by omega) (by first | exact B5.out.size | (have := B5.out.size; simp; omega)) ?_; intro v6 w6 hv6 hg6; obtain ⟨a6, cap6, rfl⟩ := own_is hv6; have W1 := hid hv6; (have B6 : Hid (Below w.heap.size w w6) := B5.out.grown hg6 (by first | exact B5.out.size | (have := B5.out.size; simp; omega)) (fun k hk => by cases hk; first | exact Nat.le_refl _ | exact Nat.le_succ _ | exact B5.out.size)); have G6 := hid hg6)
      | (refine step_append_row _ (by rfl) _ _ 48 (by rfl) w.heap.size 36 iS _ 32 32 Try.underlying48 si sz0 sz1 sz2 (by rfl) (by omega) _ (by rfl) (own_empty_at (heap_alloc_new w5 _) (by first | exact Nat.le_refl _ | exact Nat.le_succ _ | exact B5.out.size)) _ N (L.flatMap fun s => s.map by8) (by rfl) (own_lat HOL2.out (B5.out.alloc B5.out.size _)) O1.out (by unfold maxLen; omega) (by omega) (by first | exact B5.out.size | (have := B5.out.size; simp; omega)) ?_; intro v6 w6 hv6 hg6; obtain ⟨a6, cap6, rfl⟩ := own_is hv6; have W1 := hid hv6; (have B6 : Hid (Below w.heap.size w w6) := (B5.out.alloc B5.out.size _).grown hg6 (by first | exact B5.out.size | (have := B5.out.size; simp; omega)) (fun k hk => by cases hk; first | exact Nat.le_refl _ | exact Nat.le_succ _ | exact B5.out.size)); have G6 := hid hg6))
  all_goals (
    go_wp2
    go_ret
    have V : w6.ownsRow w.heap.size 36 32 (.slice a5 N cap5) N (L.flatMap fun s => s.map by8) := by
      first | exact carry_new V1.out G6.out | exact carry_old V1.out E5.out (by decide) G6.out
    have ha : Below w6.heap.size w6 (w6.alloc (.cells #[.slice a5 N cap5, .slice a6 B.length cap6] 51 (0, 0))) := (Below.refl _ _).alloc (Nat.le_refl _) _
    exact ⟨_, rfl, ⟨⟨_, _, heap_alloc_new w6 _, own_lat (own0 V) ha, own_lat (own0 W2.out) ha⟩, HT.out⟩, B6.out.size, B6.out.alloc B6.out.size _⟩)
end Go.Proofs.Ytfmkgflhgapeoab
