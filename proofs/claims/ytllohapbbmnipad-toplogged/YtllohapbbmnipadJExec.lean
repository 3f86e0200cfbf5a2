/-
  Rows of sectors: what building, laying and copying of them does.
-/
import Derived.Test.YtllohapbbmnipadJChunk
namespace Go.Proofs.Ytllohapbbmnipad
open Go.RowKit Go.ChangeShapes Go.WideShapes Go.ChangeAt Go.Maps Go.Shelf
attribute [local go_sem] Oper.semAt_some
set_option linter.unusedVariables false
set_option linter.unusedSimpArgs false
set_option maxHeartbeats 400000 in
theorem chunk_c (a : Option Addr) (len cap : Nat) (w : World) :
    Calls Try.prog 72 #[.slice a len cap, .int .i64 31] w fun e w' => e = .returned (.func (.func 100) #[] #[.pointer (some ⟨w.heap.size, 0, none⟩), .pointer (some ⟨w.heap.size + 1, 0, none⟩)]) ∧ w' = (w.alloc (.cells #[.slice a len cap] 23)).alloc (.cells #[.int .i64 31] 3) := by
  go_enter Try.func72, Try.ntmps72
  go_wp2
  go_ret
  exact ⟨rfl, rfl⟩
def scells (ss : List (List Int)) : List Value := ss.flatMap (·.map by8)
theorem scells_len {ss : List (List Int)} (h : ∀ s ∈ ss, s.length = 32) : (scells ss).length = ss.length * 32 := by
  induction ss with
  | nil => rfl
  | cons s ss ih =>
    have h1 := h s (by simp)
    have h2 := ih fun u hu => h u (by simp [hu])
    unfold scells at h2 ⊢
    simp only [List.flatMap_cons, List.length_append, List.length_map, List.length_cons, h1, h2]
    omega
theorem scells_snoc (ss : List (List Int)) (s : List Int) : scells (ss ++ [s]) = scells ss ++ s.map by8 := by unfold scells; simp
theorem jfold_fill (off : Nat) : ∀ (l : List Value) (k : Nat) (cs : Array Value), off + k + l.length ≤ cs.size →
    (l.zipIdx k).foldl (fun cs (p : Value × Nat) => cs.setIfInBounds (off + p.2) p.1) cs = (cs.toList.take (off + k) ++ l ++ cs.toList.drop (off + k + l.length)).toArray
  | [], k, cs, h => by simp
  | v :: l, k, cs, h => by
    rw [List.zipIdx_cons, List.foldl_cons, jfold_fill off l (k + 1) _ (by simp at h ⊢; omega)]
    congr 1
    rw [Array.toList_setIfInBounds]
    simp only [List.length_cons] at h ⊢
    rw [List.take_set, List.drop_set_of_lt (by omega)]
    have e : off + (k + 1) = (off + k) + 1 := by omega
    have hlt : off + k < cs.toList.length := by simp; omega
    rw [e, List.take_succ_eq_append_getElem hlt, List.set_append, if_neg (by rw [List.length_take]; omega), List.length_take]
    have : off + k - min (off + k) cs.toList.length = 0 := by omega
    rw [this]
    simp
    congr 1
    omega
theorem jfill_at (off : Nat) (v cs : Array Value) (h : off + v.size ≤ cs.size) : v.zipIdx.foldl (fun cs (p : Value × Nat) => cs.setIfInBounds (off + p.2) p.1) cs = (cs.toList.take off ++ v.toList ++ cs.toList.drop (off + v.size)).toArray := by
  have := jfold_fill off v.toList 0 cs (by simpa using h)
  simp only [Nat.add_zero, Array.length_toList] at this
  rw [← this]
  rw [← Array.foldl_toList, Array.toList_zipIdx]
theorem jrun_slice1 {t e : TypeId} {n : Nat} {z : Value} (ht : Try.prog.underlying t = some (.slice e)) (hn : ∀ w, (sizeOf e).run Try.prog w = .ok n w) (hz : ∀ w, (zeroValue e).run Try.prog w = .ok z w) (h0 : 0 < n) (h1 : n ≤ 16777216) (cs : Array Value) (hc : cs.size = n) (w : World) :
    (Instr.buildSlice t 1 #[(0, .agg cs)]).run Try.prog w = .ok (.slice (some ⟨w.heap.size, 0, none⟩) 1 1) (w.alloc (.cells cs e)) := by
  have e2 : ∀ xs : Array Value, xs.size = n → cs.zipIdx.foldl (fun cs (p : Value × Nat) => cs.setIfInBounds (0 + p.2) p.1) xs = cs := by
    intro xs hx
    rw [jfill_at 0 cs xs (by omega)]
    apply Array.ext'
    simp [hc, hx]
  have e3 : ∀ xs : Array Value, xs.size = n → Array.foldl (fun cs (p : Value × Nat) => cs.setIfInBounds p.2 p.1) xs cs.zipIdx 0 n = cs := fun xs hx => by
    have h := e2 xs hx
    rw [Array.size_zipIdx, hc] at h
    simpa using h
  have h2 : ¬ n = 0 := by omega
  have h3 : ¬ 16777216 < n := by omega
  simp only [Instr.buildSlice, Sem.run_bind, run_underlying ht, hn, Result.andThen_ok]
  simp [h2, h3, hz, Instr.fill, Value.cells, hc, e3, Result.andThen, newRow, go_sem]
theorem fill_sec (X Y : Array Value) (hX : X.size = 32) (hY : Y.size = 32) : Array.foldl (fun cs (x : Value × Nat) => cs.setIfInBounds x.snd x.fst) Y X.zipIdx 0 32 = X := by
  have h : X.zipIdx.foldl (fun cs (p : Value × Nat) => cs.setIfInBounds (0 + p.2) p.1) Y = X := by
    rw [jfill_at 0 X Y (by omega)]
    apply Array.ext'
    simp [hX, hY]
  rw [Array.size_zipIdx, hX] at h
  simpa using h
theorem sizeSw (w : World) : (sizeOf 90).run Try.prog w = .ok 32 w := by
  have h := sizeS
  cases hi : Try.prog.info? 90 with
  | none => rw [hi] at h; cases h
  | some i => rw [hi] at h; simp at h; simp [sizeOf, typeInfo, hi, h]
theorem infoSec : ∃ i : TypeInfo, Try.prog.info? 90 = some i ∧ i.zero = some (secV zsec) ∧ i.size = 32 ∧ i.bytes = 32 := by
  have h : (Try.prog.info? 90).map (fun i => (i.zero, i.size, i.bytes)) = some (some (secV zsec), 32, 32) := by kernel_rfl
  cases hi : Try.prog.info? 90 with
  | none => rw [hi] at h; cases h
  | some i => rw [hi] at h; simp at h; exact ⟨i, rfl, h.1, h.2.1, h.2.2⟩
theorem run_sliceS {s : Sec} (hs : s.length = 32) (w : World) : (Instr.buildSlice 63 1 #[(0, secV s)]).run Try.prog w = .ok (.slice (some ⟨w.heap.size, 0, none⟩) 1 1) (w.alloc (.cells (s.map by8).toArray 90)) :=
  jrun_slice1 (t := 63) (e := 90) Try.underlying63 sizeSw zeroS (by omega) (by omega) (s.map by8).toArray (by simp [hs]) w
section
variable {o : Oper} {a : Act} {w : World}
/-- One sector as a slice. -/
theorem exec_slice1 (x : Operand) (hop : o.op = Op.buildSlice 63 1 #[(0, x)]) (s : Sec) (hx : a.eval x = secV s) (hs : s.length = 32) :
    (execOp a.eval o).run Try.prog w = .ok (.value (.slice (some ⟨w.heap.size, 0, none⟩) 1 1)) (w.alloc (.cells (s.map by8).toArray 90)) := by
  have e := jrun_slice1 (t := 63) (e := 90) Try.underlying63 sizeSw zeroS (by omega) (by omega) (s.map by8).toArray (by simp [hs]) w
  unfold secV at hx
  simp only [execOp, hop, List.map_toArray, List.map_cons, List.map_nil, hx, Sem.run_bind, e, Result.andThen, Sem.run_pure]
theorem exec_loadS (x : Operand) (hop : o.op = .load 90 x) (g : Nat) (hx : a.eval x = .pointer (some ⟨g, 0, none⟩)) (s : Sec) (hs : s.length = 32) (T : TypeId) (hb : Bx w g T s) :
    (execOp a.eval o).run Try.prog w = .ok (.value (secV s)) w := by
  have hl := run_loadVar_row (P := Try.prog) w g T 90 (s.map by8).toArray (0, 0) _ hb Try.underlying90 rfl (by rw [sizeS]; simp [hs])
  simp only [execOp, hop, hx, Sem.run_bind, Instr.loadAt, Instr.sureAddr, Result.andThen, Sem.run_pure, hl]
  rfl
theorem exec_storeS (x y : Operand) (hop : o.op = .store 90 x y) (g : Nat) (hx : a.eval x = .pointer (some ⟨g, 0, none⟩)) (s : Sec) (hy : a.eval y = secV s) (hs : s.length = 32) (T : TypeId) (c : Array Value) (hb : w.heap[g]? = some (.cells c T (0, 0))) (hc : c.size = 32) :
    (execOp a.eval o).run Try.prog w = .ok .skip (w.setRow g (s.map by8).toArray) := by
  have hl := run_storeVar_row (P := Try.prog) w g T 90 c (s.map by8).toArray hb (by rw [sizeS]; simp [hs]) (by simp [hs, hc]) (secV_one s)
  unfold secV at hy
  simp only [execOp, hop, hx, hy, Sem.run_bind, Instr.storeAt, Instr.sureAddr, Result.andThen, Sem.run_pure, hl]
theorem exec_storeN (x y : Operand) (hop : o.op = .store 90 x y) (H : Nat) (hx : a.eval x = .pointer (some ⟨H, 0, none⟩)) (hH : H = w.heap.size) (s : Sec) (hy : a.eval y = secV s) (hs : s.length = 32) (c : Array Value) (hc : c.size = 32) :
    (execOp a.eval o).run Try.prog (w.alloc (.cells c 90)) = .ok .skip (w.alloc (.cells (s.map by8).toArray 90)) := by
  subst hH
  rw [exec_storeS x y hop w.heap.size hx s hy hs 90 c (heap_alloc_new w _) hc, World.setRow_alloc_new]
theorem exec_copyS (x y : Operand) (hop : o.op = .call { callee := .builtin .copy, args := #[x, y], argTypes := #[23, 23] }) (g : Nat) (hx : a.eval x = .slice (some ⟨g, 1, none⟩) 31 31) (T : TypeId) (s : List Int) (hb : Bx w g T s) (hs : s.length = 32)
    (b off m c : Nat) (zs : List Int) (hy : a.eval y = .slice (some ⟨b, off, none⟩) m c) (hz : IsB w (some ⟨b, off, none⟩) m zs) (hm : m ≤ 31) :
    (execOp a.eval o).run Try.prog w = .ok (.value (goInt m)) (w.setRow g ((put s 1 zs).map by8).toArray) := by
  have hu : (Try.prog.info? 5).map (·.size) = some 1 := by kernel_rfl
  have hl := run_copy_row (P := Try.prog) w 23 23 o.type 5 g 1 31 31 ⟨b, off, none⟩ m c (s.map by8).toArray T (zs.map by8) Try.underlying23 hu hb (by simp [hz.1]; exact (Nat.min_eq_left hm).symm) (isB_news hz) (by simp [hz.1, hs]; omega) (one8 zs)
  simp only [List.length_map, hz.1] at hl
  have e : ((s.map by8).toArray.toList.take 1 ++ zs.map by8 ++ (s.map by8).toArray.toList.drop (1 + m)).toArray = ((put s 1 zs).map by8).toArray := by
    unfold put; simp [hz.1, List.map_take, List.map_drop]
  rw [e] at hl
  simp [execOp, hop, resolve, invoke, builtin, hx, hy, hl, Result.andThen]
theorem exec_copyN (x y : Operand) (hop : o.op = .call { callee := .builtin .copy, args := #[x, y], argTypes := #[23, 23] }) (H : Nat) (hx : a.eval x = .slice (some ⟨H, 1, none⟩) 31 31) (hH : H = w.heap.size) (s : List Int) (hs : s.length = 32)
    (b off m c : Nat) (zs : List Int) (hy : a.eval y = .slice (some ⟨b, off, none⟩) m c) (hz : IsB w (some ⟨b, off, none⟩) m zs) (hm : m ≤ 31) :
    (execOp a.eval o).run Try.prog (w.alloc (.cells (s.map by8).toArray 90)) = .ok (.value (goInt m)) (w.alloc (.cells ((put s 1 zs).map by8).toArray 90)) := by
  subst hH
  rw [exec_copyS x y hop w.heap.size hx 90 s (heap_alloc_new w _) hs b off m c zs hy (hz.later ((Below.refl _ _).alloc (Nat.le_refl _) _)) hm, World.setRow_alloc_new]
end
/-- A step inside a region that draws its order. -/
theorem step_run {P : Program} {w w' : World} {ops : Array Oper} {o : Oper} {a : Act} {K : Act → World → Prop} {Q : Exit → Act → World → Prop} {E : Prop} (hgd : o.guard = none) {v : Value} (hrun : (execOp a.eval o).run P w = .ok (.value v) w') (h : K (a.put o.dst v) w') :
    if Region.wanted o (yielded ops a.tmps) = true then Oper.wp P o a w K Q else E := by
  rw [if_pos (by simp [Region.wanted, hgd])]
  unfold Oper.wp
  rw [hrun]
  exact h
theorem step_append {P : Program} (w : World) {ops : Array Oper} {o : Oper} {a : Act} {K : Act → World → Prop} {Q : Exit → Act → World → Prop} {E : Prop} (hgd : o.guard = none) (s x : Operand) (t : TypeId)
    (ho : o.op = .call { callee := .builtin .append, args := #[s, x], argTypes := #[t, t] })
    (base : Nat) (e : TypeId) (i : TypeInfo) (z : Value) (size bytes : Nat) (ht : P.underlying t = some (.slice e)) (hi : P.info? e = some i) (hz : i.zero = some z)
    (hsize : i.size = size) (hby : i.bytes = bytes) (hzs : z.cells.size = size) (hsz : 0 < size)
    (v : Value) (n : Nat) (xs : List Value) (hs : a.eval s = v) (hown : w.ownsRow base e size v n xs)
    (ad : Addr) (m c : Nat) (news : List Value) (hx : a.eval x = .slice (some ad) m c) (hl : news.length = m * size) (hnews : ∀ j u, news[j]? = some u → w.cell? (ad.add j) = some u) (h1 : ∀ u ∈ news, u.oneCell' = true)
    (h63 : n + m ≤ maxLen) (hbytes : (n + m) * bytes ≤ 140737488355328) (hbase : base ≤ w.heap.size)
    (h : ∀ v' w', w'.ownsRow base e size v' (n + m) (xs ++ news) → w.grownBy w' v.ownBlock → K (a.put o.dst v') w') :
    if Region.wanted o (yielded ops a.tmps) = true then Oper.wp P o a w K Q else E := by
  rw [if_pos (by simp [Region.wanted, hgd])]
  exact wp_append_own w s x t ho base e i z size bytes ht hi hz hsize hby hzs hsz v n xs hs hown ad m c news hx hl hnews h1 h63 hbytes hbase fun v' w' a b _ => h v' w' a b
theorem news_sec {w : World} {B : Nat} {s : List Int} {t : TypeId} {fr : Nat × Nat} (hb : w.heap[B]? = some (.cells (s.map by8).toArray t fr)) : ∀ j u, (s.map by8)[j]? = some u → w.cell? ((⟨B, 0, none⟩ : Addr).add j) = some u := fun j u hu => by
  rw [addr_add, cell_of_row w B _ _ t fr hb]
  simpa using hu
theorem news_X {w : World} {B : Nat} {s : List Int} {t : TypeId} {fr : Nat × Nat} {X : Array Value} (hb : w.heap[B]? = some (.cells X t fr)) (e : X = (s.map by8).toArray) : ∀ j u, (s.map by8)[j]? = some u → w.cell? ((⟨B, 0, none⟩ : Addr).add j) = some u := by
  subst e; exact news_sec hb
theorem put_mark {z : List Int} (h : z.length ≤ 31) : put (markS 68) 1 z = Jo.pad (68 :: z) := by
  unfold put markS Jo.pad
  simp only [List.take_succ_cons, List.take_zero, List.cons_append, List.nil_append, Nat.add_comm 1, List.drop_succ_cons, List.drop_replicate, List.length_cons]
  congr 3
  omega
theorem exec_copyD {o : Oper} {a : Act} {w : World} (x y : Operand) (hop : o.op = .call { callee := .builtin .copy, args := #[x, y], argTypes := #[23, 23] }) (H : Nat) (hx : a.eval x = .slice (some ⟨H, 1, none⟩) 31 31) (hH : H = w.heap.size)
    (b off m c : Nat) (L : List Int) (k : Nat) (hy : a.eval y = .slice (some ⟨b, off, none⟩) m c) (hz : IsB w (some ⟨b, off, none⟩) m (Jo.chunk L k)) (hm : m ≤ 31) :
    (execOp a.eval o).run Try.prog (w.alloc (.cells ((markS 68).map by8).toArray 90)) = .ok (.value (goInt m)) (w.alloc (.cells ((Jo.dataS L k).map by8).toArray 90)) := by
  rw [exec_copyN x y hop H hx hH (markS 68) rfl b off m c (Jo.chunk L k) hy hz hm, put_mark (by rw [hz.1]; exact hm)]
  rfl
end Go.Proofs.Ytllohapbbmnipad
