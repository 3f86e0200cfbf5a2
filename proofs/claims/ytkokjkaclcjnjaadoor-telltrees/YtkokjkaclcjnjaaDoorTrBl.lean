/-
  insideOf of the package tell.
  What takes texts one by one (a loop over a function that yields), as its giver sees it.
-/
import Derived.Test.YtkokjkaclcjnjaaDoorTrBk
import Derived.Test.YtkokjkaclcjnjaaDoorTrBi
import Derived.Laws.AppendOwnNone
import Derived.Test.YtkokjkaclcjnjaaDoorTrBd
import Derived.Test.YtkokjkaclcjnjaaDoorTrBf
import Derived.Test.YtkokjkaclcjnjaaDoorTrAk
namespace Go.Proofs.YtkokjkaclcjnjaaDoor
open Go.RowKit Go.ChangeShapes Go.WideShapes Go.ChangeAt
set_option linter.unusedVariables false
set_option linter.unusedSimpArgs false
set_option maxRecDepth 100000
theorem conv_noneL (w : World) (p : Option Addr) (c : Nat) : (convert 32 9 (.slice p 0 c)).run Tryd.prog w = .ok (.string ByteArray.empty) w := by
 rw [run_convert_bytes_string w 32 9 5 _ 0 c Tryd.underlying32 Tryd.underlying5 Tryd.underlying9]
 cases p <;> simp [Conv.bytesToString, loadCells]
 all_goals rfl
theorem conv_L {w : World} {pa : Option Addr} {pc : Nat} {zs : List Int} (h : IsB w pa zs.length zs) : (convert 32 9 (.slice pa zs.length pc)).run Tryd.prog w = .ok (.string (Fr.tx zs)) w := by
 by_cases hp : 0 < zs.length
 · obtain ⟨h1, h2, h3, h4⟩ := h
   obtain ⟨b, off, rfl, hc⟩ := h3 hp
   exact run_convert_bytes_arg w 32 5 Tryd.underlying32 Tryd.underlying5 b off zs.length pc zs h1 hc 9 Tryd.underlying9
 · have h0 : zs.length = 0 := by omega
   rw [h0, conv_noneL, List.eq_nil_of_length_eq_zero h0]; rfl
def kidT (k : Kd) : ByteArray := k.nm ++ ⟨#[61]⟩ ++ decB k.fid.toNat
theorem info_strT : ∃ i : TypeInfo, Tryd.prog.info? 9 = some i ∧ i.zero = some (.string ByteArray.empty) ∧ i.size = 1 ∧ i.bytes = 16 := by
 have h : (Tryd.prog.info? 9).map (fun i => (i.zero, i.size, i.bytes)) = some (some (.string ByteArray.empty), 1, 16) := by kernel_rfl
 cases hi : Tryd.prog.info? 9 with
 | none => rw [hi] at h; cases h
 | some i => rw [hi] at h; simp at h; exact ⟨i, rfl, h.1, h.2.1, h.2.2⟩
def OwS (w : World) (base : Nat) (v : Value) (l : List ByteArray) : Prop := w.ownsRow base 9 1 v l.length (l.map Value.string)
theorem OwS.nil (w : World) (base : Nat) : OwS w base (.slice none 0 0) [] := World.ownsRow_nil _ _ 9 1
theorem OwS.later {w w' : World} {base : Nat} {v : Value} {l : List ByteArray} (h : OwS w base v l) (hb : Below w.heap.size w w') : OwS w' base v l := own_latR h hb
theorem OwS.shape {w : World} {base : Nat} {v : Value} {l : List ByteArray} (h : OwS w base v l) : ∃ a c, v = .slice a l.length c := by
 rcases h.2 with ⟨e, e0⟩ | ⟨g', cap, cur, hv, _⟩
 · exact ⟨none, 0, by rw [e, e0]⟩
 · exact ⟨_, cap, hv⟩
theorem OwS.cells {w : World} {base : Nat} {a : Option Addr} {c : Nat} {l : List ByteArray} (h : OwS w base (.slice a l.length c) l) (hp : 0 < l.length) : ∃ g, a = some ⟨g, 0, none⟩ ∧ g < w.heap.size ∧ l.length ≤ c ∧ ∀ (j : Nat) x, l[j]? = some x → w.cell? ⟨g, 0 + j, none⟩ = some (.string x) := by
 rcases h.2 with ⟨e, e0⟩ | ⟨g', cap, cur, hv, hb, hg, h1, h2, h3, h4⟩
 · exact absurd e0 (by omega)
 · simp only [Value.slice.injEq] at hv
   obtain ⟨rfl, _, rfl⟩ := hv
   refine ⟨g', rfl, lt_blkR hg, h1, fun j x hx => ?_⟩
   have hj : j < l.length := (List.getElem?_eq_some_iff.1 hx).1
   rw [Nat.zero_add, cell_of_row w g' j cur _ _ hg, ← Array.getElem?_toList]
   have h8 : (cur.toList.take (l.length * 1))[j]? = (l.map Value.string)[j]? := by rw [h4]
   rw [List.getElem?_take_of_lt (by omega), List.getElem?_map, hx] at h8
   exact h8
theorem step_appS (w : World) {ops : Array Oper} {o : Oper} {a : Act} {K : Act → World → Prop} {Q : Exit → Act → World → Prop} {E : Prop} (hgd : o.guard = none) (s x : Operand)
   (ho : o.op = .call { callee := .builtin .append, args := #[s, x], argTypes := #[42, 42] })
   (base : Nat) (v : Value) (l : List ByteArray) (hs : a.eval s = v) (hown : OwS w base v l) (g : Nat) (y : ByteArray) (hx : a.eval x = .slice (some ⟨g, 0, none⟩) 1 1) (hg : w.heap[g]? = some (.cells #[.string y] 9 (0, 0))) (hl : l.length ≤ 100000) (hb : base ≤ w.heap.size)
   (h : ∀ v' w', OwS w' base v' (l ++ [y]) → w.grownBy w' v.ownBlock → K (a.put o.dst v') w') :
   if Region.wanted o (yielded ops a.tmps) = true then Oper.wp Tryd.prog o a w K Q else E := by
 rw [if_pos (by simp [Region.wanted, hgd])]
 obtain ⟨i0, hi0, hz0, hz1, hz2⟩ := info_strT
 refine wp_append_own w s x 42 ho base 9 i0 (.string ByteArray.empty) 1 16 Tryd.underlying42 hi0 hz0 hz1 hz2 (by rfl) (by decide) v l.length _ hs hown ⟨g, 0, none⟩ 1 1 [.string y] hx (by simp) (fun j u hj => ?_) (fun u hu => ?_) (by unfold maxLen; omega) (by omega) hb ?_
 · match j, hj with
   | 0, hj => simp at hj; subst hj; rw [Lib.add_plain, Nat.zero_add]; exact cell_of_row2 hg 0 rfl
 · rw [List.mem_singleton] at hu
   subst hu
   rfl
 · intro v' w' q1 q2 _
   exact h v' w' (by unfold OwS; rw [List.map_append, List.length_append]; exact q1) q2
def insB (x : Nd) : ByteArray := if x.k = 2 then (if x.ks = [] then ⟨#[45]⟩ else ⟨(Lib.join (x.ks.map fun k => (kidT k).data.toList) [44]).toArray⟩) else ⟨(quoteL (Fr.tx x.zs).data.toList).toArray⟩
theorem txs_size (z : List Int) : (Fr.tx z).size = z.length := by unfold Fr.tx; show (List.toArray _).size = _; simp
theorem below_grownI {B : Nat} {a w w' : World} {base : Nat} {e size n : Nat} {v : Value} {xs : List Value} (h : Below B a w) (hown : w.ownsRow base e size v n xs) (hB : B ≤ base) (hBw : B ≤ w.heap.size) (hg : w.grownBy w' v.ownBlock) : Below B a w' :=
 h.grown hg hBw (fun k hk => Nat.le_trans hB (hown.lt k hk).1)
set_option maxHeartbeats 4000000 in
theorem inQ_c (x : Nd) (w : World) (hx : x.Ok w) (hz : x.zs.length ≤ 100000) (hk : x.k ≠ 2) : Calls Tryd.prog 55 #[x.val] w fun e w' => e = .returned (.string ⟨(quoteL (Fr.tx x.zs).data.toList).toArray⟩) ∧ Below w.heap.size w w' := by
 have hb := below_1 w (.cells x.cells.toArray 35)
 have hB := heap_alloc_new w (.cells x.cells.toArray 35)
 have k1 : (w.alloc (.cells x.cells.toArray 35)).cell? ⟨w.heap.size, 1, none⟩ = some (.int .u8 x.k) := cell_of_row2 hB 1 rfl
 have k4 : (w.alloc (.cells x.cells.toArray 35)).cell? ⟨w.heap.size, 4, none⟩ = some (.slice x.da x.zs.length x.dc) := cell_of_row2 hB 4 rfl
 have cv := conv_L (pc := x.dc) (hx.2.2.2.2.1.later hb)
 have b2 : (x.k != 2) = true := by rw [bne_iff_ne]; exact hk
 have QC := hid (quote_c (Fr.tx x.zs) (w.alloc (.cells x.cells.toArray 35)) (by rw [txs_size]; omega))
 have B0 := hid hb
 clear hb hB hx hk
 simp only [Nd.val, Nd.cells] at *
 go_enter Tryd.func55, Tryd.ntmps55
 go_wp2_with (go_at_call 12; refine QC.out.mono ?_; rintro _ w3 ⟨rfl, h3⟩; have B3 := hid (B0.out.trans (h3.mono B0.out.size)); clear h3)
 go_ret
 exact ⟨rfl, B3.out⟩
end Go.Proofs.YtkokjkaclcjnjaaDoor
namespace Go.Proofs.YtkokjkaclcjnjaaDoor
open Go.RowKit Go.ChangeShapes Go.WideShapes Go.ChangeAt Go.Shelf
set_option linter.unusedVariables false
set_option linter.unusedSimpArgs false
set_option maxRecDepth 100000
theorem Ou.trans' {S T : Nat → Prop} {a b c : World} (h : Ou S a b) (k : Ou T b c) (hT : ∀ q, T q → S q ∨ a.heap.size ≤ q) : Ou S a c :=
 ⟨k.os.trans h.os, k.tape.trans h.tape, k.output.trans h.output, Nat.le_trans h.size k.size, fun i hi hS => (k.block i (Nat.lt_of_lt_of_le hi h.size) (fun e => by rcases hT i e with q | q; exact hS q; omega)).trans (h.block i hi hS)⟩
theorem Ou.put {S : Nat → Prop} (w : World) {q : Nat} (o : Obj) (hq : S q) : Ou S w (w.putObj q o) := ⟨rfl, rfl, rfl, by simp, fun k _ hk => World.putObj_heap_other (fun e => hk (e ▸ hq))⟩
theorem Ou.al {S : Nat → Prop} (w : World) (o : Obj) : Ou S w (w.alloc o) := Ou.of (below_1 w o)
theorem Ou.box {S : Nat → Prop} {w w' : World} {q : Nat} {o : Obj} (h : Ou S w w') (hq : ¬ S q) (ho : w.heap[q]? = some o) : w'.heap[q]? = some o := (h.block q (lt_blkR ho) hq).trans ho
structure Sink (lp N : Nat) (J : (Nat → Prop) → List ByteArray → World → Prop) : Prop where
 stab : ∀ U pre A B, J U pre A → Ou (fun k => ¬ U k) A B → J U pre B
 lt : ∀ U pre A k, J U pre A → U k → k < A.heap.size
 yield : ∀ U pre x A, J U pre A → pre.length < N → YieldAt Fence.wide 1 Tryd.prog lp #[.string x] A fun e B => e = .returned (.bool true) ∧ ∃ U', J U' (pre ++ [x]) B ∧ (∀ k, U' k → U k ∨ A.heap.size ≤ k) ∧ Ou U A B
theorem Sink.later {lp N : Nat} {J : (Nat → Prop) → List ByteArray → World → Prop} (S : Sink lp N J) {U : Nat → Prop} {pre : List ByteArray} {A B : World} (h : J U pre A) (hb : Below A.heap.size A B) : J U pre B := S.stab _ _ _ _ h (Ou.of hb)
def EntC (L : List Nd) (a : Option Addr) (cap : Nat) (w0 : World) (f : Int) (p : ByteArray) (R : List ByteArray) : Prop :=
 ∀ (lp N : Nat) (J : (Nat → Prop) → List ByteArray → World → Prop) (U : Nat → Prop) (pre : List ByteArray) (W : World) (bt bf bp : Nat), Sink lp N J → Below w0.heap.size w0 W → J U pre W → (∀ k, U k → w0.heap.size ≤ k) →
   W.heap[bt]? = some (.cells #[.slice a L.length cap] 38 (0, 0)) → W.heap[bf]? = some (.cells #[.int .u32 f] 29 (0, 0)) → W.heap[bp]? = some (.cells #[.string p] 9 (0, 0)) → ¬ U bt → ¬ U bf → ¬ U bp →
   pre.length + R.length ≤ N →
   CallsIn Fence.wide 2 Tryd.prog 69 #[.func (.yield lp) #[] #[], .pointer (some ⟨bt, 0, none⟩), .pointer (some ⟨bf, 0, none⟩), .pointer (some ⟨bp, 0, none⟩)] W fun e W' =>
     (∃ v, e = .returned v) ∧ ∃ U', J U' (pre ++ R) W' ∧ (∀ k, U' k → U k ∨ W.heap.size ≤ k) ∧ Ou U W W'
def Mks (w : World) : List Deferred → List Nat → Prop
 | [], [] => True
 | d :: ds, D :: Ds => d = { target := .collected D, args := #[] } ∧ w.heap[D]? = some (.deferred (some [])) ∧ D ∉ Ds ∧ Mks w ds Ds
 | _, _ => False
theorem Mks.keep {w w' : World} : ∀ {ds : List Deferred} {Ds : List Nat}, Mks w ds Ds → (∀ D ∈ Ds, w'.heap[D]? = w.heap[D]?) → Mks w' ds Ds
 | [], [], _, _ => trivial
 | [], _ :: _, h, _ => h.elim
 | _ :: _, [], h, _ => h.elim
 | d :: ds, D :: Ds, h, hk => ⟨h.1, (hk D (List.mem_cons_self ..)).trans h.2.1, h.2.2.1, h.2.2.2.keep (fun E hE => hk E (List.mem_cons_of_mem _ hE))⟩
theorem mks_lt {w : World} : ∀ {ds : List Deferred} {Ds : List Nat}, Mks w ds Ds → ∀ D ∈ Ds, D < w.heap.size
 | [], [], _, D, hD => by cases hD
 | [], _ :: _, h, _, _ => h.elim
 | _ :: _, [], h, _, _ => h.elim
 | d :: ds, D :: Ds, h, E, hE => by
   rcases List.mem_cons.1 hE with e | e
   · rw [e]; exact lt_blkR h.2.1
   · exact mks_lt h.2.2.2 E e
theorem leave_marks {n : Nat} {fn : Func} {tmps : Array Value} {R : Ending → World → Prop} : ∀ {ds : List Deferred} {Ds : List Nat} {w : World}, Mks w ds Ds → (∀ w', Ou (· ∈ Ds) w w' → LeavesInM Fence.wide n Tryd.prog fn tmps R [] .returning w') → LeavesInM Fence.wide n Tryd.prog fn tmps R ds .returning w
 | [], [], w, _, h => h w (Ou.refl _ _)
 | [], _ :: _, _, h, _ => h.elim
 | _ :: _, [], _, h, _ => h.elim
 | d :: ds, D :: Ds, w, hm, h => by
   obtain ⟨rfl, h1, h2, h3⟩ := hm
   refine ⟨by simp, .inl ⟨D, _, rfl, run_takeDeferred h1, ?_⟩⟩
   refine leave_marks (Ds := Ds) (h3.keep (fun E hE => World.putObj_heap_other (fun e => h2 (e ▸ hE)))) (fun w' hw' => h w' ?_)
   exact (Ou.put w _ (List.mem_cons_self ..)).trans (hw'.mono (fun q hq => List.mem_cons_of_mem _ hq))
end Go.Proofs.YtkokjkaclcjnjaaDoor
