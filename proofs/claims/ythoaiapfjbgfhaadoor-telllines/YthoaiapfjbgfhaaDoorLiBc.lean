/-
  insideOf of the package tell.
-/
import Derived.Test.YthoaiapfjbgfhaaDoorLiBb
import Derived.Test.YthoaiapfjbgfhaaDoorLiAm
import Derived.Laws.AppendOwnNone
namespace Go.Proofs.YthoaiapfjbgfhaaDoor
open Go.RowKit Go.ChangeShapes Go.WideShapes Go.ChangeAt
set_option linter.unusedVariables false
set_option linter.unusedSimpArgs false
set_option maxRecDepth 100000
theorem conv_noneL (w : World) (p : Option Addr) (c : Nat) : (convert 32 9 (.slice p 0 c)).run Tryd.prog w = .ok (.string ByteArray.empty) w := by
 rw [run_convert_bytes_string w 32 9 5 _ 0 c Tryd.underlying32 Tryd.underlying5 Tryd.underlying9]
 cases p <;> simp [Conv.bytesToString, loadCells]
 all_goals rfl
theorem conv_L {w : World} {pa : Option Addr} {pc : Nat} {zs : List Int} (h : IsB w pa zs.length zs) : (convert 32 9 (.slice pa zs.length pc)).run Tryd.prog w = .ok (.string (Fr.tx zs)) w := by
 by_cases hp : 0 < zs.length
 · obtain ⟨h1, h2, h3, h4⟩ := h
   obtain ⟨b, off, rfl, hc⟩ := h3 hp
   exact run_convert_bytes_arg w 32 5 Tryd.underlying32 Tryd.underlying5 b off zs.length pc zs h1 hc 9 Tryd.underlying9
 · have h0 : zs.length = 0 := by omega
   rw [h0, conv_noneL, List.eq_nil_of_length_eq_zero h0]; rfl
def kidT (k : Kd) : ByteArray := k.nm ++ ⟨#[61]⟩ ++ decB k.fid.toNat
theorem info_strT : ∃ i : TypeInfo, Tryd.prog.info? 9 = some i ∧ i.zero = some (.string ByteArray.empty) ∧ i.size = 1 ∧ i.bytes = 16 := by
 have h : (Tryd.prog.info? 9).map (fun i => (i.zero, i.size, i.bytes)) = some (some (.string ByteArray.empty), 1, 16) := by kernel_rfl
 cases hi : Tryd.prog.info? 9 with
 | none => rw [hi] at h; cases h
 | some i => rw [hi] at h; simp at h; exact ⟨i, rfl, h.1, h.2.1, h.2.2⟩
def OwS (w : World) (base : Nat) (v : Value) (l : List ByteArray) : Prop := w.ownsRow base 9 1 v l.length (l.map Value.string)
theorem OwS.nil (w : World) (base : Nat) : OwS w base (.slice none 0 0) [] := World.ownsRow_nil _ _ 9 1
theorem OwS.later {w w' : World} {base : Nat} {v : Value} {l : List ByteArray} (h : OwS w base v l) (hb : Below w.heap.size w w') : OwS w' base v l := own_latR h hb
theorem OwS.shape {w : World} {base : Nat} {v : Value} {l : List ByteArray} (h : OwS w base v l) : ∃ a c, v = .slice a l.length c := by
 rcases h.2 with ⟨e, e0⟩ | ⟨g', cap, cur, hv, _⟩
 · exact ⟨none, 0, by rw [e, e0]⟩
 · exact ⟨_, cap, hv⟩
theorem OwS.cells {w : World} {base : Nat} {a : Option Addr} {c : Nat} {l : List ByteArray} (h : OwS w base (.slice a l.length c) l) (hp : 0 < l.length) : ∃ g, a = some ⟨g, 0, none⟩ ∧ g < w.heap.size ∧ l.length ≤ c ∧ ∀ (j : Nat) x, l[j]? = some x → w.cell? ⟨g, 0 + j, none⟩ = some (.string x) := by
 rcases h.2 with ⟨e, e0⟩ | ⟨g', cap, cur, hv, hb, hg, h1, h2, h3, h4⟩
 · exact absurd e0 (by omega)
 · simp only [Value.slice.injEq] at hv
   obtain ⟨rfl, _, rfl⟩ := hv
   refine ⟨g', rfl, lt_blkR hg, h1, fun j x hx => ?_⟩
   have hj : j < l.length := (List.getElem?_eq_some_iff.1 hx).1
   rw [Nat.zero_add, cell_of_row w g' j cur _ _ hg, ← Array.getElem?_toList]
   have h8 : (cur.toList.take (l.length * 1))[j]? = (l.map Value.string)[j]? := by rw [h4]
   rw [List.getElem?_take_of_lt (by omega), List.getElem?_map, hx] at h8
   exact h8
theorem step_appS (w : World) {ops : Array Oper} {o : Oper} {a : Act} {K : Act → World → Prop} {Q : Exit → Act → World → Prop} {E : Prop} (hgd : o.guard = none) (s x : Operand)
   (ho : o.op = .call { callee := .builtin .append, args := #[s, x], argTypes := #[42, 42] })
   (base : Nat) (v : Value) (l : List ByteArray) (hs : a.eval s = v) (hown : OwS w base v l) (g : Nat) (y : ByteArray) (hx : a.eval x = .slice (some ⟨g, 0, none⟩) 1 1) (hg : w.heap[g]? = some (.cells #[.string y] 9 (0, 0))) (hl : l.length ≤ 100000) (hb : base ≤ w.heap.size)
   (h : ∀ v' w', OwS w' base v' (l ++ [y]) → w.grownBy w' v.ownBlock → K (a.put o.dst v') w') :
   if Region.wanted o (yielded ops a.tmps) = true then Oper.wp Tryd.prog o a w K Q else E := by
 rw [if_pos (by simp [Region.wanted, hgd])]
 obtain ⟨i0, hi0, hz0, hz1, hz2⟩ := info_strT
 refine wp_append_own w s x 42 ho base 9 i0 (.string ByteArray.empty) 1 16 Tryd.underlying42 hi0 hz0 hz1 hz2 (by rfl) (by decide) v l.length _ hs hown ⟨g, 0, none⟩ 1 1 [.string y] hx (by simp) (fun j u hj => ?_) (fun u hu => ?_) (by unfold maxLen; omega) (by omega) hb ?_
 · match j, hj with
   | 0, hj => simp at hj; subst hj; rw [Lib.add_plain, Nat.zero_add]; exact cell_of_row2 hg 0 rfl
 · rw [List.mem_singleton] at hu
   subst hu
   rfl
 · intro v' w' q1 q2 _
   exact h v' w' (by unfold OwS; rw [List.map_append, List.length_append]; exact q1) q2
def insB (x : Nd) : ByteArray := if x.k = 2 then (if x.ks = [] then ⟨#[45]⟩ else ⟨(Lib.join (x.ks.map fun k => (kidT k).data.toList) [44]).toArray⟩) else ⟨(quoteL (Fr.tx x.zs).data.toList).toArray⟩
theorem txs_size (z : List Int) : (Fr.tx z).size = z.length := by unfold Fr.tx; show (List.toArray _).size = _; simp
theorem below_grownI {B : Nat} {a w w' : World} {base : Nat} {e size n : Nat} {v : Value} {xs : List Value} (h : Below B a w) (hown : w.ownsRow base e size v n xs) (hB : B ≤ base) (hBw : B ≤ w.heap.size) (hg : w.grownBy w' v.ownBlock) : Below B a w' :=
 h.grown hg hBw (fun k hk => Nat.le_trans hB (hown.lt k hk).1)
set_option maxHeartbeats 4000000 in
theorem inQ_c (x : Nd) (w : World) (hx : x.Ok w) (hz : x.zs.length ≤ 100000) (hk : x.k ≠ 2) : Calls Tryd.prog 55 #[x.val] w fun e w' => e = .returned (.string ⟨(quoteL (Fr.tx x.zs).data.toList).toArray⟩) ∧ Below w.heap.size w w' := by
 have hb := below_1 w (.cells x.cells.toArray 35)
 have hB := heap_alloc_new w (.cells x.cells.toArray 35)
 have k1 : (w.alloc (.cells x.cells.toArray 35)).cell? ⟨w.heap.size, 1, none⟩ = some (.int .u8 x.k) := cell_of_row2 hB 1 rfl
 have k4 : (w.alloc (.cells x.cells.toArray 35)).cell? ⟨w.heap.size, 4, none⟩ = some (.slice x.da x.zs.length x.dc) := cell_of_row2 hB 4 rfl
 have cv := conv_L (pc := x.dc) (hx.2.2.2.2.1.later hb)
 have b2 : (x.k != 2) = true := by rw [bne_iff_ne]; exact hk
 have QC := hid (quote_c (Fr.tx x.zs) (w.alloc (.cells x.cells.toArray 35)) (by rw [txs_size]; omega))
 have B0 := hid hb
 clear hb hB hx hk
 simp only [Nd.val, Nd.cells] at *
 go_enter Tryd.func55, Tryd.ntmps55
 go_wp2_with (go_at_call 12; refine QC.out.mono ?_; rintro _ w3 ⟨rfl, h3⟩; have B3 := hid (B0.out.trans (h3.mono B0.out.size)); clear h3)
 go_ret
 exact ⟨rfl, B3.out⟩
end Go.Proofs.YthoaiapfjbgfhaaDoor
