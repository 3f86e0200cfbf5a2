/-
  A number as digits, whatever it is.
  insideOf of the package tell.
-/
import Derived.Test.YtkokjkaclcjnjaaDoorBkAq
import Derived.Lib.ItoaMem
import Derived.Lib.LaidTab
import Derived.Test.YtkokjkaclcjnjaaDoorBkAh
import Derived.Laws.AppendOwnNone
namespace Go.Proofs.YtkokjkaclcjnjaaDoor
open Go.RowKit Go.ChangeShapes Go.WideShapes Go.ChangeAt Go.Sort
set_option linter.unusedVariables false
set_option linter.unusedSimpArgs false
set_option maxRecDepth 100000
def TabW (w : World) : Prop := Lib.TabIs Tryd.prog w "internal/strconv.uint64pow10" .u64 Lib.pow10Tab
theorem TabW.later {w w' : World} (h : TabW w) (hb : Below w.heap.size w w') : TabW w' := by
 unfold TabW Lib.TabIs World.var? at *
 cases hg : Tryd.prog.globalNamed "internal/strconv.uint64pow10" with
 | none => simp [hg] at h
 | some g =>
   simp only [hg, Option.bind_some] at h ⊢
   have hlt : g < w.heap.size := by
     rcases Nat.lt_or_ge g w.heap.size with h' | h'
     · exact h'
     · rw [Array.getElem?_eq_none h'] at h; simp at h
   rw [hb.block g hlt]
   exact h
theorem holds_zero0 (w : World) (T : TypeId) (nd : Nat) (hs : nd ≤ 24) : Holds (fun (b : UInt8) => Value.int .u8 (b.toNat : Int)) (w.alloc (.cells Lib.zeros24 T)) w.heap.size 0 (Array.replicate nd (0 : UInt8)) := fun j hj => by
 have hj' : j < nd := by simpa using hj
 refine ⟨?_, World.frozen?_alloc_new _ _ _ _⟩
 rw [World.cell?_alloc_new]
 rw [Lib.zeros24_at _ (by omega), getElem!_pos _ j hj]
 simp
theorem fin_0 (w : World) (o : Obj) (dk : Array UInt8) (k : Nat) : Below w.heap.size w ((putRow (fun (b : UInt8) => Value.int .u8 (b.toNat : Int)) (w.alloc o) w.heap.size 0 dk).drewN k) := by
 have h1 := below_1 w o
 refine ⟨h1.os, h1.tape, h1.output, ?_, fun i hi => ?_⟩
 · show w.heap.size ≤ (mapBlock (w.alloc o) w.heap.size _).heap.size
   unfold mapBlock
   simp
 · show (mapBlock (w.alloc o) w.heap.size _).heap[i]? = _
   unfold mapBlock
   simp only
   rw [Array.getElem?_modify, if_neg (by omega)]
   exact h1.block i hi
set_option maxHeartbeats 4000000 in
theorem fmtU_c (u : Nat) (hu : u < 4294967296) (w : World) (ht : TabW w) : Calls Tryd.prog 58 #[.int .u64 (u : Int), .int .i64 10] w fun e w' => e = .returned (.string (decB u)) ∧ Below w.heap.size w w' := by
 by_cases h100 : u < 100
 · have h1 : (u : Int) < 100 := by omega
   have S1 := hid (fun W => Tryd.internal_strconv_small u h100 W)
   go_enter Tryd.func58, Tryd.ntmps58
   go_wp2_with (go_at_call 86; refine (S1.out _).mono ?_; rintro _ w3 ⟨rfl, h3⟩; rw [h3]; clear h3)
   go_ret
   exact ⟨rfl, Below.refl _ _⟩
 · have h1 : ¬ (u : Int) < 100 := by omega
   have hu1 : 1 ≤ u := by omega
   have hu64 : u < 18446744073709551616 := by omega
   have hnd20 : Lib.nDigits u ≤ 20 := by have := Lib.numDigits_eq u hu1 hu64; split at this <;> omega
   have b0 := below_1 w (.cells Lib.zeros24 121)
   have ND := hid (Tryd.internal_strconv_numDigits u hu1 hu64 (w.alloc (.cells Lib.zeros24 121)) (ht.later b0))
   have hsl : ∀ W, (Instr.sliceAt 121 (.pointer (some ⟨w.heap.size, 0, none⟩)) none (some (.int .i64 (Lib.nDigits u : Int))) none).run Tryd.prog W = .ok (.slice (some ⟨w.heap.size, 0, none⟩) (Lib.nDigits u) 24) W := fun W => by
     rw [run_sliceAt_array_h W 121 ⟨w.heap.size, 0, none⟩ (by simp [Program.arrayLen, Program.elem, Tryd.underlying121]) .i64 (Lib.nDigits u : Int) (by omega) (by simp [Program.arrayLen, Tryd.underlying121]; omega)]
     go_simp
   have hH0 := holds_zero0 w 121 (Lib.nDigits u) (by omega)
   have hfmt := Tryd.internal_strconv_formatBase10 w.heap.size 0 24 u (Array.replicate (Lib.nDigits u) 0) (w.alloc (.cells Lib.zeros24 121)) hH0 (by rw [Array.size_replicate]; exact Lib.lt_pow_nDigits u) hu64 (by rw [Array.size_replicate]; omega)
   rw [Array.size_replicate] at hfmt
   have HF := hid hfmt
   have HH0 := hid hH0
   clear hH0 hfmt b0
   go_enter Tryd.func58, Tryd.ntmps58
   go_upto_region 5 with fail
   change Code.wp _ _ _ _ (w.alloc (.cells Lib.zeros24 121))
   go_upto_region 6 with (go_at_call 87; refine ND.out.mono ?_; rintro _ w1 ⟨rfl, h1⟩; rw [h1]; clear h1)
   clear ND
   go_wp2_with (go_at_call 88; refine HF.out.mono ?_)
   rintro e w' ⟨rfl, k, v', dk, rfl, hF⟩
   have hcv : (convert 32 9 (.slice (some ⟨w.heap.size, 0, none⟩) (Lib.nDigits u) 24)).run Tryd.prog ((putRow (fun (b : UInt8) => Value.int .u8 (b.toNat : Int)) (w.alloc (.cells Lib.zeros24 121)) w.heap.size 0 dk).drewN k) = .ok (.string ⟨(Lib.decDigits u).toArray⟩) ((putRow (fun (b : UInt8) => Value.int .u8 (b.toNat : Int)) (w.alloc (.cells Lib.zeros24 121)) w.heap.size 0 dk).drewN k) := by
     have h := run_convert_bytes_back (P := Tryd.prog) ((putRow (fun (b : UInt8) => Value.int .u8 (b.toNat : Int)) (w.alloc (.cells Lib.zeros24 121)) w.heap.size 0 dk).drewN k) 32 9 5 ⟨w.heap.size, 0, none⟩ 24 (Lib.decDigits u) Tryd.underlying32 Tryd.underlying5 Tryd.underlying9 (fun j hj => by
       rw [Lib.row_is_numeral hF j hj, Lib.add_plain, World.cell?_drewN]
       exact cell?_putRow (fun (b : UInt8) => Value.int .u8 (b.toNat : Int)) _ w.heap.size 0 _ dk HH0.out (by rw [hF.size, Array.size_replicate]) j (by rw [hF.size]; rw [Lib.decDigits_length] at hj; exact hj))
     rw [Lib.decDigits_length] at h
     exact h
   have HB := hid (fin_0 w (.cells Lib.zeros24 121) dk k)
   generalize (putRow (fun (b : UInt8) => Value.int .u8 (b.toNat : Int)) (w.alloc (.cells Lib.zeros24 121)) w.heap.size 0 dk).drewN k = W at *
   clear hF HH0 HF
   go_wp2
   go_ret
   exact ⟨rfl, HB.out⟩
set_option maxHeartbeats 1000000 in
theorem fmtP_c (u : Nat) (hu : u < 4294967296) (w : World) (ht : TabW w) : Calls Tryd.prog 35 #[.int .u64 (u : Int), .int .i64 10] w fun e w' => e = .returned (.string (decB u)) ∧ Below w.heap.size w w' := by
 have FC := hid (fmtU_c u hu w ht)
 go_enter Tryd.func35, Tryd.ntmps35
 go_wp2_with (go_at_call 58; refine FC.out.mono ?_; rintro _ w3 ⟨rfl, h3⟩; have B3 := hid h3; clear h3)
 go_ret
 exact ⟨rfl, B3.out⟩
set_option maxHeartbeats 1000000 in
theorem dig_c (u : Nat) (hu : u < 4294967296) (w : World) (ht : TabW w) : Calls Tryd.prog 53 #[.int .u32 (u : Int)] w fun e w' => e = .returned (.string (decB u)) ∧ Below w.heap.size w w' := by
 have FC := hid (fmtP_c u hu w ht)
 have huI : (u : Int) < 4294967296 := by omega
 have uw : IntKind.u64.wrap (u : Int) = (u : Int) := by rw [IntKind.wrap_u64]; omega
 go_enter Tryd.func53, Tryd.ntmps53
 go_wp2_with (go_at_call 35; refine FC.out.mono ?_; rintro _ w3 ⟨rfl, h3⟩; have B3 := hid h3; clear h3)
 go_ret
 exact ⟨rfl, B3.out⟩
end Go.Proofs.YtkokjkaclcjnjaaDoor
namespace Go.Proofs.YtkokjkaclcjnjaaDoor
open Go.RowKit Go.ChangeShapes Go.WideShapes Go.ChangeAt
set_option linter.unusedVariables false
set_option linter.unusedSimpArgs false
set_option maxRecDepth 100000
theorem conv_noneL (w : World) (p : Option Addr) (c : Nat) : (convert 32 9 (.slice p 0 c)).run Tryd.prog w = .ok (.string ByteArray.empty) w := by
 rw [run_convert_bytes_string w 32 9 5 _ 0 c Tryd.underlying32 Tryd.underlying5 Tryd.underlying9]
 cases p <;> simp [Conv.bytesToString, loadCells]
 all_goals rfl
theorem conv_L {w : World} {pa : Option Addr} {pc : Nat} {zs : List Int} (h : IsB w pa zs.length zs) : (convert 32 9 (.slice pa zs.length pc)).run Tryd.prog w = .ok (.string (Fr.tx zs)) w := by
 by_cases hp : 0 < zs.length
 · obtain ⟨h1, h2, h3, h4⟩ := h
   obtain ⟨b, off, rfl, hc⟩ := h3 hp
   exact run_convert_bytes_arg w 32 5 Tryd.underlying32 Tryd.underlying5 b off zs.length pc zs h1 hc 9 Tryd.underlying9
 · have h0 : zs.length = 0 := by omega
   rw [h0, conv_noneL, List.eq_nil_of_length_eq_zero h0]; rfl
def kidT (k : Kd) : ByteArray := k.nm ++ ⟨#[61]⟩ ++ decB k.fid.toNat
theorem info_strT : ∃ i : TypeInfo, Tryd.prog.info? 9 = some i ∧ i.zero = some (.string ByteArray.empty) ∧ i.size = 1 ∧ i.bytes = 16 := by
 have h : (Tryd.prog.info? 9).map (fun i => (i.zero, i.size, i.bytes)) = some (some (.string ByteArray.empty), 1, 16) := by kernel_rfl
 cases hi : Tryd.prog.info? 9 with
 | none => rw [hi] at h; cases h
 | some i => rw [hi] at h; simp at h; exact ⟨i, rfl, h.1, h.2.1, h.2.2⟩
def OwS (w : World) (base : Nat) (v : Value) (l : List ByteArray) : Prop := w.ownsRow base 9 1 v l.length (l.map Value.string)
theorem OwS.nil (w : World) (base : Nat) : OwS w base (.slice none 0 0) [] := World.ownsRow_nil _ _ 9 1
theorem OwS.later {w w' : World} {base : Nat} {v : Value} {l : List ByteArray} (h : OwS w base v l) (hb : Below w.heap.size w w') : OwS w' base v l := own_latR h hb
theorem OwS.shape {w : World} {base : Nat} {v : Value} {l : List ByteArray} (h : OwS w base v l) : ∃ a c, v = .slice a l.length c := by
 rcases h.2 with ⟨e, e0⟩ | ⟨g', cap, cur, hv, _⟩
 · exact ⟨none, 0, by rw [e, e0]⟩
 · exact ⟨_, cap, hv⟩
theorem OwS.cells {w : World} {base : Nat} {a : Option Addr} {c : Nat} {l : List ByteArray} (h : OwS w base (.slice a l.length c) l) (hp : 0 < l.length) : ∃ g, a = some ⟨g, 0, none⟩ ∧ g < w.heap.size ∧ l.length ≤ c ∧ ∀ (j : Nat) x, l[j]? = some x → w.cell? ⟨g, 0 + j, none⟩ = some (.string x) := by
 rcases h.2 with ⟨e, e0⟩ | ⟨g', cap, cur, hv, hb, hg, h1, h2, h3, h4⟩
 · exact absurd e0 (by omega)
 · simp only [Value.slice.injEq] at hv
   obtain ⟨rfl, _, rfl⟩ := hv
   refine ⟨g', rfl, lt_blkR hg, h1, fun j x hx => ?_⟩
   have hj : j < l.length := (List.getElem?_eq_some_iff.1 hx).1
   rw [Nat.zero_add, cell_of_row w g' j cur _ _ hg, ← Array.getElem?_toList]
   have h8 : (cur.toList.take (l.length * 1))[j]? = (l.map Value.string)[j]? := by rw [h4]
   rw [List.getElem?_take_of_lt (by omega), List.getElem?_map, hx] at h8
   exact h8
theorem step_appS (w : World) {ops : Array Oper} {o : Oper} {a : Act} {K : Act → World → Prop} {Q : Exit → Act → World → Prop} {E : Prop} (hgd : o.guard = none) (s x : Operand)
   (ho : o.op = .call { callee := .builtin .append, args := #[s, x], argTypes := #[42, 42] })
   (base : Nat) (v : Value) (l : List ByteArray) (hs : a.eval s = v) (hown : OwS w base v l) (g : Nat) (y : ByteArray) (hx : a.eval x = .slice (some ⟨g, 0, none⟩) 1 1) (hg : w.heap[g]? = some (.cells #[.string y] 9 (0, 0))) (hl : l.length ≤ 100000) (hb : base ≤ w.heap.size)
   (h : ∀ v' w', OwS w' base v' (l ++ [y]) → w.grownBy w' v.ownBlock → K (a.put o.dst v') w') :
   if Region.wanted o (yielded ops a.tmps) = true then Oper.wp Tryd.prog o a w K Q else E := by
 rw [if_pos (by simp [Region.wanted, hgd])]
 obtain ⟨i0, hi0, hz0, hz1, hz2⟩ := info_strT
 refine wp_append_own w s x 42 ho base 9 i0 (.string ByteArray.empty) 1 16 Tryd.underlying42 hi0 hz0 hz1 hz2 (by rfl) (by decide) v l.length _ hs hown ⟨g, 0, none⟩ 1 1 [.string y] hx (by simp) (fun j u hj => ?_) (fun u hu => ?_) (by unfold maxLen; omega) (by omega) hb ?_
 · match j, hj with
   | 0, hj => simp at hj; subst hj; rw [Lib.add_plain, Nat.zero_add]; exact cell_of_row2 hg 0 rfl
 · rw [List.mem_singleton] at hu
   subst hu
   rfl
 · intro v' w' q1 q2 _
   exact h v' w' (by unfold OwS; rw [List.map_append, List.length_append]; exact q1) q2
def insB (x : Nd) : ByteArray := if x.k = 2 then (if x.ks = [] then ⟨#[45]⟩ else ⟨(Lib.join (x.ks.map fun k => (kidT k).data.toList) [44]).toArray⟩) else ⟨(quoteL (Fr.tx x.zs).data.toList).toArray⟩
theorem txs_size (z : List Int) : (Fr.tx z).size = z.length := by unfold Fr.tx; show (List.toArray _).size = _; simp
theorem below_grownI {B : Nat} {a w w' : World} {base : Nat} {e size n : Nat} {v : Value} {xs : List Value} (h : Below B a w) (hown : w.ownsRow base e size v n xs) (hB : B ≤ base) (hBw : B ≤ w.heap.size) (hg : w.grownBy w' v.ownBlock) : Below B a w' :=
 h.grown hg hBw (fun k hk => Nat.le_trans hB (hown.lt k hk).1)
set_option maxHeartbeats 4000000 in
theorem inQ_c (x : Nd) (w : World) (hx : x.Ok w) (hz : x.zs.length ≤ 100000) (hk : x.k ≠ 2) : Calls Tryd.prog 55 #[x.val] w fun e w' => e = .returned (.string ⟨(quoteL (Fr.tx x.zs).data.toList).toArray⟩) ∧ Below w.heap.size w w' := by
 have hb := below_1 w (.cells x.cells.toArray 35)
 have hB := heap_alloc_new w (.cells x.cells.toArray 35)
 have k1 : (w.alloc (.cells x.cells.toArray 35)).cell? ⟨w.heap.size, 1, none⟩ = some (.int .u8 x.k) := cell_of_row2 hB 1 rfl
 have k4 : (w.alloc (.cells x.cells.toArray 35)).cell? ⟨w.heap.size, 4, none⟩ = some (.slice x.da x.zs.length x.dc) := cell_of_row2 hB 4 rfl
 have cv := conv_L (pc := x.dc) (hx.2.2.2.2.1.later hb)
 have b2 : (x.k != 2) = true := by rw [bne_iff_ne]; exact hk
 have QC := hid (quote_c (Fr.tx x.zs) (w.alloc (.cells x.cells.toArray 35)) (by rw [txs_size]; omega))
 have B0 := hid hb
 clear hb hB hx hk
 simp only [Nd.val, Nd.cells] at *
 go_enter Tryd.func55, Tryd.ntmps55
 go_wp2_with (go_at_call 12; refine QC.out.mono ?_; rintro _ w3 ⟨rfl, h3⟩; have B3 := hid (B0.out.trans (h3.mono B0.out.size)); clear h3)
 go_ret
 exact ⟨rfl, B3.out⟩
end Go.Proofs.YtkokjkaclcjnjaaDoor
