/-
  A number as digits, whatever it is.
  insideOf of the package tell.
  insideOf of the package tell, of a directory with entries.
  Bytes that more are written behind: the writer of the package record.
  An operation's bytes: putOp, written, Op of the package record.
-/
import Derived.Test.YtkokjkaclcjnjaaDoorRdAo
import Derived.Lib.ItoaMem
import Derived.Lib.LaidTab
import Derived.Test.YtkokjkaclcjnjaaDoorRdAh
import Derived.Laws.AppendOwnNone
import Derived.Test.YtkokjkaclcjnjaaDoorRdAe
import Derived.Test.YtkokjkaclcjnjaaDoorRdAg
import Derived.Deep.RegionLaw
import Derived.Deep.LoopGhost
import Derived.Laws.BitsLemmas
import Derived.Shelf.Abstract
namespace Go.Proofs.YtkokjkaclcjnjaaDoor
open Go.RowKit Go.ChangeShapes Go.WideShapes Go.ChangeAt Go.Sort
set_option linter.unusedVariables false
set_option linter.unusedSimpArgs false
set_option maxRecDepth 100000
def TabW (w : World) : Prop := Lib.TabIs Tryd.prog w "internal/strconv.uint64pow10" .u64 Lib.pow10Tab
theorem TabW.later {w w' : World} (h : TabW w) (hb : Below w.heap.size w w') : TabW w' := by
 unfold TabW Lib.TabIs World.var? at *
 cases hg : Tryd.prog.globalNamed "internal/strconv.uint64pow10" with
 | none => simp [hg] at h
 | some g =>
   simp only [hg, Option.bind_some] at h ⊢
   have hlt : g < w.heap.size := by
     rcases Nat.lt_or_ge g w.heap.size with h' | h'
     · exact h'
     · rw [Array.getElem?_eq_none h'] at h; simp at h
   rw [hb.block g hlt]
   exact h
theorem holds_zero0 (w : World) (T : TypeId) (nd : Nat) (hs : nd ≤ 24) : Holds (fun (b : UInt8) => Value.int .u8 (b.toNat : Int)) (w.alloc (.cells Lib.zeros24 T)) w.heap.size 0 (Array.replicate nd (0 : UInt8)) := fun j hj => by
 have hj' : j < nd := by simpa using hj
 refine ⟨?_, World.frozen?_alloc_new _ _ _ _⟩
 rw [World.cell?_alloc_new]
 rw [Lib.zeros24_at _ (by omega), getElem!_pos _ j hj]
 simp
theorem fin_0 (w : World) (o : Obj) (dk : Array UInt8) (k : Nat) : Below w.heap.size w ((putRow (fun (b : UInt8) => Value.int .u8 (b.toNat : Int)) (w.alloc o) w.heap.size 0 dk).drewN k) := by
 have h1 := below_1 w o
 refine ⟨h1.os, h1.tape, h1.output, ?_, fun i hi => ?_⟩
 · show w.heap.size ≤ (mapBlock (w.alloc o) w.heap.size _).heap.size
   unfold mapBlock
   simp
 · show (mapBlock (w.alloc o) w.heap.size _).heap[i]? = _
   unfold mapBlock
   simp only
   rw [Array.getElem?_modify, if_neg (by omega)]
   exact h1.block i hi
set_option maxHeartbeats 4000000 in
theorem fmtU_c (u : Nat) (hu : u < 4294967296) (w : World) (ht : TabW w) : Calls Tryd.prog 58 #[.int .u64 (u : Int), .int .i64 10] w fun e w' => e = .returned (.string (decB u)) ∧ Below w.heap.size w w' := by
 by_cases h100 : u < 100
 · have h1 : (u : Int) < 100 := by omega
   have S1 := hid (fun W => Tryd.internal_strconv_small u h100 W)
   go_enter Tryd.func58, Tryd.ntmps58
   go_wp2_with (go_at_call 86; refine (S1.out _).mono ?_; rintro _ w3 ⟨rfl, h3⟩; rw [h3]; clear h3)
   go_ret
   exact ⟨rfl, Below.refl _ _⟩
 · have h1 : ¬ (u : Int) < 100 := by omega
   have hu1 : 1 ≤ u := by omega
   have hu64 : u < 18446744073709551616 := by omega
   have hnd20 : Lib.nDigits u ≤ 20 := by have := Lib.numDigits_eq u hu1 hu64; split at this <;> omega
   have b0 := below_1 w (.cells Lib.zeros24 121)
   have ND := hid (Tryd.internal_strconv_numDigits u hu1 hu64 (w.alloc (.cells Lib.zeros24 121)) (ht.later b0))
   have hsl : ∀ W, (Instr.sliceAt 121 (.pointer (some ⟨w.heap.size, 0, none⟩)) none (some (.int .i64 (Lib.nDigits u : Int))) none).run Tryd.prog W = .ok (.slice (some ⟨w.heap.size, 0, none⟩) (Lib.nDigits u) 24) W := fun W => by
     rw [run_sliceAt_array_h W 121 ⟨w.heap.size, 0, none⟩ (by simp [Program.arrayLen, Program.elem, Tryd.underlying121]) .i64 (Lib.nDigits u : Int) (by omega) (by simp [Program.arrayLen, Tryd.underlying121]; omega)]
     go_simp
   have hH0 := holds_zero0 w 121 (Lib.nDigits u) (by omega)
   have hfmt := Tryd.internal_strconv_formatBase10 w.heap.size 0 24 u (Array.replicate (Lib.nDigits u) 0) (w.alloc (.cells Lib.zeros24 121)) hH0 (by rw [Array.size_replicate]; exact Lib.lt_pow_nDigits u) hu64 (by rw [Array.size_replicate]; omega)
   rw [Array.size_replicate] at hfmt
   have HF := hid hfmt
   have HH0 := hid hH0
   clear hH0 hfmt b0
   go_enter Tryd.func58, Tryd.ntmps58
   go_upto_region 5 with fail
   change Code.wp _ _ _ _ (w.alloc (.cells Lib.zeros24 121))
   go_upto_region 6 with (go_at_call 87; refine ND.out.mono ?_; rintro _ w1 ⟨rfl, h1⟩; rw [h1]; clear h1)
   clear ND
   go_wp2_with (go_at_call 88; refine HF.out.mono ?_)
   rintro e w' ⟨rfl, k, v', dk, rfl, hF⟩
   have hcv : (convert 32 9 (.slice (some ⟨w.heap.size, 0, none⟩) (Lib.nDigits u) 24)).run Tryd.prog ((putRow (fun (b : UInt8) => Value.int .u8 (b.toNat : Int)) (w.alloc (.cells Lib.zeros24 121)) w.heap.size 0 dk).drewN k) = .ok (.string ⟨(Lib.decDigits u).toArray⟩) ((putRow (fun (b : UInt8) => Value.int .u8 (b.toNat : Int)) (w.alloc (.cells Lib.zeros24 121)) w.heap.size 0 dk).drewN k) := by
     have h := run_convert_bytes_back (P := Tryd.prog) ((putRow (fun (b : UInt8) => Value.int .u8 (b.toNat : Int)) (w.alloc (.cells Lib.zeros24 121)) w.heap.size 0 dk).drewN k) 32 9 5 ⟨w.heap.size, 0, none⟩ 24 (Lib.decDigits u) Tryd.underlying32 Tryd.underlying5 Tryd.underlying9 (fun j hj => by
       rw [Lib.row_is_numeral hF j hj, Lib.add_plain, World.cell?_drewN]
       exact cell?_putRow (fun (b : UInt8) => Value.int .u8 (b.toNat : Int)) _ w.heap.size 0 _ dk HH0.out (by rw [hF.size, Array.size_replicate]) j (by rw [hF.size]; rw [Lib.decDigits_length] at hj; exact hj))
     rw [Lib.decDigits_length] at h
     exact h
   have HB := hid (fin_0 w (.cells Lib.zeros24 121) dk k)
   generalize (putRow (fun (b : UInt8) => Value.int .u8 (b.toNat : Int)) (w.alloc (.cells Lib.zeros24 121)) w.heap.size 0 dk).drewN k = W at *
   clear hF HH0 HF
   go_wp2
   go_ret
   exact ⟨rfl, HB.out⟩
set_option maxHeartbeats 1000000 in
theorem fmtP_c (u : Nat) (hu : u < 4294967296) (w : World) (ht : TabW w) : Calls Tryd.prog 35 #[.int .u64 (u : Int), .int .i64 10] w fun e w' => e = .returned (.string (decB u)) ∧ Below w.heap.size w w' := by
 have FC := hid (fmtU_c u hu w ht)
 go_enter Tryd.func35, Tryd.ntmps35
 go_wp2_with (go_at_call 58; refine FC.out.mono ?_; rintro _ w3 ⟨rfl, h3⟩; have B3 := hid h3; clear h3)
 go_ret
 exact ⟨rfl, B3.out⟩
end Go.Proofs.YtkokjkaclcjnjaaDoor
namespace Go.Proofs.YtkokjkaclcjnjaaDoor
open Go.RowKit Go.ChangeShapes Go.WideShapes Go.ChangeAt
set_option linter.unusedVariables false
set_option linter.unusedSimpArgs false
set_option maxRecDepth 100000
theorem conv_noneL (w : World) (p : Option Addr) (c : Nat) : (convert 32 9 (.slice p 0 c)).run Tryd.prog w = .ok (.string ByteArray.empty) w := by
 rw [run_convert_bytes_string w 32 9 5 _ 0 c Tryd.underlying32 Tryd.underlying5 Tryd.underlying9]
 cases p <;> simp [Conv.bytesToString, loadCells]
 all_goals rfl
theorem conv_L {w : World} {pa : Option Addr} {pc : Nat} {zs : List Int} (h : IsB w pa zs.length zs) : (convert 32 9 (.slice pa zs.length pc)).run Tryd.prog w = .ok (.string (Fr.tx zs)) w := by
 by_cases hp : 0 < zs.length
 · obtain ⟨h1, h2, h3, h4⟩ := h
   obtain ⟨b, off, rfl, hc⟩ := h3 hp
   exact run_convert_bytes_arg w 32 5 Tryd.underlying32 Tryd.underlying5 b off zs.length pc zs h1 hc 9 Tryd.underlying9
 · have h0 : zs.length = 0 := by omega
   rw [h0, conv_noneL, List.eq_nil_of_length_eq_zero h0]; rfl
def kidT (k : Kd) : ByteArray := k.nm ++ ⟨#[61]⟩ ++ decB k.fid.toNat
def insB (x : Nd) : ByteArray := if x.k = 2 then (if x.ks = [] then ⟨#[45]⟩ else ⟨(Lib.join (x.ks.map fun k => (kidT k).data.toList) [44]).toArray⟩) else ⟨(quoteL (Fr.tx x.zs).data.toList).toArray⟩
theorem txs_size (z : List Int) : (Fr.tx z).size = z.length := by unfold Fr.tx; show (List.toArray _).size = _; simp
theorem decB_size {u : Nat} (h : u < 4294967296) : (decB u).size ≤ 20 := by
 unfold decB
 show (List.toArray _).size ≤ 20
 rw [List.size_toArray, Lib.decDigits_length]
 by_cases h0 : u = 0
 · subst h0
   have := Lib.decDigits_length 0
   rw [Lib.decDigits_one (by omega)] at this
   simp at this
   omega
 · have := Lib.numDigits_eq u (by omega) (by omega)
   split at this <;> omega
theorem kidT_size {k : Kd} (h : k.nm.size ≤ 1000) (hf : k.Wf) : (kidT k).data.toList.length ≤ 1021 := by
 have h1 := decB_size (u := k.fid.toNat) (by have := hf.2.2; omega)
 have e : (kidT k).data.toList = k.nm.data.toList ++ [61] ++ (decB k.fid.toNat).data.toList := by unfold kidT; simp [ByteArray.data_append]
 rw [e, List.length_append, List.length_append]
 have e1 : k.nm.data.toList.length = k.nm.size := rfl
 have e2 : (decB k.fid.toNat).data.toList.length = (decB k.fid.toNat).size := rfl
 simp only [List.length_singleton]
 omega
theorem joinTail_len (sep : List UInt8) (r : List (List UInt8)) (h : ∀ x ∈ r, x.length ≤ 1021) : (Lib.joinTail sep r).length ≤ r.length * (sep.length + 1021) := by
 unfold Lib.joinTail
 induction r with
 | nil => simp
 | cons a t ih =>
   rw [List.map_cons, List.flatten_cons, List.length_append, List.length_append, List.length_cons, Nat.succ_mul]
   have h1 := h a (List.mem_cons_self ..)
   have h2 := ih (fun x hx => h x (List.mem_cons_of_mem _ hx))
   omega
end Go.Proofs.YtkokjkaclcjnjaaDoor
namespace Go.Proofs.YtkokjkaclcjnjaaDoor
open Go.RowKit Go.ChangeShapes Go.WideShapes Go.ChangeAt
set_option linter.unusedVariables false
set_option linter.unusedSimpArgs false
end Go.Proofs.YtkokjkaclcjnjaaDoor
namespace Go.Proofs.YtkokjkaclcjnjaaDoor
open Go.RowKit Go.ChangeShapes Go.WideShapes Go.ChangeAt Go.Shelf
set_option linter.unusedVariables false
set_option linter.unusedSimpArgs false
end Go.Proofs.YtkokjkaclcjnjaaDoor
