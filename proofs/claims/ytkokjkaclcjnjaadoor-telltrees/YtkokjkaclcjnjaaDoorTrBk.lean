/-
  lineOf of the package tell, and what it calls; Tree of a new tree; live.
  A number as digits, whatever it is.
-/
import Derived.Test.YtkokjkaclcjnjaaDoorTrBj
import Derived.Test.YtkokjkaclcjnjaaDoorTrAo
import Derived.Test.YtkokjkaclcjnjaaDoorTrAp
import Derived.Lib.ItoaMem
import Derived.Lib.LaidTab
namespace Go.Proofs.YtkokjkaclcjnjaaDoor
open Go.RowKit Go.ChangeShapes Go.WideShapes Go.ChangeAt
set_option linter.unusedVariables false
set_option linter.unusedSimpArgs false
set_option maxRecDepth 100000
def nwNd : Nd := ⟨1, 2, 0, 0, none, 0, [], none, 0, []⟩
def decB (n : Nat) : ByteArray := ⟨(Lib.decDigits n).toArray⟩
set_option maxHeartbeats 1000000 in
theorem digS_c (n : Nat) (hn : n < 100) (w : World) : Calls Tryd.prog 53 #[.int .u32 (n : Int)] w fun e w' => e = .returned (.string (decB n)) ∧ w' = w := by
 have h1 : (n : Int) < 100 := by omega
 have S1 := hid (fun W => Tryd.internal_strconv_small n hn W)
 have F1 : Hid (∀ W, Calls Tryd.prog 58 #[.int .u64 (n : Int), .int .i64 10] W fun e w' => e = .returned (.string (decB n)) ∧ w' = W) := hid (fun W => by
   go_enter Tryd.func58, Tryd.ntmps58
   go_wp2_with (go_at_call 86; refine (S1.out _).mono ?_; rintro _ w3 ⟨rfl, h3⟩; rw [h3]; clear h3)
   go_ret
   exact ⟨rfl, rfl⟩)
 have F2 : Hid (∀ W, Calls Tryd.prog 35 #[.int .u64 (n : Int), .int .i64 10] W fun e w' => e = .returned (.string (decB n)) ∧ w' = W) := hid (fun W => by
   go_enter Tryd.func35, Tryd.ntmps35
   go_wp2_with (go_at_call 58; refine (F1.out _).mono ?_; rintro _ w3 ⟨rfl, h3⟩; rw [h3]; clear h3)
   go_ret
   exact ⟨rfl, rfl⟩)
 go_enter Tryd.func53, Tryd.ntmps53
 go_wp2_with (go_at_call 35; refine (F2.out _).mono ?_; rintro _ w3 ⟨rfl, h3⟩; rw [h3]; clear h3)
 go_ret
 exact ⟨rfl, rfl⟩
def wordB (k : Int) : ByteArray := if k = 1 then ⟨#[102, 105, 108, 101]⟩ else if k = 2 then ⟨#[100, 105, 114]⟩ else if k = 3 then ⟨#[108, 105, 110, 107]⟩ else ⟨#[]⟩
set_option maxHeartbeats 1000000 in
theorem word_c (k : Int) (w : World) : Calls Tryd.prog 54 #[.int .u8 k] w fun e w' => e = .returned (.string (wordB k)) ∧ w' = w := by
 obtain ⟨r, hr⟩ : ∃ r, Hid (r = wordB k) := ⟨_, hid rfl⟩
 rw [← hr.out]
 by_cases h1 : k = 1
 · have e1 : (k == 1) = true := by simp [h1]
   have RE : Hid (r = ⟨#[102, 105, 108, 101]⟩) := hid (by rw [hr.out]; unfold wordB; rw [if_pos h1])
   clear hr h1
   go_enter Tryd.func54, Tryd.ntmps54
   go_wp2
   go_ret
   exact ⟨by rw [RE.out]; rfl, rfl⟩
 · have e1 : (k == 1) = false := by simp [h1]
   by_cases h2 : k = 2
   · have e2 : (k == 2) = true := by simp [h2]
     have RE : Hid (r = ⟨#[100, 105, 114]⟩) := hid (by rw [hr.out]; unfold wordB; rw [if_neg h1, if_pos h2])
     clear hr h1 h2
     go_enter Tryd.func54, Tryd.ntmps54
     go_wp2
     go_ret
     exact ⟨by rw [RE.out]; rfl, rfl⟩
   · have e2 : (k == 2) = false := by simp [h2]
     by_cases h3 : k = 3
     · have e3 : (k == 3) = true := by simp [h3]
       have RE : Hid (r = ⟨#[108, 105, 110, 107]⟩) := hid (by rw [hr.out]; unfold wordB; rw [if_neg h1, if_neg h2, if_pos h3])
       clear hr h1 h2 h3
       go_enter Tryd.func54, Tryd.ntmps54
       go_wp2
       go_ret
       exact ⟨by rw [RE.out]; rfl, rfl⟩
     · have e3 : (k == 3) = false := by simp [h3]
       have RE : Hid (r = ⟨#[]⟩) := hid (by rw [hr.out]; unfold wordB; rw [if_neg h1, if_neg h2, if_neg h3])
       clear hr h1 h2 h3
       go_enter Tryd.func54, Tryd.ntmps54
       go_wp2
       go_ret
       exact ⟨by rw [RE.out]; rfl, rfl⟩
set_option maxHeartbeats 1000000 in
theorem inside0_c (f m l : Int) (da ka : Option Addr) (dn dc kc : Nat) (w : World) : Calls Tryd.prog 55 #[.agg #[.int .u32 f, .int .u8 2, .int .u16 m, .int .u16 l, .slice da dn dc, .slice ka 0 kc]] w fun e w' => e = .returned (.string ⟨#[45]⟩) ∧ Below w.heap.size w w' := by
 have hb := below_1 w (.cells #[.int .u32 f, .int .u8 2, .int .u16 m, .int .u16 l, .slice da dn dc, .slice ka 0 kc] 35)
 have hB := heap_alloc_new w (.cells #[.int .u32 f, .int .u8 2, .int .u16 m, .int .u16 l, .slice da dn dc, .slice ka 0 kc] 35)
 have k1 : (w.alloc (.cells #[.int .u32 f, .int .u8 2, .int .u16 m, .int .u16 l, .slice da dn dc, .slice ka 0 kc] 35)).cell? ⟨w.heap.size, 1, none⟩ = some (.int .u8 2) := cell_of_row2 hB 1 rfl
 have k5 : (w.alloc (.cells #[.int .u32 f, .int .u8 2, .int .u16 m, .int .u16 l, .slice da dn dc, .slice ka 0 kc] 35)).cell? ⟨w.heap.size, 5, none⟩ = some (.slice ka 0 kc) := cell_of_row2 hB 5 rfl
 have B0 := hid hb
 clear hb hB
 go_enter Tryd.func55, Tryd.ntmps55
 go_wp2
 go_ret
 exact ⟨rfl, B0.out⟩
end Go.Proofs.YtkokjkaclcjnjaaDoor
namespace Go.Proofs.YtkokjkaclcjnjaaDoor
open Go.RowKit Go.ChangeShapes Go.WideShapes Go.ChangeAt Go.Sort
set_option linter.unusedVariables false
set_option linter.unusedSimpArgs false
set_option maxRecDepth 100000
def TabW (w : World) : Prop := Lib.TabIs Tryd.prog w "internal/strconv.uint64pow10" .u64 Lib.pow10Tab
theorem TabW.later {w w' : World} (h : TabW w) (hb : Below w.heap.size w w') : TabW w' := by
 unfold TabW Lib.TabIs World.var? at *
 cases hg : Tryd.prog.globalNamed "internal/strconv.uint64pow10" with
 | none => simp [hg] at h
 | some g =>
   simp only [hg, Option.bind_some] at h ⊢
   have hlt : g < w.heap.size := by
     rcases Nat.lt_or_ge g w.heap.size with h' | h'
     · exact h'
     · rw [Array.getElem?_eq_none h'] at h; simp at h
   rw [hb.block g hlt]
   exact h
theorem holds_zero0 (w : World) (T : TypeId) (nd : Nat) (hs : nd ≤ 24) : Holds (fun (b : UInt8) => Value.int .u8 (b.toNat : Int)) (w.alloc (.cells Lib.zeros24 T)) w.heap.size 0 (Array.replicate nd (0 : UInt8)) := fun j hj => by
 have hj' : j < nd := by simpa using hj
 refine ⟨?_, World.frozen?_alloc_new _ _ _ _⟩
 rw [World.cell?_alloc_new]
 rw [Lib.zeros24_at _ (by omega), getElem!_pos _ j hj]
 simp
theorem fin_0 (w : World) (o : Obj) (dk : Array UInt8) (k : Nat) : Below w.heap.size w ((putRow (fun (b : UInt8) => Value.int .u8 (b.toNat : Int)) (w.alloc o) w.heap.size 0 dk).drewN k) := by
 have h1 := below_1 w o
 refine ⟨h1.os, h1.tape, h1.output, ?_, fun i hi => ?_⟩
 · show w.heap.size ≤ (mapBlock (w.alloc o) w.heap.size _).heap.size
   unfold mapBlock
   simp
 · show (mapBlock (w.alloc o) w.heap.size _).heap[i]? = _
   unfold mapBlock
   simp only
   rw [Array.getElem?_modify, if_neg (by omega)]
   exact h1.block i hi
set_option maxHeartbeats 4000000 in
theorem fmtU_c (u : Nat) (hu : u < 4294967296) (w : World) (ht : TabW w) : Calls Tryd.prog 58 #[.int .u64 (u : Int), .int .i64 10] w fun e w' => e = .returned (.string (decB u)) ∧ Below w.heap.size w w' := by
 by_cases h100 : u < 100
 · have h1 : (u : Int) < 100 := by omega
   have S1 := hid (fun W => Tryd.internal_strconv_small u h100 W)
   go_enter Tryd.func58, Tryd.ntmps58
   go_wp2_with (go_at_call 86; refine (S1.out _).mono ?_; rintro _ w3 ⟨rfl, h3⟩; rw [h3]; clear h3)
   go_ret
   exact ⟨rfl, Below.refl _ _⟩
 · have h1 : ¬ (u : Int) < 100 := by omega
   have hu1 : 1 ≤ u := by omega
   have hu64 : u < 18446744073709551616 := by omega
   have hnd20 : Lib.nDigits u ≤ 20 := by have := Lib.numDigits_eq u hu1 hu64; split at this <;> omega
   have b0 := below_1 w (.cells Lib.zeros24 121)
   have ND := hid (Tryd.internal_strconv_numDigits u hu1 hu64 (w.alloc (.cells Lib.zeros24 121)) (ht.later b0))
   have hsl : ∀ W, (Instr.sliceAt 121 (.pointer (some ⟨w.heap.size, 0, none⟩)) none (some (.int .i64 (Lib.nDigits u : Int))) none).run Tryd.prog W = .ok (.slice (some ⟨w.heap.size, 0, none⟩) (Lib.nDigits u) 24) W := fun W => by
     rw [run_sliceAt_array_h W 121 ⟨w.heap.size, 0, none⟩ (by simp [Program.arrayLen, Program.elem, Tryd.underlying121]) .i64 (Lib.nDigits u : Int) (by omega) (by simp [Program.arrayLen, Tryd.underlying121]; omega)]
     go_simp
   have hH0 := holds_zero0 w 121 (Lib.nDigits u) (by omega)
   have hfmt := Tryd.internal_strconv_formatBase10 w.heap.size 0 24 u (Array.replicate (Lib.nDigits u) 0) (w.alloc (.cells Lib.zeros24 121)) hH0 (by rw [Array.size_replicate]; exact Lib.lt_pow_nDigits u) hu64 (by rw [Array.size_replicate]; omega)
   rw [Array.size_replicate] at hfmt
   have HF := hid hfmt
   have HH0 := hid hH0
   clear hH0 hfmt b0
   go_enter Tryd.func58, Tryd.ntmps58
   go_upto_region 5 with fail
   change Code.wp _ _ _ _ (w.alloc (.cells Lib.zeros24 121))
   go_upto_region 6 with (go_at_call 87; refine ND.out.mono ?_; rintro _ w1 ⟨rfl, h1⟩; rw [h1]; clear h1)
   clear ND
   go_wp2_with (go_at_call 88; refine HF.out.mono ?_)
   rintro e w' ⟨rfl, k, v', dk, rfl, hF⟩
   have hcv : (convert 32 9 (.slice (some ⟨w.heap.size, 0, none⟩) (Lib.nDigits u) 24)).run Tryd.prog ((putRow (fun (b : UInt8) => Value.int .u8 (b.toNat : Int)) (w.alloc (.cells Lib.zeros24 121)) w.heap.size 0 dk).drewN k) = .ok (.string ⟨(Lib.decDigits u).toArray⟩) ((putRow (fun (b : UInt8) => Value.int .u8 (b.toNat : Int)) (w.alloc (.cells Lib.zeros24 121)) w.heap.size 0 dk).drewN k) := by
     have h := run_convert_bytes_back (P := Tryd.prog) ((putRow (fun (b : UInt8) => Value.int .u8 (b.toNat : Int)) (w.alloc (.cells Lib.zeros24 121)) w.heap.size 0 dk).drewN k) 32 9 5 ⟨w.heap.size, 0, none⟩ 24 (Lib.decDigits u) Tryd.underlying32 Tryd.underlying5 Tryd.underlying9 (fun j hj => by
       rw [Lib.row_is_numeral hF j hj, Lib.add_plain, World.cell?_drewN]
       exact cell?_putRow (fun (b : UInt8) => Value.int .u8 (b.toNat : Int)) _ w.heap.size 0 _ dk HH0.out (by rw [hF.size, Array.size_replicate]) j (by rw [hF.size]; rw [Lib.decDigits_length] at hj; exact hj))
     rw [Lib.decDigits_length] at h
     exact h
   have HB := hid (fin_0 w (.cells Lib.zeros24 121) dk k)
   generalize (putRow (fun (b : UInt8) => Value.int .u8 (b.toNat : Int)) (w.alloc (.cells Lib.zeros24 121)) w.heap.size 0 dk).drewN k = W at *
   clear hF HH0 HF
   go_wp2
   go_ret
   exact ⟨rfl, HB.out⟩
set_option maxHeartbeats 1000000 in
theorem fmtP_c (u : Nat) (hu : u < 4294967296) (w : World) (ht : TabW w) : Calls Tryd.prog 35 #[.int .u64 (u : Int), .int .i64 10] w fun e w' => e = .returned (.string (decB u)) ∧ Below w.heap.size w w' := by
 have FC := hid (fmtU_c u hu w ht)
 go_enter Tryd.func35, Tryd.ntmps35
 go_wp2_with (go_at_call 58; refine FC.out.mono ?_; rintro _ w3 ⟨rfl, h3⟩; have B3 := hid h3; clear h3)
 go_ret
 exact ⟨rfl, B3.out⟩
set_option maxHeartbeats 1000000 in
theorem dig_c (u : Nat) (hu : u < 4294967296) (w : World) (ht : TabW w) : Calls Tryd.prog 53 #[.int .u32 (u : Int)] w fun e w' => e = .returned (.string (decB u)) ∧ Below w.heap.size w w' := by
 have FC := hid (fmtP_c u hu w ht)
 have huI : (u : Int) < 4294967296 := by omega
 have uw : IntKind.u64.wrap (u : Int) = (u : Int) := by rw [IntKind.wrap_u64]; omega
 go_enter Tryd.func53, Tryd.ntmps53
 go_wp2_with (go_at_call 35; refine FC.out.mono ?_; rintro _ w3 ⟨rfl, h3⟩; have B3 := hid h3; clear h3)
 go_ret
 exact ⟨rfl, B3.out⟩
end Go.Proofs.YtkokjkaclcjnjaaDoor
