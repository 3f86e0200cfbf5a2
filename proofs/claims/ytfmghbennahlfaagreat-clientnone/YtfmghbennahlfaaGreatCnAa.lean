/-
  
-/
import Derived.WalkKit
import Derived.ProofKit
import Derived.Test.YtfmghbennahlfaaGreatProg
import Derived.OpenShut
import Derived.ShutString
import Derived.WalkSpells
import Derived.WalkLawsBesides
import Derived.Lib.SlBytesConst
import Derived.Deep.QuietTactic
import Derived.BigQuiet
namespace Go.Proofs.YtfmghbennahlfaaGreat.M
set_option linter.unusedVariables false
open Go.RowKit
theorem wrap_i64 (n : Int) : IntKind.i64.wrap n = wrap64 n := by
 rw [IntKind.wrap_i64]; unfold wrap64; omega
/-! ### Make -/
def makeF (c n : Int) : Int := c * 16777216 + n
theorem make_eq (c n : Int) (h0 : 0 ≤ c) (h1 : c ≤ 3) (h2 : 0 ≤ n) (h3 : n ≤ 16777215) :
   bits .or .u32 (c * 16777216) n = makeF c n := by
 rw [u32_or _ _ (by omega) (by omega) (by omega) (by omega)]
 rw [nat_join 24 _ _ (by omega) (by omega)]
 unfold makeF; omega
/-! ### Turn -/
def turnF (u k : Nat) : Nat := (u * 2 ^ k) % 4294967296 + u / 2 ^ (32 - k)
theorem turn_zero (u : Nat) (h : u < 4294967296) : turnF u 0 = u := by unfold turnF; simp; omega
/-! ### Low -/
/-! ### Fold -/
def foldS (s b : Int) : Int := IntKind.u32.wrap (bits .xor .u32 s b * 16777619)
def foldF (l : List Int) : Int := l.foldl foldS 2166136261
theorem fold_snoc (l : List Int) (b : Int) : foldF (l ++ [b]) = foldS (foldF l) b := by
 unfold foldF; rw [List.foldl_append]; rfl
/-! ### Both ways -/
end Go.Proofs.YtfmghbennahlfaaGreat.M
namespace Go.Proofs.YtfmghbennahlfaaGreat
open Go.RowKit Go.ChangeShapes Go.WideShapes Go.ChangeAt
set_option linter.unusedVariables false
set_option linter.unusedSimpArgs false
theorem bd_u32 {a : Int} (h : (Lit.int .u32 a).wf = true) : 0 ≤ a ∧ a < 4294967296 := by
 simp [Lit.wf, IntKind.min, IntKind.max, IntKind.signed, IntKind.bits] at h; omega
theorem bd_u8 {a : Int} (h : (Lit.int .u8 a).wf = true) : 0 ≤ a ∧ a < 256 := by
 simp [Lit.wf, IntKind.min, IntKind.max, IntKind.signed, IntKind.bits] at h; omega
theorem ret_int {k : IntKind} {a b : Int} (h : a = b) : Ending.returned (.int k a) = .returned (.int k b) := by rw [h]
theorem ret_int2 {k l : IntKind} {a b c d : Int} (h : a = b) (h' : c = d) : Ending.returned (.tuple #[.int k a, .int l c]) = .returned (.tuple #[.int k b, .int l d]) := by rw [h, h']
theorem ret_bool {a b : Bool} (h : a = b) : Ending.returned (.bool a) = .returned (.bool b) := by rw [h]
theorem val_int {k : IntKind} {a b : Int} (h : a = b) : Value.int k a = .int k b := by rw [h]
theorem hid {p : Prop} (h : p) : Hid p := h
theorem wp_region_class {P : Program} {id : Nat} {Q : Exit → Act → World → Prop} {a : Act} {w : World} {l : List Oper} (hm : P.follows .mixedOrders = true) (hB : Region.lexB .any l.toArray = true)
   (h : wpQuiet P l.toArray (fun w' => Below w.heap.size w w') (fun a' => ∀ w', Below w.heap.size w w' → Q .normal a' w') l a) : (Code.region id l.toArray true).wp P Q a w :=
 wp_region_quiet (C := fun w' => Below w.heap.size w w') hm hB ⟨rfl, rfl, rfl, Nat.le_refl _, fun _ _ => rfl⟩ (by simpa using h)
theorem quiet_by {P : Program} {o : Oper} {a a' : Act} {C : World → Prop} {K : Act → Prop} {v : Value} (h1 : ∀ w, C w → o.quietAt P a C w v) (h2 : a.put o.dst v = a') (h3 : K a') : o.quiet P a C K :=
 ⟨v, h1, by rw [h2]; exact h3⟩
theorem class_of {P : Program} {f : FuncId} {args : Array Value} {W w : World} {v : Value} (hw : Below W.heap.size W w)
   (h : Calls P f args w fun e w' => e = .returned v ∧ Below w.heap.size w w') : Calls P f args w fun e w'' => e = .returned v ∧ Below W.heap.size W w'' :=
 h.mono fun _ _ ⟨he, hb⟩ => ⟨he, hw.trans (hb.mono hw.size)⟩
theorem class_same {P : Program} {f : FuncId} {args : Array Value} {W w : World} {v : Value} (hw : Below W.heap.size W w)
   (h : Calls P f args w fun e w' => e = .returned v ∧ w' = w) : Calls P f args w fun e w'' => e = .returned v ∧ Below W.heap.size W w'' :=
 h.mono fun _ _ ⟨he, hb⟩ => ⟨he, by rw [hb]; exact hw⟩
set_option maxHeartbeats 400000 in
theorem make_ok (c n : Int) (h0 : 0 ≤ c) (h1 : c ≤ 3) (h2 : 1 ≤ n) (h3 : n ≤ 16777215) (w : World) :
   Calls Tryz.prog 198 #[.int .u8 c, .int .u32 n] w fun e w' => e = .returned (.tuple #[.int .u32 (M.makeF c n), .int .i64 0]) ∧ w' = w := by
 have H := hid (M.make_eq c n h0 h1 (by omega) h3)
 go_enter Tryz.func198, Tryz.ntmps198
 go_wp2
 go_ret2
 exact ⟨ret_int2 H.out rfl, rfl⟩
def IsB (w : World) (a : Option Addr) (len : Nat) (zs : List Int) : Prop :=
 zs.length = len ∧ len ≤ maxLen ∧ (0 < len → ∃ b off, a = some ⟨b, off, none⟩ ∧ ∀ i, i < len → w.cell? ⟨b, off + i, none⟩ = some (.int .u8 (zs.getD i 0))) ∧ ∀ i, 0 ≤ zs.getD i 0 ∧ zs.getD i 0 ≤ 255
theorem take_snoc (l : List Int) (k : Nat) (h : k < l.length) : l.take (k + 1) = l.take k ++ [l.getD k 0] := by
 rw [List.take_succ_eq_append_getElem h]; simp [h]
theorem IsB.later {w w' : World} {a : Option Addr} {len : Nat} {zs : List Int} (h : IsB w a len zs) (hb : Below w.heap.size w w') : IsB w' a len zs := by
 obtain ⟨h1, h2, h3, h4⟩ := h
 refine ⟨h1, h2, fun hp => ?_, h4⟩
 obtain ⟨b, off, e, hc⟩ := h3 hp
 exact ⟨b, off, e, fun i hi => cell_later hb (hc i hi)⟩
theorem IsB.front {w : World} {a : Option Addr} {len : Nat} {zs : List Int} (h : IsB w a len zs) (m : Nat) (hm : m ≤ len) : IsB w a m (zs.take m) := by
 obtain ⟨h1, h2, h3, h4⟩ := h
 refine ⟨by rw [List.length_take]; omega, by omega, fun hp => ?_, fun i => ?_⟩
 · obtain ⟨b, off, e, hc⟩ := h3 (by omega)
   refine ⟨b, off, e, fun i hi => ?_⟩
   rw [hc i (by omega)]
   simp [List.getD, List.getElem?_take, hi]
 · by_cases hi : i < m
   · have := h4 i
     simpa [List.getD, List.getElem?_take, hi] using this
   · simp [List.getD, List.getElem?_take, hi]
set_option maxHeartbeats 400000 in
theorem fold_c (a : Option Addr) (len cap : Nat) (zs : List Int) (w : World) (hb : IsB w a len zs) :
   Calls Tryz.prog 302 #[.slice a len cap] w fun e w' => e = .returned (.int .u32 (M.foldF zs)) ∧ w' = w := by
 obtain ⟨hl, hm, hc, hz⟩ := hb
 unfold maxLen at hm
 have Hz := hid hz
 have Hc := hid hc
 have Hl := hid hl
 clear hz hc hl
 go_enter Tryz.func302, Tryz.ntmps302
 go_wp2
 go_loop [3, 4, 7] (fun s t i => ∃ j : Nat, j ≤ len ∧ i = .int .i64 j ∧ s = .int .u32 (M.foldF (zs.take j))) (fun _ _ i => ((len : Int) - intOf i).toNat)
 case atStart => exact ⟨0, by omega, rfl, rfl⟩
 case round =>
   obtain ⟨j, hj, rfl, rfl⟩ := hrel
   by_cases hlt : j < len
   · obtain ⟨b, off, rfl, hcell⟩ := Hc.out (by omega)
     have hcj := hcell j hlt
     have hzj := Hz.out j
     have HT := hid (take_snoc zs j (by have := Hl.out; omega))
     generalize hX : zs.getD j 0 = x at *
     have HX := hid hX
     clear hcell hX
     go_wp2
     go_round
     case rel => exact ⟨j + 1, by omega, by go_num, val_int (by rw [HT.out, M.fold_snoc]; rfl)⟩
     case measure => simp [intOf]; omega
   · go_wp2
     go_ret
     exact ⟨ret_int (by have := Hl.out; rw [List.take_of_length_le (by omega)]), rfl⟩
end Go.Proofs.YtfmghbennahlfaaGreat
namespace Go.Proofs.YtfmghbennahlfaaGreat
structure Rec where
 k : Int
 fid : Int
 dir : Int
 nm : ByteArray
 to : Int
 nm2 : ByteArray
 md : Int
 dt : ByteArray
 sn : Int
end Go.Proofs.YtfmghbennahlfaaGreat
