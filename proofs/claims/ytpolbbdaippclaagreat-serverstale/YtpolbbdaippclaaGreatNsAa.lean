/-
  
-/
import Derived.WalkKit
import Derived.ProofKit
import Derived.Test.YtpolbbdaippclaaGreatRows
import Derived.OpenShut
import Derived.ShutString
import Derived.WalkSpells
import Derived.WalkLawsBesides
import Derived.Lib.SlBytesConst
import Derived.Deep.QuietTactic
import Derived.BigQuiet
import Derived.Deep.RegionHeld3
import Derived.Deep.AppendLies
import Derived.Deep.DrawnRows
import Derived.Lib.AppendStr
namespace Go.Proofs.YtpolbbdaippclaaGreat.M
set_option linter.unusedVariables false
open Go.RowKit
theorem wrap_i64 (n : Int) : IntKind.i64.wrap n = wrap64 n := by
 rw [IntKind.wrap_i64]; unfold wrap64; omega
/-! ### Make -/
/-! ### Turn -/
def turnF (u k : Nat) : Nat := (u * 2 ^ k) % 4294967296 + u / 2 ^ (32 - k)
theorem turn_zero (u : Nat) (h : u < 4294967296) : turnF u 0 = u := by unfold turnF; simp; omega
/-! ### Low -/
/-! ### Fold -/
def foldS (s b : Int) : Int := IntKind.u32.wrap (bits .xor .u32 s b * 16777619)
def foldF (l : List Int) : Int := l.foldl foldS 2166136261
theorem fold_snoc (l : List Int) (b : Int) : foldF (l ++ [b]) = foldS (foldF l) b := by
 unfold foldF; rw [List.foldl_append]; rfl
/-! ### Both ways -/
end Go.Proofs.YtpolbbdaippclaaGreat.M
namespace Go.Proofs.YtpolbbdaippclaaGreat
open Go.RowKit Go.ChangeShapes Go.WideShapes Go.ChangeAt
set_option linter.unusedVariables false
set_option linter.unusedSimpArgs false
theorem bd_u32 {a : Int} (h : (Lit.int .u32 a).wf = true) : 0 ≤ a ∧ a < 4294967296 := by
 simp [Lit.wf, IntKind.min, IntKind.max, IntKind.signed, IntKind.bits] at h; omega
theorem ret_int {k : IntKind} {a b : Int} (h : a = b) : Ending.returned (.int k a) = .returned (.int k b) := by rw [h]
theorem ret_bool {a b : Bool} (h : a = b) : Ending.returned (.bool a) = .returned (.bool b) := by rw [h]
theorem val_int {k : IntKind} {a b : Int} (h : a = b) : Value.int k a = .int k b := by rw [h]
theorem hid {p : Prop} (h : p) : Hid p := h
theorem wp_region_class {P : Program} {id : Nat} {Q : Exit → Act → World → Prop} {a : Act} {w : World} {l : List Oper} (hm : P.follows .mixedOrders = true) (hB : Region.lexB .any l.toArray = true)
   (h : wpQuiet P l.toArray (fun w' => Below w.heap.size w w') (fun a' => ∀ w', Below w.heap.size w w' → Q .normal a' w') l a) : (Code.region id l.toArray true).wp P Q a w :=
 wp_region_quiet (C := fun w' => Below w.heap.size w w') hm hB ⟨rfl, rfl, rfl, Nat.le_refl _, fun _ _ => rfl⟩ (by simpa using h)
theorem quiet_by {P : Program} {o : Oper} {a a' : Act} {C : World → Prop} {K : Act → Prop} {v : Value} (h1 : ∀ w, C w → o.quietAt P a C w v) (h2 : a.put o.dst v = a') (h3 : K a') : o.quiet P a C K :=
 ⟨v, h1, by rw [h2]; exact h3⟩
theorem class_of {P : Program} {f : FuncId} {args : Array Value} {W w : World} {v : Value} (hw : Below W.heap.size W w)
   (h : Calls P f args w fun e w' => e = .returned v ∧ Below w.heap.size w w') : Calls P f args w fun e w'' => e = .returned v ∧ Below W.heap.size W w'' :=
 h.mono fun _ _ ⟨he, hb⟩ => ⟨he, hw.trans (hb.mono hw.size)⟩
theorem class_same {P : Program} {f : FuncId} {args : Array Value} {W w : World} {v : Value} (hw : Below W.heap.size W w)
   (h : Calls P f args w fun e w' => e = .returned v ∧ w' = w) : Calls P f args w fun e w'' => e = .returned v ∧ Below W.heap.size W w'' :=
 h.mono fun _ _ ⟨he, hb⟩ => ⟨he, by rw [hb]; exact hw⟩
def IsB (w : World) (a : Option Addr) (len : Nat) (zs : List Int) : Prop :=
 zs.length = len ∧ len ≤ maxLen ∧ (0 < len → ∃ b off, a = some ⟨b, off, none⟩ ∧ ∀ i, i < len → w.cell? ⟨b, off + i, none⟩ = some (.int .u8 (zs.getD i 0))) ∧ ∀ i, 0 ≤ zs.getD i 0 ∧ zs.getD i 0 ≤ 255
theorem take_snoc (l : List Int) (k : Nat) (h : k < l.length) : l.take (k + 1) = l.take k ++ [l.getD k 0] := by
 rw [List.take_succ_eq_append_getElem h]; simp [h]
theorem IsB.later {w w' : World} {a : Option Addr} {len : Nat} {zs : List Int} (h : IsB w a len zs) (hb : Below w.heap.size w w') : IsB w' a len zs := by
 obtain ⟨h1, h2, h3, h4⟩ := h
 refine ⟨h1, h2, fun hp => ?_, h4⟩
 obtain ⟨b, off, e, hc⟩ := h3 hp
 exact ⟨b, off, e, fun i hi => cell_later hb (hc i hi)⟩
theorem IsB.front {w : World} {a : Option Addr} {len : Nat} {zs : List Int} (h : IsB w a len zs) (m : Nat) (hm : m ≤ len) : IsB w a m (zs.take m) := by
 obtain ⟨h1, h2, h3, h4⟩ := h
 refine ⟨by rw [List.length_take]; omega, by omega, fun hp => ?_, fun i => ?_⟩
 · obtain ⟨b, off, e, hc⟩ := h3 (by omega)
   refine ⟨b, off, e, fun i hi => ?_⟩
   rw [hc i (by omega)]
   simp [List.getD, List.getElem?_take, hi]
 · by_cases hi : i < m
   · have := h4 i
     simpa [List.getD, List.getElem?_take, hi] using this
   · simp [List.getD, List.getElem?_take, hi]
set_option maxHeartbeats 400000 in
theorem fold_c (a : Option Addr) (len cap : Nat) (zs : List Int) (w : World) (hb : IsB w a len zs) :
   Calls Tryz.prog 189 #[.slice a len cap] w fun e w' => e = .returned (.int .u32 (M.foldF zs)) ∧ w' = w := by
 obtain ⟨hl, hm, hc, hz⟩ := hb
 unfold maxLen at hm
 have Hz := hid hz
 have Hc := hid hc
 have Hl := hid hl
 clear hz hc hl
 go_enter Tryz.func189, Tryz.ntmps189
 go_wp2
 go_loop [3, 4, 7] (fun s t i => ∃ j : Nat, j ≤ len ∧ i = .int .i64 j ∧ s = .int .u32 (M.foldF (zs.take j))) (fun _ _ i => ((len : Int) - intOf i).toNat)
 case atStart => exact ⟨0, by omega, rfl, rfl⟩
 case round =>
   obtain ⟨j, hj, rfl, rfl⟩ := hrel
   by_cases hlt : j < len
   · obtain ⟨b, off, rfl, hcell⟩ := Hc.out (by omega)
     have hcj := hcell j hlt
     have hzj := Hz.out j
     have HT := hid (take_snoc zs j (by have := Hl.out; omega))
     generalize hX : zs.getD j 0 = x at *
     have HX := hid hX
     clear hcell hX
     go_wp2
     go_round
     case rel => exact ⟨j + 1, by omega, by go_num, val_int (by rw [HT.out, M.fold_snoc]; rfl)⟩
     case measure => simp [intOf]; omega
   · go_wp2
     go_ret
     exact ⟨ret_int (by have := Hl.out; rw [List.take_of_length_le (by omega)]), rfl⟩
set_option maxHeartbeats 400000 in
theorem halves_c (u : Int) (x0 : 0 ≤ u) (x1 : u < 18446744073709551616) (w : World) :
   Calls Tryz.prog 120 #[.int .u64 u] w fun e w' => e = .returned (.agg #[.int .u32 (u / 4294967296), .int .u32 (u % 4294967296)]) ∧ Below w.heap.size w w' := by
 go_enter Tryz.func120, Tryz.ntmps120
 go_wp2
 refine wp_loop_rounds 3 ?_
 rw [rounds_succ]
 go_wp2
 rw [rounds_succ]
 go_wp2
 rw [rounds_succ]
 go_wp2
 exact bodyPost_ret (v := .agg #[.int .u32 (u / 4294967296), .int .u32 (u % 4294967296)]) (by simp [results, Tryz.results120, go_sem]) rfl ⟨rfl, ((Below.refl _ _).alloc (Nat.le_refl _) _).alloc (by simp) _⟩
set_option maxHeartbeats 400000 in
theorem unpack_c (u : Int) (x0 : 0 ≤ u) (x1 : u < 18446744073709551616) (w : World) :
   Calls Tryz.prog 79 #[.int .u64 u] w fun e w' => e = .returned (.tuple #[.int .u32 (u / 4294967296), .int .u32 (u % 4294967296)]) ∧ Below w.heap.size w w' := by
 go_enter Tryz.func79, Tryz.ntmps79
 go_wp2_with (go_at_call 120; refine (halves_c _ (by omega) (by omega) _).mono ?_; rintro e w' ⟨rfl, hb⟩)
 have hz := hb.size
 go_quiet (fail)
 go_wp2
 go_ret2
 exact ⟨rfl, below_drewN (hb.alloc hb.size _) _⟩
end Go.Proofs.YtpolbbdaippclaaGreat
namespace Go.Proofs.YtpolbbdaippclaaGreat.Fr
set_option linter.unusedVariables false
open Go.RowKit
def bs (b : ByteArray) : List Int := b.data.toList.map fun c => (c.toNat : Int)
def tx (l : List Int) : ByteArray := ⟨(l.map fun x => UInt8.ofNat x.toNat).toArray⟩
def le4 (n : Int) : List Int := [n % 256, n / 256 % 256, n / 65536 % 256, n / 16777216 % 256]
def le2 (n : Int) : List Int := [n % 256, n / 256 % 256]
def num4 (a b c d : Int) : Int := a + 256 * b + 65536 * c + 16777216 * d
structure Pk where
 k : Int
 f : Int
 t : Int
 e : Int
 s : Int
 b : ByteArray
def val (p : Pk) : Value := .agg #[.int .u8 p.k, .int .u8 p.f, .int .u8 p.t, .int .u32 p.e, .int .u32 p.s, .string p.b]
def Wf (p : Pk) : Prop := (0 ≤ p.k ∧ p.k < 256) ∧ (0 ≤ p.f ∧ p.f < 256) ∧ (0 ≤ p.t ∧ p.t < 256) ∧ (0 ≤ p.e ∧ p.e < 4294967296) ∧ (0 ≤ p.s ∧ p.s < 4294967296)
def rightB (p : Pk) : Bool := ((p.k == 1 && p.f != 0 && decide (p.f ≤ 3) && p.t == 0) || (p.k == 2 && p.f == 0 && p.t != 0 && decide (p.t ≤ 3))) && p.s != 0 && decide (p.b.size ≤ 16384)
def head (p : Pk) : List Int := 66 :: 87 :: p.k :: p.f :: p.t :: (le4 p.e ++ le4 p.s ++ le2 p.b.size ++ bs p.b)
def enc (p : Pk) : List Int := head p ++ le4 (M.foldF (head p))
theorem bs_length (b : ByteArray) : (bs b).length = b.size := by unfold bs; rw [List.length_map]; rfl
theorem tx_bs (b : ByteArray) : tx (bs b) = b := by
 unfold tx bs
 rw [List.map_map]
 have : ((fun x => UInt8.ofNat x.toNat) ∘ fun (c : UInt8) => (c.toNat : Int)) = id := by funext c; simp
 rw [this]; simp
theorem tx_size (l : List Int) : (tx l).size = l.length := by
 show (l.map fun x => UInt8.ofNat x.toNat).toArray.size = _
 simp
theorem num4_le4 (n : Int) (h0 : 0 ≤ n) (h1 : n < 4294967296) : num4 (n % 256) (n / 256 % 256) (n / 65536 % 256) (n / 16777216 % 256) = n := by
 unfold num4; omega
theorem num4_lt (a b c d : Int) (ha : 0 ≤ a ∧ a ≤ 255) (hb : 0 ≤ b ∧ b ≤ 255) (hc : 0 ≤ c ∧ c ≤ 255) (hd : 0 ≤ d ∧ d ≤ 255) : 0 ≤ num4 a b c d ∧ num4 a b c d < 4294967296 := by
 unfold num4; omega
theorem fold_lt (l : List Int) : 0 ≤ M.foldF l ∧ M.foldF l < 4294967296 := by
 rcases List.eq_nil_or_concat l with rfl | ⟨l', b, rfl⟩
 · unfold M.foldF; simp
 · rw [List.concat_eq_append, M.fold_snoc]; unfold M.foldS; rw [IntKind.wrap_u32]; omega
theorem le4_byte (n : Int) : ∀ x ∈ le4 n, 0 ≤ x ∧ x ≤ 255 := by
 intro x hx; unfold le4 at hx; simp at hx; omega
def nb (zs : List Int) : Int := zs.getD 13 0 + 256 * zs.getD 14 0
def at4 (zs : List Int) (i : Nat) : Int := num4 (zs.getD i 0) (zs.getD (i + 1) 0) (zs.getD (i + 2) 0) (zs.getD (i + 3) 0)
theorem right_size {p : Pk} (h : rightB p = true) : p.b.size ≤ 16384 := by
 unfold rightB at h; simp at h; exact h.2
end Go.Proofs.YtpolbbdaippclaaGreat.Fr
namespace Go.Proofs.YtpolbbdaippclaaGreat
open Go.RowKit Go.ChangeShapes Go.WideShapes Go.ChangeAt
set_option linter.unusedVariables false
set_option linter.unusedSimpArgs false
theorem or_up (i : Nat) (a b : Int) (ha : 0 ≤ a) (ha' : a.toNat < 2 ^ i) (hb : 0 ≤ b) (hb' : b < 4294967296) (hm : b.toNat % 2 ^ i = 0) (hi : a < 4294967296) : bits .or .u32 a b = a + b := by
 rw [u32_or _ _ (by omega) (by omega) (by omega) (by omega), Nat.or_comm, nat_join i _ _ hm ha']; omega
theorem or_four (a b c d : Int) (ha : 0 ≤ a ∧ a ≤ 255) (hb : 0 ≤ b ∧ b ≤ 255) (hc : 0 ≤ c ∧ c ≤ 255) (hd : 0 ≤ d ∧ d ≤ 255) :
   bits .or .u32 (bits .or .u32 (bits .or .u32 (bits .or .u32 0 a) (b * 256)) (c * 65536)) (d * 16777216) = Fr.num4 a b c d := by
 rw [or_up 0 0 a (by omega) (by omega) (by omega) (by omega) (by omega) (by omega), or_up 8 (0 + a) (b * 256) (by omega) (by omega) (by omega) (by omega) (by omega) (by omega),
   or_up 16 (0 + a + b * 256) (c * 65536) (by omega) (by omega) (by omega) (by omega) (by omega) (by omega), or_up 24 (0 + a + b * 256 + c * 65536) (d * 16777216) (by omega) (by omega) (by omega) (by omega) (by omega) (by omega)]
 unfold Fr.num4; omega
theorem info_parts8 : ∃ i : TypeInfo, Tryz.prog.info? 5 = some i ∧ i.zero = some (.int .u8 0) ∧ i.size = 1 ∧ i.bytes = 1 := by
 have h : (Tryz.prog.info? 5).map (fun i => (i.zero, i.size, i.bytes)) = some (some (.int .u8 0), 1, 1) := by kernel_rfl
 cases hi : Tryz.prog.info? 5 with
 | none => rw [hi] at h; cases h
 | some i =>
   rw [hi] at h
   simp at h
   exact ⟨i, rfl, h.1, h.2.1, h.2.2⟩
def u8V (x : Int) : Value := .int .u8 x
theorem strCells_bs (s : ByteArray) : Lib.strCells s = (Fr.bs s).map u8V := by
 unfold Lib.strCells Fr.bs; simp [u8V]
def Pile (w : World) (T base g : Nat) (zs : List Int) : Prop :=
 g < base ∧ base ≤ w.heap.size ∧ ∃ v, w.heap[g]? = some (.cells #[v] T (0, 0)) ∧ w.ownsRow base 5 1 v zs.length (zs.map u8V)
theorem Pile.drew {w : World} {T base g : Nat} {zs : List Int} (h : Pile w T base g zs) : Pile w.drew T base g zs := h
theorem cell_box {w : World} {g : Nat} {v : Value} {T : TypeId} (h : w.heap[g]? = some (.cells #[v] T (0, 0))) : w.cell? ⟨g, 0, none⟩ = some v := by
 rw [cell_of_row w g 0 #[v] T (0, 0) h]; rfl
theorem frozen_box {w : World} {g : Nat} {v : Value} {T : TypeId} (h : w.heap[g]? = some (.cells #[v] T (0, 0))) : w.frozen? ⟨g, 0, none⟩ = false := by
 simp [World.frozen?, h]
theorem heap_setBox {W : World} {B : Nat} {v : Value} {t : TypeId} (v' : Value) (h : W.heap[B]? = some (.cells #[v] t (0, 0))) : (W.setCell ⟨B, 0, none⟩ v').heap[B]? = some (.cells #[v'] t (0, 0)) := by
 rw [heap_setCell_same W B 0 #[v] t v' h]; rfl
theorem lay_box {w w5 : World} {base g : Nat} {v : Value} {T n : Nat} {xs : List Value} {o : Obj} (hbox : w.heap[g]? = some (.cells #[v] T (0, 0))) (hown : w.ownsRow base 5 1 v n xs) (hg : g < base) (hgrow : (w.alloc o).grownBy w5 v.ownBlock) (hlt : g < w.heap.size) :
   w5.heap[g]? = some (.cells #[v] T (0, 0)) := by
 rw [hgrow.block g (by simp; omega) (fun e => by have := (hown.lt g e.symm).1; omega), Below.heap_alloc _ _ _ hlt]; exact hbox
theorem body_end {P : Program} {fn : Func} {R : Ending → World → Prop} {a : Act} {w : World} (hr : fn.results = #[]) (hd : a.defers = []) (hR : R (.returned (.tuple #[])) w) : bodyPost P fn R .normal a w :=
 bodyPost_end (v := .tuple #[]) (by simp [results, hr, go_sem]) hd hR
theorem own_slice {w : World} {base : Nat} {e size n : Nat} {v : Value} {xs : List Value} (h : w.ownsRow base e size v n xs) : ∃ a m c, v = .slice a m c := by
 rcases h.2 with ⟨hv, _⟩ | ⟨g, cap, cur, hv, _⟩
 · exact ⟨_, _, _, hv⟩
 · exact ⟨_, _, _, hv⟩
theorem text_box {w w5 : World} {base g : Nat} {v : Value} {T n : Nat} {xs : List Value} (hbox : w.heap[g]? = some (.cells #[v] T (0, 0))) (hown : w.ownsRow base 5 1 v n xs) (hg : g < base) (hgrow : w.grownBy w5 v.ownBlock) (hlt : g < w.heap.size) :
   w5.heap[g]? = some (.cells #[v] T (0, 0)) := by
 rw [hgrow.block g hlt (fun e => by have := (hown.lt g e.symm).1; omega)]; exact hbox
end Go.Proofs.YtpolbbdaippclaaGreat
namespace Go.Proofs.YtpolbbdaippclaaGreat
structure Rec where
 k : Int
 fid : Int
 dir : Int
 nm : ByteArray
 to : Int
 nm2 : ByteArray
 md : Int
 dt : ByteArray
 sn : Int
end Go.Proofs.YtpolbbdaippclaaGreat
