/-
  
-/
import Derived.Test.YtfmghbennahlfaaGreatCnAa
import Derived.Deep.RegionHeld3
import Derived.Deep.AppendLies
import Derived.Deep.DrawnRows
import Derived.Lib.AppendStr
namespace Go.Proofs.YtfmghbennahlfaaGreat.Fr
set_option linter.unusedVariables false
open Go.RowKit
def bs (b : ByteArray) : List Int := b.data.toList.map fun c => (c.toNat : Int)
def tx (l : List Int) : ByteArray := ⟨(l.map fun x => UInt8.ofNat x.toNat).toArray⟩
def le4 (n : Int) : List Int := [n % 256, n / 256 % 256, n / 65536 % 256, n / 16777216 % 256]
def le2 (n : Int) : List Int := [n % 256, n / 256 % 256]
def num4 (a b c d : Int) : Int := a + 256 * b + 65536 * c + 16777216 * d
structure Pk where
 k : Int
 f : Int
 t : Int
 e : Int
 s : Int
 b : ByteArray
def val (p : Pk) : Value := .agg #[.int .u8 p.k, .int .u8 p.f, .int .u8 p.t, .int .u32 p.e, .int .u32 p.s, .string p.b]
def Wf (p : Pk) : Prop := (0 ≤ p.k ∧ p.k < 256) ∧ (0 ≤ p.f ∧ p.f < 256) ∧ (0 ≤ p.t ∧ p.t < 256) ∧ (0 ≤ p.e ∧ p.e < 4294967296) ∧ (0 ≤ p.s ∧ p.s < 4294967296)
def rightB (p : Pk) : Bool := ((p.k == 1 && p.f != 0 && decide (p.f ≤ 3) && p.t == 0) || (p.k == 2 && p.f == 0 && p.t != 0 && decide (p.t ≤ 3))) && p.s != 0 && decide (p.b.size ≤ 16384)
def head (p : Pk) : List Int := 66 :: 87 :: p.k :: p.f :: p.t :: (le4 p.e ++ le4 p.s ++ le2 p.b.size ++ bs p.b)
def enc (p : Pk) : List Int := head p ++ le4 (M.foldF (head p))
theorem bs_length (b : ByteArray) : (bs b).length = b.size := by unfold bs; rw [List.length_map]; rfl
theorem tx_size (l : List Int) : (tx l).size = l.length := by
 show (l.map fun x => UInt8.ofNat x.toNat).toArray.size = _
 simp
theorem num4_le4 (n : Int) (h0 : 0 ≤ n) (h1 : n < 4294967296) : num4 (n % 256) (n / 256 % 256) (n / 65536 % 256) (n / 16777216 % 256) = n := by
 unfold num4; omega
theorem num4_lt (a b c d : Int) (ha : 0 ≤ a ∧ a ≤ 255) (hb : 0 ≤ b ∧ b ≤ 255) (hc : 0 ≤ c ∧ c ≤ 255) (hd : 0 ≤ d ∧ d ≤ 255) : 0 ≤ num4 a b c d ∧ num4 a b c d < 4294967296 := by
 unfold num4; omega
theorem fold_lt (l : List Int) : 0 ≤ M.foldF l ∧ M.foldF l < 4294967296 := by
 rcases List.eq_nil_or_concat l with rfl | ⟨l', b, rfl⟩
 · unfold M.foldF; simp
 · rw [List.concat_eq_append, M.fold_snoc]; unfold M.foldS; rw [IntKind.wrap_u32]; omega
theorem le4_byte (n : Int) : ∀ x ∈ le4 n, 0 ≤ x ∧ x ≤ 255 := by
 intro x hx; unfold le4 at hx; simp at hx; omega
def nb (zs : List Int) : Int := zs.getD 13 0 + 256 * zs.getD 14 0
def at4 (zs : List Int) (i : Nat) : Int := num4 (zs.getD i 0) (zs.getD (i + 1) 0) (zs.getD (i + 2) 0) (zs.getD (i + 3) 0)
theorem right_size {p : Pk} (h : rightB p = true) : p.b.size ≤ 16384 := by
 unfold rightB at h; simp at h; exact h.2
end Go.Proofs.YtfmghbennahlfaaGreat.Fr
namespace Go.Proofs.YtfmghbennahlfaaGreat
open Go.RowKit Go.ChangeShapes Go.WideShapes Go.ChangeAt
set_option linter.unusedVariables false
set_option linter.unusedSimpArgs false
theorem or_up (i : Nat) (a b : Int) (ha : 0 ≤ a) (ha' : a.toNat < 2 ^ i) (hb : 0 ≤ b) (hb' : b < 4294967296) (hm : b.toNat % 2 ^ i = 0) (hi : a < 4294967296) : bits .or .u32 a b = a + b := by
 rw [u32_or _ _ (by omega) (by omega) (by omega) (by omega), Nat.or_comm, nat_join i _ _ hm ha']; omega
theorem or_four (a b c d : Int) (ha : 0 ≤ a ∧ a ≤ 255) (hb : 0 ≤ b ∧ b ≤ 255) (hc : 0 ≤ c ∧ c ≤ 255) (hd : 0 ≤ d ∧ d ≤ 255) :
   bits .or .u32 (bits .or .u32 (bits .or .u32 (bits .or .u32 0 a) (b * 256)) (c * 65536)) (d * 16777216) = Fr.num4 a b c d := by
 rw [or_up 0 0 a (by omega) (by omega) (by omega) (by omega) (by omega) (by omega), or_up 8 (0 + a) (b * 256) (by omega) (by omega) (by omega) (by omega) (by omega) (by omega),
   or_up 16 (0 + a + b * 256) (c * 65536) (by omega) (by omega) (by omega) (by omega) (by omega) (by omega), or_up 24 (0 + a + b * 256 + c * 65536) (d * 16777216) (by omega) (by omega) (by omega) (by omega) (by omega) (by omega)]
 unfold Fr.num4; omega
theorem info_parts8 : ∃ i : TypeInfo, Tryz.prog.info? 5 = some i ∧ i.zero = some (.int .u8 0) ∧ i.size = 1 ∧ i.bytes = 1 := by
 have h : (Tryz.prog.info? 5).map (fun i => (i.zero, i.size, i.bytes)) = some (some (.int .u8 0), 1, 1) := by kernel_rfl
 cases hi : Tryz.prog.info? 5 with
 | none => rw [hi] at h; cases h
 | some i =>
   rw [hi] at h
   simp at h
   exact ⟨i, rfl, h.1, h.2.1, h.2.2⟩
def u8V (x : Int) : Value := .int .u8 x
theorem strCells_bs (s : ByteArray) : Lib.strCells s = (Fr.bs s).map u8V := by
 unfold Lib.strCells Fr.bs; simp [u8V]
def Pile (w : World) (T base g : Nat) (zs : List Int) : Prop :=
 g < base ∧ base ≤ w.heap.size ∧ ∃ v, w.heap[g]? = some (.cells #[v] T (0, 0)) ∧ w.ownsRow base 5 1 v zs.length (zs.map u8V)
theorem cell_box {w : World} {g : Nat} {v : Value} {T : TypeId} (h : w.heap[g]? = some (.cells #[v] T (0, 0))) : w.cell? ⟨g, 0, none⟩ = some v := by
 rw [cell_of_row w g 0 #[v] T (0, 0) h]; rfl
theorem frozen_box {w : World} {g : Nat} {v : Value} {T : TypeId} (h : w.heap[g]? = some (.cells #[v] T (0, 0))) : w.frozen? ⟨g, 0, none⟩ = false := by
 simp [World.frozen?, h]
theorem heap_setBox {W : World} {B : Nat} {v : Value} {t : TypeId} (v' : Value) (h : W.heap[B]? = some (.cells #[v] t (0, 0))) : (W.setCell ⟨B, 0, none⟩ v').heap[B]? = some (.cells #[v'] t (0, 0)) := by
 rw [heap_setCell_same W B 0 #[v] t v' h]; rfl
theorem lay_box {w w5 : World} {base g : Nat} {v : Value} {T n : Nat} {xs : List Value} {o : Obj} (hbox : w.heap[g]? = some (.cells #[v] T (0, 0))) (hown : w.ownsRow base 5 1 v n xs) (hg : g < base) (hgrow : (w.alloc o).grownBy w5 v.ownBlock) (hlt : g < w.heap.size) :
   w5.heap[g]? = some (.cells #[v] T (0, 0)) := by
 rw [hgrow.block g (by simp; omega) (fun e => by have := (hown.lt g e.symm).1; omega), Below.heap_alloc _ _ _ hlt]; exact hbox
theorem body_end {P : Program} {fn : Func} {R : Ending → World → Prop} {a : Act} {w : World} (hr : fn.results = #[]) (hd : a.defers = []) (hR : R (.returned (.tuple #[])) w) : bodyPost P fn R .normal a w :=
 bodyPost_end (v := .tuple #[]) (by simp [results, hr, go_sem]) hd hR
theorem own_slice {w : World} {base : Nat} {e size n : Nat} {v : Value} {xs : List Value} (h : w.ownsRow base e size v n xs) : ∃ a m c, v = .slice a m c := by
 rcases h.2 with ⟨hv, _⟩ | ⟨g, cap, cur, hv, _⟩
 · exact ⟨_, _, _, hv⟩
 · exact ⟨_, _, _, hv⟩
theorem text_box {w w5 : World} {base g : Nat} {v : Value} {T n : Nat} {xs : List Value} (hbox : w.heap[g]? = some (.cells #[v] T (0, 0))) (hown : w.ownsRow base 5 1 v n xs) (hg : g < base) (hgrow : w.grownBy w5 v.ownBlock) (hlt : g < w.heap.size) :
   w5.heap[g]? = some (.cells #[v] T (0, 0)) := by
 rw [hgrow.block g hlt (fun e => by have := (hown.lt g e.symm).1; omega)]; exact hbox
end Go.Proofs.YtfmghbennahlfaaGreat
