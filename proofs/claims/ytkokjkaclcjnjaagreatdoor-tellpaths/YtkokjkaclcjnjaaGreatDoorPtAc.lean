/-
  Plain laws on packets as bytes: which bytes a packet has, when bytes begin with a right packet's, and that they tell which; no program is named here.
  What each function of the package frame returns that writes a packet, or tells whether it is right: one contract a function.
-/
import Derived.Test.YtkokjkaclcjnjaaGreatDoorPtAa
import Derived.Deep.RegionHeld3
import Derived.Deep.AppendLies
import Derived.Deep.DrawnRows
import Derived.Lib.AppendStr
namespace Go.Proofs.YtkokjkaclcjnjaaGreatDoor.Fr
set_option linter.unusedVariables false
open Go.RowKit
def bs (b : ByteArray) : List Int := b.data.toList.map fun c => (c.toNat : Int)
def tx (l : List Int) : ByteArray := ⟨(l.map fun x => UInt8.ofNat x.toNat).toArray⟩
def le4 (n : Int) : List Int := [n % 256, n / 256 % 256, n / 65536 % 256, n / 16777216 % 256]
def le2 (n : Int) : List Int := [n % 256, n / 256 % 256]
def num4 (a b c d : Int) : Int := a + 256 * b + 65536 * c + 16777216 * d
structure Pk where
 k : Int
 f : Int
 t : Int
 e : Int
 s : Int
 b : ByteArray
def val (p : Pk) : Value := .agg #[.int .u8 p.k, .int .u8 p.f, .int .u8 p.t, .int .u32 p.e, .int .u32 p.s, .string p.b]
def Wf (p : Pk) : Prop := (0 ≤ p.k ∧ p.k < 256) ∧ (0 ≤ p.f ∧ p.f < 256) ∧ (0 ≤ p.t ∧ p.t < 256) ∧ (0 ≤ p.e ∧ p.e < 4294967296) ∧ (0 ≤ p.s ∧ p.s < 4294967296)
def rightB (p : Pk) : Bool := ((p.k == 1 && p.f != 0 && decide (p.f ≤ 3) && p.t == 0) || (p.k == 2 && p.f == 0 && p.t != 0 && decide (p.t ≤ 3))) && p.s != 0 && decide (p.b.size ≤ 16384)
def head (p : Pk) : List Int := 66 :: 87 :: p.k :: p.f :: p.t :: (le4 p.e ++ le4 p.s ++ le2 p.b.size ++ bs p.b)
def enc (p : Pk) : List Int := head p ++ le4 (M.foldF (head p))
theorem tx_size (l : List Int) : (tx l).size = l.length := by
 show (l.map fun x => UInt8.ofNat x.toNat).toArray.size = _
 simp
def nb (zs : List Int) : Int := zs.getD 13 0 + 256 * zs.getD 14 0
def parse (zs : List Int) : Pk := ⟨zs.getD 2 0, zs.getD 3 0, zs.getD 4 0, num4 (zs.getD 5 0) (zs.getD 6 0) (zs.getD 7 0) (zs.getD 8 0), num4 (zs.getD 9 0) (zs.getD 10 0) (zs.getD 11 0) (zs.getD 12 0), tx ((zs.drop 15).take (nb zs).toNat)⟩
def at4 (zs : List Int) (i : Nat) : Int := num4 (zs.getD i 0) (zs.getD (i + 1) 0) (zs.getD (i + 2) 0) (zs.getD (i + 3) 0)
def firstF (zs : List Int) : Option Pk :=
 if 19 ≤ zs.length ∧ 19 + nb zs ≤ zs.length ∧ zs.getD 0 0 = 66 ∧ zs.getD 1 0 = 87 ∧ at4 zs (15 + (nb zs).toNat) = M.foldF (zs.take (15 + (nb zs).toNat)) ∧ rightB (parse zs) = true then some (parse zs) else none
end Go.Proofs.YtkokjkaclcjnjaaGreatDoor.Fr
namespace Go.Proofs.YtkokjkaclcjnjaaGreatDoor
open Go.RowKit Go.ChangeShapes Go.WideShapes Go.ChangeAt
set_option linter.unusedVariables false
set_option linter.unusedSimpArgs false
theorem info_parts8 : ∃ i : TypeInfo, Tryz.prog.info? 5 = some i ∧ i.zero = some (.int .u8 0) ∧ i.size = 1 ∧ i.bytes = 1 := by
 have h : (Tryz.prog.info? 5).map (fun i => (i.zero, i.size, i.bytes)) = some (some (.int .u8 0), 1, 1) := by kernel_rfl
 cases hi : Tryz.prog.info? 5 with
 | none => rw [hi] at h; cases h
 | some i =>
   rw [hi] at h
   simp at h
   exact ⟨i, rfl, h.1, h.2.1, h.2.2⟩
def u8V (x : Int) : Value := .int .u8 x
theorem cell_box {w : World} {g : Nat} {v : Value} {T : TypeId} (h : w.heap[g]? = some (.cells #[v] T (0, 0))) : w.cell? ⟨g, 0, none⟩ = some v := by
 rw [cell_of_row w g 0 #[v] T (0, 0) h]; rfl
theorem frozen_box {w : World} {g : Nat} {v : Value} {T : TypeId} (h : w.heap[g]? = some (.cells #[v] T (0, 0))) : w.frozen? ⟨g, 0, none⟩ = false := by
 simp [World.frozen?, h]
theorem heap_setBox {W : World} {B : Nat} {v : Value} {t : TypeId} (v' : Value) (h : W.heap[B]? = some (.cells #[v] t (0, 0))) : (W.setCell ⟨B, 0, none⟩ v').heap[B]? = some (.cells #[v'] t (0, 0)) := by
 rw [heap_setCell_same W B 0 #[v] t v' h]; rfl
theorem body_end {P : Program} {fn : Func} {R : Ending → World → Prop} {a : Act} {w : World} (hr : fn.results = #[]) (hd : a.defers = []) (hR : R (.returned (.tuple #[])) w) : bodyPost P fn R .normal a w :=
 bodyPost_end (v := .tuple #[]) (by simp [results, hr, go_sem]) hd hR
end Go.Proofs.YtkokjkaclcjnjaaGreatDoor
