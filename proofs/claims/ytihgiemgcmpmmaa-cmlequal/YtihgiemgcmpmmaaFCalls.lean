/-
  What each function of the package frame returns that writes a packet, or tells whether it is right: one contract a function.
-/
import Derived.Test.YtihgiemgcmpmmaaCalls
import Derived.Test.YtihgiemgcmpmmaaFMath
import Derived.Deep.RegionHeld3
import Derived.Deep.AppendLies
import Derived.Deep.DrawnRows
import Derived.Lib.AppendStr
namespace Go.Proofs.Ytihgiemgcmpmmaa
open Go.RowKit Go.ChangeShapes Go.WideShapes Go.ChangeAt
set_option linter.unusedVariables false
set_option linter.unusedSimpArgs false
theorem or_up (i : Nat) (a b : Int) (ha : 0 ≤ a) (ha' : a.toNat < 2 ^ i) (hb : 0 ≤ b) (hb' : b < 4294967296) (hm : b.toNat % 2 ^ i = 0) (hi : a < 4294967296) : bits .or .u32 a b = a + b := by
  rw [u32_or _ _ (by omega) (by omega) (by omega) (by omega), Nat.or_comm, nat_join i _ _ hm ha']; omega
theorem or_four (a b c d : Int) (ha : 0 ≤ a ∧ a ≤ 255) (hb : 0 ≤ b ∧ b ≤ 255) (hc : 0 ≤ c ∧ c ≤ 255) (hd : 0 ≤ d ∧ d ≤ 255) :
    bits .or .u32 (bits .or .u32 (bits .or .u32 (bits .or .u32 0 a) (b * 256)) (c * 65536)) (d * 16777216) = Fr.num4 a b c d := by
  rw [or_up 0 0 a (by omega) (by omega) (by omega) (by omega) (by omega) (by omega), or_up 8 (0 + a) (b * 256) (by omega) (by omega) (by omega) (by omega) (by omega) (by omega),
    or_up 16 (0 + a + b * 256) (c * 65536) (by omega) (by omega) (by omega) (by omega) (by omega) (by omega), or_up 24 (0 + a + b * 256 + c * 65536) (d * 16777216) (by omega) (by omega) (by omega) (by omega) (by omega) (by omega)]
  unfold Fr.num4; omega
theorem or_two (a b : Int) (ha : 0 ≤ a ∧ a ≤ 255) (hb : 0 ≤ b ∧ b ≤ 255) : bits .or .u32 (bits .or .u32 0 a) (b * 256) = a + 256 * b := by
  rw [or_up 0 0 a (by omega) (by omega) (by omega) (by omega) (by omega) (by omega), or_up 8 (0 + a) (b * 256) (by omega) (by omega) (by omega) (by omega) (by omega) (by omega)]
  omega
theorem info_parts8 : ∃ i : TypeInfo, Try.prog.info? 5 = some i ∧ i.zero = some (.int .u8 0) ∧ i.size = 1 ∧ i.bytes = 1 := by
  have h : (Try.prog.info? 5).map (fun i => (i.zero, i.size, i.bytes)) = some (some (.int .u8 0), 1, 1) := by kernel_rfl
  cases hi : Try.prog.info? 5 with
  | none => rw [hi] at h; cases h
  | some i =>
    rw [hi] at h
    simp at h
    exact ⟨i, rfl, h.1, h.2.1, h.2.2⟩
def u8V (x : Int) : Value := .int .u8 x
theorem strCells_bs (s : ByteArray) : Lib.strCells s = (Fr.bs s).map u8V := by
  unfold Lib.strCells Fr.bs; simp [u8V]
/-- What lies below block 'base', but for block g, is as it was. -/
structure Kpt (base g : Nat) (w w' : World) : Prop where
  os : w'.os = w.os
  tape : w'.tape = w.tape
  output : w'.output = w.output
  size : w.heap.size ≤ w'.heap.size
  block : ∀ k, k < base → k ≠ g → w'.heap[k]? = w.heap[k]?
theorem Kpt.refl (base g : Nat) (w : World) : Kpt base g w w := ⟨rfl, rfl, rfl, Nat.le_refl _, fun _ _ _ => rfl⟩
theorem Kpt.trans {base g : Nat} {a b c : World} (h : Kpt base g a b) (k : Kpt base g b c) : Kpt base g a c :=
  ⟨k.os.trans h.os, k.tape.trans h.tape, k.output.trans h.output, Nat.le_trans h.size k.size, fun i hi hne => (k.block i hi hne).trans (h.block i hi hne)⟩
theorem Kpt.on {base g : Nat} {a b c : World} (h : Kpt base g a b) (k : Kpt base g b.drew c) : Kpt base g a c := h.trans ⟨k.os, k.tape, k.output, k.size, k.block⟩
theorem Kpt.drew {base g : Nat} {a b : World} (h : Kpt base g a b) : Kpt base g a b.drew := ⟨h.os, h.tape, h.output, h.size, h.block⟩
theorem Kpt.below {base g B : Nat} {a b : World} (h : Kpt base g a b) (h1 : B ≤ base) (h2 : B ≤ g) : Below B a b := ⟨h.os, h.tape, h.output, h.size, fun k hk => h.block k (by omega) (by omega)⟩
theorem Kpt.cell {base g : Nat} {w w' : World} (h : Kpt base g w w') {p : Addr} (h1 : p.block < base) (h2 : p.block ≠ g) : w'.cell? p = w.cell? p := World.cell?_of_block (h.block p.block h1 h2)
/-- A pile: its cell lies in block g, its bytes in a block of its own from 'base' on. -/
def Pile (w : World) (T base g : Nat) (zs : List Int) : Prop :=
  g < base ∧ base ≤ w.heap.size ∧ ∃ v, w.heap[g]? = some (.cells #[v] T (0, 0)) ∧ w.ownsRow base 5 1 v zs.length (zs.map u8V)
theorem Pile.drew {w : World} {T base g : Nat} {zs : List Int} (h : Pile w T base g zs) : Pile w.drew T base g zs := h
theorem cell_box {w : World} {g : Nat} {v : Value} {T : TypeId} (h : w.heap[g]? = some (.cells #[v] T (0, 0))) : w.cell? ⟨g, 0, none⟩ = some v := by
  rw [cell_of_row w g 0 #[v] T (0, 0) h]; rfl
theorem frozen_box {w : World} {g : Nat} {v : Value} {T : TypeId} (h : w.heap[g]? = some (.cells #[v] T (0, 0))) : w.frozen? ⟨g, 0, none⟩ = false := by
  simp [World.frozen?, h]
theorem heap_setBox {W : World} {B : Nat} {v : Value} {t : TypeId} (v' : Value) (h : W.heap[B]? = some (.cells #[v] t (0, 0))) : (W.setCell ⟨B, 0, none⟩ v').heap[B]? = some (.cells #[v'] t (0, 0)) := by
  rw [heap_setCell_same W B 0 #[v] t v' h]; rfl
theorem lay_box {w w5 : World} {base g : Nat} {v : Value} {T n : Nat} {xs : List Value} {o : Obj} (hbox : w.heap[g]? = some (.cells #[v] T (0, 0))) (hown : w.ownsRow base 5 1 v n xs) (hg : g < base) (hgrow : (w.alloc o).grownBy w5 v.ownBlock) (hlt : g < w.heap.size) :
    w5.heap[g]? = some (.cells #[v] T (0, 0)) := by
  rw [hgrow.block g (by simp; omega) (fun e => by have := (hown.lt g e.symm).1; omega), Below.heap_alloc _ _ _ hlt]; exact hbox
theorem body_end {P : Program} {fn : Func} {R : Ending → World → Prop} {a : Act} {w : World} (hr : fn.results = #[]) (hd : a.defers = []) (hR : R (.returned (.tuple #[])) w) : bodyPost P fn R .normal a w :=
  bodyPost_end (v := .tuple #[]) (by simp [results, hr, go_sem]) hd hR
theorem own_slice {w : World} {base : Nat} {e size n : Nat} {v : Value} {xs : List Value} (h : w.ownsRow base e size v n xs) : ∃ a m c, v = .slice a m c := by
  rcases h.2 with ⟨hv, _⟩ | ⟨g, cap, cur, hv, _⟩
  · exact ⟨_, _, _, hv⟩
  · exact ⟨_, _, _, hv⟩
theorem lay_kpt {w w5 : World} {base g : Nat} {v v' : Value} {n : Nat} {xs : List Value} {o : Obj} (hown : w.ownsRow base 5 1 v n xs) (hg : g < base) (hgrow : (w.alloc o).grownBy w5 v.ownBlock) (hbase : base ≤ w.heap.size) :
    Kpt base g w (w5.setCell ⟨g, 0, none⟩ v') :=
  ⟨hgrow.os, hgrow.tape, hgrow.output, by have := hgrow.size; simp [World.setCell] at this ⊢; omega, fun k hk hne => by
    rw [heap_setCell_other _ _ _ _ hne, hgrow.block k (by simp; omega) (fun e => by have := (hown.lt k e.symm).1; omega), Below.heap_alloc _ _ _ (by omega)]⟩
theorem text_box {w w5 : World} {base g : Nat} {v : Value} {T n : Nat} {xs : List Value} (hbox : w.heap[g]? = some (.cells #[v] T (0, 0))) (hown : w.ownsRow base 5 1 v n xs) (hg : g < base) (hgrow : w.grownBy w5 v.ownBlock) (hlt : g < w.heap.size) :
    w5.heap[g]? = some (.cells #[v] T (0, 0)) := by
  rw [hgrow.block g hlt (fun e => by have := (hown.lt g e.symm).1; omega)]; exact hbox
theorem text_kpt {w w5 : World} {base g : Nat} {v v' : Value} {n : Nat} {xs : List Value} (hown : w.ownsRow base 5 1 v n xs) (hg : g < base) (hgrow : w.grownBy w5 v.ownBlock) (hbase : base ≤ w.heap.size) :
    Kpt base g w (w5.setCell ⟨g, 0, none⟩ v') :=
  ⟨hgrow.os, hgrow.tape, hgrow.output, by have := hgrow.size; simp [World.setCell] at this ⊢; omega, fun k hk hne => by
    rw [heap_setCell_other _ _ _ _ hne, hgrow.block k (by omega) (fun e => by have := (hown.lt k e.symm).1; omega)]⟩
def wayB (p : Fr.Pk) : Bool := (p.k == 1 && p.f != 0 && decide (p.f ≤ 3) && p.t == 0) || (p.k == 2 && p.f == 0 && p.t != 0 && decide (p.t ≤ 3))
theorem right_way (p : Fr.Pk) : Fr.rightB p = (wayB p && p.s != 0 && decide (p.b.size ≤ 16384)) := rfl
end Go.Proofs.Ytihgiemgcmpmmaa
