/-
  Plain laws on packets as bytes: which bytes a packet has, when bytes begin with a right packet's, and that they tell which; no program is named here.
  What each function of the package frame returns that writes a packet, or tells whether it is right: one contract a function.
  Plain laws on lists of bytes for the package path: what names, Split and Join come to; no program is named here.
  path.Name, alone.
  Which operations are right: RightOp of the package tree.
-/
import Derived.Test.YtihgiemgcmpmmaaGreatShAa
import Derived.Deep.RegionHeld3
import Derived.Deep.AppendLies
import Derived.Deep.DrawnRows
import Derived.Lib.AppendStr
import Derived.WalkKit
import Derived.ProofKit
import Derived.Test.YtihgiemgcmpmmaaGreatRows
import Derived.OpenShut
import Derived.ShutString
import Derived.WalkSpells
import Derived.WalkLawsBesides
import Derived.Deep.QuietTactic
import Derived.BigQuiet
import Derived.Lib.OthersKept
import Derived.Lib.BufferWrite
import Derived.Lib.UnsafeStr
import Derived.Laws.MakeOwn
import Derived.Deep.LoopGhost
import Derived.Lib.Strings
import Derived.Lib.IndexBytes
import Derived.Deep.CutRange
namespace Go.Proofs.YtihgiemgcmpmmaaGreat.Fr
set_option linter.unusedVariables false
open Go.RowKit
def bs (b : ByteArray) : List Int := b.data.toList.map fun c => (c.toNat : Int)
def tx (l : List Int) : ByteArray := ⟨(l.map fun x => UInt8.ofNat x.toNat).toArray⟩
def le4 (n : Int) : List Int := [n % 256, n / 256 % 256, n / 65536 % 256, n / 16777216 % 256]
def le2 (n : Int) : List Int := [n % 256, n / 256 % 256]
structure Pk where
 k : Int
 f : Int
 t : Int
 e : Int
 s : Int
 b : ByteArray
def val (p : Pk) : Value := .agg #[.int .u8 p.k, .int .u8 p.f, .int .u8 p.t, .int .u32 p.e, .int .u32 p.s, .string p.b]
def Wf (p : Pk) : Prop := (0 ≤ p.k ∧ p.k < 256) ∧ (0 ≤ p.f ∧ p.f < 256) ∧ (0 ≤ p.t ∧ p.t < 256) ∧ (0 ≤ p.e ∧ p.e < 4294967296) ∧ (0 ≤ p.s ∧ p.s < 4294967296)
def rightB (p : Pk) : Bool := ((p.k == 1 && p.f != 0 && decide (p.f ≤ 3) && p.t == 0) || (p.k == 2 && p.f == 0 && p.t != 0 && decide (p.t ≤ 3))) && p.s != 0 && decide (p.b.size ≤ 16384)
def head (p : Pk) : List Int := 66 :: 87 :: p.k :: p.f :: p.t :: (le4 p.e ++ le4 p.s ++ le2 p.b.size ++ bs p.b)
def enc (p : Pk) : List Int := head p ++ le4 (M.foldF (head p))
theorem bs_length (b : ByteArray) : (bs b).length = b.size := by unfold bs; rw [List.length_map]; rfl
theorem tx_bs (b : ByteArray) : tx (bs b) = b := by
 unfold tx bs
 rw [List.map_map]
 have : ((fun x => UInt8.ofNat x.toNat) ∘ fun (c : UInt8) => (c.toNat : Int)) = id := by funext c; simp
 rw [this]; simp
theorem bs_tx (l : List Int) (h : ∀ x ∈ l, 0 ≤ x ∧ x ≤ 255) : bs (tx l) = l := by
 unfold tx bs
 simp only [List.map_map]
 conv => rhs; rw [← List.map_id l]
 apply List.map_congr_left
 intro x hx
 have := h x hx
 show ((UInt8.ofNat x.toNat).toNat : Int) = x
 rw [UInt8.toNat_ofNat_of_lt' (show x.toNat < 256 by omega)]; omega
theorem tx_size (l : List Int) : (tx l).size = l.length := by
 show (l.map fun x => UInt8.ofNat x.toNat).toArray.size = _
 simp
theorem right_size {p : Pk} (h : rightB p = true) : p.b.size ≤ 16384 := by
 unfold rightB at h; simp at h; exact h.2
end Go.Proofs.YtihgiemgcmpmmaaGreat.Fr
namespace Go.Proofs.YtihgiemgcmpmmaaGreat
open Go.RowKit Go.ChangeShapes Go.WideShapes Go.ChangeAt
set_option linter.unusedVariables false
set_option linter.unusedSimpArgs false
theorem info_parts8 : ∃ i : TypeInfo, Tryz.prog.info? 5 = some i ∧ i.zero = some (.int .u8 0) ∧ i.size = 1 ∧ i.bytes = 1 := by
 have h : (Tryz.prog.info? 5).map (fun i => (i.zero, i.size, i.bytes)) = some (some (.int .u8 0), 1, 1) := by kernel_rfl
 cases hi : Tryz.prog.info? 5 with
 | none => rw [hi] at h; cases h
 | some i =>
   rw [hi] at h
   simp at h
   exact ⟨i, rfl, h.1, h.2.1, h.2.2⟩
def u8V (x : Int) : Value := .int .u8 x
theorem strCells_bs (s : ByteArray) : Lib.strCells s = (Fr.bs s).map u8V := by
 unfold Lib.strCells Fr.bs; simp [u8V]
def Pile (w : World) (T base g : Nat) (zs : List Int) : Prop :=
 g < base ∧ base ≤ w.heap.size ∧ ∃ v, w.heap[g]? = some (.cells #[v] T (0, 0)) ∧ w.ownsRow base 5 1 v zs.length (zs.map u8V)
theorem Pile.drew {w : World} {T base g : Nat} {zs : List Int} (h : Pile w T base g zs) : Pile w.drew T base g zs := h
theorem cell_box {w : World} {g : Nat} {v : Value} {T : TypeId} (h : w.heap[g]? = some (.cells #[v] T (0, 0))) : w.cell? ⟨g, 0, none⟩ = some v := by
 rw [cell_of_row w g 0 #[v] T (0, 0) h]; rfl
theorem frozen_box {w : World} {g : Nat} {v : Value} {T : TypeId} (h : w.heap[g]? = some (.cells #[v] T (0, 0))) : w.frozen? ⟨g, 0, none⟩ = false := by
 simp [World.frozen?, h]
theorem heap_setBox {W : World} {B : Nat} {v : Value} {t : TypeId} (v' : Value) (h : W.heap[B]? = some (.cells #[v] t (0, 0))) : (W.setCell ⟨B, 0, none⟩ v').heap[B]? = some (.cells #[v'] t (0, 0)) := by
 rw [heap_setCell_same W B 0 #[v] t v' h]; rfl
theorem lay_box {w w5 : World} {base g : Nat} {v : Value} {T n : Nat} {xs : List Value} {o : Obj} (hbox : w.heap[g]? = some (.cells #[v] T (0, 0))) (hown : w.ownsRow base 5 1 v n xs) (hg : g < base) (hgrow : (w.alloc o).grownBy w5 v.ownBlock) (hlt : g < w.heap.size) :
   w5.heap[g]? = some (.cells #[v] T (0, 0)) := by
 rw [hgrow.block g (by simp; omega) (fun e => by have := (hown.lt g e.symm).1; omega), Below.heap_alloc _ _ _ hlt]; exact hbox
theorem body_end {P : Program} {fn : Func} {R : Ending → World → Prop} {a : Act} {w : World} (hr : fn.results = #[]) (hd : a.defers = []) (hR : R (.returned (.tuple #[])) w) : bodyPost P fn R .normal a w :=
 bodyPost_end (v := .tuple #[]) (by simp [results, hr, go_sem]) hd hR
theorem own_slice {w : World} {base : Nat} {e size n : Nat} {v : Value} {xs : List Value} (h : w.ownsRow base e size v n xs) : ∃ a m c, v = .slice a m c := by
 rcases h.2 with ⟨hv, _⟩ | ⟨g, cap, cur, hv, _⟩
 · exact ⟨_, _, _, hv⟩
 · exact ⟨_, _, _, hv⟩
theorem text_box {w w5 : World} {base g : Nat} {v : Value} {T n : Nat} {xs : List Value} (hbox : w.heap[g]? = some (.cells #[v] T (0, 0))) (hown : w.ownsRow base 5 1 v n xs) (hg : g < base) (hgrow : w.grownBy w5 v.ownBlock) (hlt : g < w.heap.size) :
   w5.heap[g]? = some (.cells #[v] T (0, 0)) := by
 rw [hgrow.block g hlt (fun e => by have := (hown.lt g e.symm).1; omega)]; exact hbox
end Go.Proofs.YtihgiemgcmpmmaaGreat
namespace Go.Proofs.YtihgiemgcmpmmaaGreat.Pa
set_option linter.unusedVariables false
set_option linter.unusedSimpArgs false
open Go.RowKit
def okR (r : Int) : Bool := decide (97 ≤ r ∧ r ≤ 122) || decide (48 ≤ r ∧ r ≤ 57) || decide (r = 46) || decide (r = 45) || decide (r = 95)
def okC (c : UInt8) : Bool := okR (c.toNat : Int)
theorem okR_high (r : Int) (h : 128 ≤ r) : okR r = false := by simp [okR]; omega
def nameB (l : List UInt8) : Bool := decide (1 ≤ l.length) && decide (l.length ≤ 12) && !(l == [46]) && !(l == [46, 46]) && l.all okC
theorem nameB_short (l : List UInt8) (h : l.length < 1) : nameB l = false := by simp [nameB]; omega
theorem nameB_long (l : List UInt8) (h : 12 < l.length) : nameB l = false := by simp [nameB]; omega
theorem nameB_dot : nameB [46] = false := by decide
theorem nameB_dots : nameB [46, 46] = false := by decide
theorem nameB_mid (l : List UInt8) (h1 : 1 ≤ l.length) (h2 : l.length ≤ 12) (h3 : (l == [46]) = false) (h4 : (l == [46, 46]) = false) : nameB l = l.all okC := by
 simp [nameB, h1, h2, h3, h4]
theorem all_take_succ (l : List UInt8) (j : Nat) (h : j < l.length) (ha : (l.take j).all okC = true) (hc : okC l[j] = true) : (l.take (j + 1)).all okC = true := by
 rw [List.take_succ_eq_append_getElem h, List.all_append, ha, List.all_cons, List.all_nil, hc]; rfl
theorem all_bad (l : List UInt8) (j : Nat) (h : j < l.length) (hc : okC l[j] = false) : l.all okC = false := by
 rw [Bool.eq_false_iff]
 intro ha
 rw [List.all_eq_true] at ha
 have := ha l[j] (List.getElem_mem h)
 rw [hc] at this; exact Bool.noConfusion this
/-! ### What stands between the slashes -/
/-! ### Split -/
/-! ### Join -/
/-! ### What Split answers are names -/
/-! ### Below -/
/-! ### Join and Split, both ways -/
/-! ### Down and up -/
/-! ### A name with one more letter -/
end Go.Proofs.YtihgiemgcmpmmaaGreat.Pa
namespace Go.Proofs.YtihgiemgcmpmmaaGreat
open Go.RowKit Go.ChangeShapes Go.WideShapes Go.ChangeAt
set_option linter.unusedVariables false
set_option linter.unusedSimpArgs false
theorem ret_bool' {a b : Bool} (h : a = b) : Ending.returned (.bool a) = .returned (.bool b) := by rw [h]
theorem hid' {p : Prop} (h : p) : Hid p := h
set_option maxHeartbeats 1000000 in
theorem inName_c (r : Int) (w : World) :
   Calls Tryz.prog 103 #[.int .i32 r] w fun e w' => e = .returned (.bool (Pa.okR r)) ∧ w' = w := by
 go_enter Tryz.func103, Tryz.ntmps103
 go_wp2
 all_goals go_ret
 all_goals exact ⟨ret_bool' (by first | rfl | (rw [Bool.eq_iff_iff]; simp [Pa.okR]; done) | (rw [Bool.eq_iff_iff]; simp [Pa.okR]; omega)), rfl⟩
set_option maxHeartbeats 1000000 in
theorem name_c (s : ByteArray) (w : World) (hs : s.size ≤ maxLen) :
   Calls Tryz.prog 85 #[.string s] w fun e w' => e = .returned (.bool (Pa.nameB s.data.toList)) ∧ Below w.heap.size w w' := by
 have hlen : s.data.toList.length = s.size := rfl
 unfold maxLen at hs
 by_cases h1 : s.size < 1
 · have N := hid' (Pa.nameB_short s.data.toList (by omega))
   go_enter Tryz.func85, Tryz.ntmps85
   go_wp2
   go_ret
   exact ⟨ret_bool' N.out.symm, Below.refl _ _⟩
 · by_cases h2 : 12 < s.size
   · have N := hid' (Pa.nameB_long s.data.toList (by omega))
     go_enter Tryz.func85, Tryz.ntmps85
     go_wp2
     go_ret
     exact ⟨ret_bool' N.out.symm, Below.refl _ _⟩
   · cases h3 : (s.toList == [46]) with
     | true =>
       have N : Hid (Pa.nameB s.data.toList = false) := by
         have : s.data.toList = [46] := by rw [← Lib.toList_data]; exact beq_iff_eq.1 h3
         show _ = _
         rw [this]; exact Pa.nameB_dot
       go_enter Tryz.func85, Tryz.ntmps85
       go_wp2
       go_ret
       exact ⟨ret_bool' N.out.symm, Below.refl _ _⟩
     | false =>
       cases h4 : (s.toList == [46, 46]) with
       | true =>
         have N : Hid (Pa.nameB s.data.toList = false) := by
           have : s.data.toList = [46, 46] := by rw [← Lib.toList_data]; exact beq_iff_eq.1 h4
           show _ = _
           rw [this]; exact Pa.nameB_dots
         go_enter Tryz.func85, Tryz.ntmps85
         go_wp2
         go_ret
         exact ⟨ret_bool' N.out.symm, Below.refl _ _⟩
       | false =>
         have N : Hid (Pa.nameB s.data.toList = s.data.toList.all Pa.okC) := Pa.nameB_mid _ (by omega) (by omega) (by rw [← Lib.toList_data]; exact h3) (by rw [← Lib.toList_data]; exact h4)
         have g1 : decide ((s.size : Int) < 1) = false := by simp; omega
         have g2 : decide ((12 : Int) < (s.size : Int)) = false := by simp; omega
         have HL := hid' hlen
         clear hlen
         go_enter Tryz.func85, Tryz.ntmps85
         go_wp2
         go_loopw [4] (fun r wr => ∃ j : Nat, wr = w.iter s j ∧ j ≤ s.size ∧ Hid ((s.data.toList.take j).all Pa.okC = true)) (fun _ wr => s.size - wr.iterPos w.heap.size)
         case atStart => exact ⟨0, rfl, by omega, by simp [Hid]⟩
         case round =>
           obtain ⟨j, rfl, hj, HA⟩ := hrel
           have hpos := World.iterPos_iter w s j
           by_cases hp : j < s.size
           · by_cases ha : (s[j]'hp).toNat < 128
             · have hnx := fun ty => run_next_ascii (P := Tryz.prog) w s j ty hp ha
               cases hc : Pa.okR ((s[j]'hp).toNat : Int) with
               | true =>
                 have HB : Hid ((s.data.toList.take (j + 1)).all Pa.okC = true) := Pa.all_take_succ s.data.toList j (by have := HL.out; omega) HA.out (by unfold Pa.okC; exact hc)
                 go_wp2_with (go_at_call 103; refine (inName_c _ _).mono ?_; rintro e w' ⟨rfl, rfl⟩)
                 go_roundw
                 case rel => exact ⟨j + 1, rfl, by omega, HB⟩
                 case measure => rw [World.iterPos_iter, World.iterPos_iter]; omega
               | false =>
                 have HB : Hid (s.data.toList.all Pa.okC = false) := Pa.all_bad s.data.toList j (by have := HL.out; omega) (by unfold Pa.okC; exact hc)
                 go_wp2_with (go_at_call 103; refine (inName_c _ _).mono ?_; rintro e w' ⟨rfl, rfl⟩)
                 go_ret
                 exact ⟨ret_bool' (by rw [N.out, HB.out]), (Below.refl _ _).alloc (Nat.le_refl _) _⟩
             · have hnx := fun ty => run_next_any (P := Tryz.prog) w s j ty hp
               have hd := decode_high s j hp (by omega)
               have hc : Pa.okR ((Utf8.decode s j).1 : Int) = false := Pa.okR_high _ (by omega)
               have HB : Hid (s.data.toList.all Pa.okC = false) := Pa.all_bad s.data.toList j (by have := HL.out; omega) (by unfold Pa.okC; exact Pa.okR_high _ (by have h' : (s.data.toList[j]'(by have := HL.out; omega)) = s[j]'hp := rfl; rw [h']; omega))
               go_wp2_with (go_at_call 103; refine (inName_c _ _).mono ?_; rintro e w' ⟨rfl, rfl⟩)
               go_ret
               exact ⟨ret_bool' (by rw [N.out, HB.out]), (Below.refl _ _).alloc (Nat.le_refl _) _⟩
           · have hnx := fun ty => run_next_end (P := Tryz.prog) w s j ty hp
             go_wp2
             go_ret
             exact ⟨ret_bool' (by rw [N.out]; have := HA.out; rw [List.take_of_length_le (by have := HL.out; omega)] at this; exact this.symm), (Below.refl _ _).alloc (Nat.le_refl _) _⟩
def pFid (k : Int) : Bool := k == 1 || k == 2 || k == 3 || k == 4 || k == 8 || k == 9
def pEnt (k : Int) : Bool := k == 1 || k == 2 || k == 3 || k == 4 || k == 5 || k == 6 || k == 7
def pGoal (k : Int) : Bool := k == 7
def pMode (k : Int) : Bool := k == 1 || k == 2 || k == 3 || k == 9
def pData (k : Int) : Bool := k == 3 || k == 8
def pOk (k : Int) : Bool := k == 1 || k == 2 || k == 3 || k == 4 || k == 5 || k == 6 || k == 7 || k == 8 || k == 9
def mkF (k : Int) : Bool := k == 1 || k == 2 || k == 3
def partsV (k : Int) : Value := .agg #[.bool (pFid k), .bool (pEnt k), .bool (pGoal k), .bool (pMode k), .bool (pData k)]
def entF (named : Bool) (f : Int) (s : ByteArray) : Bool := if named then f != 0 && Pa.nameB s.data.toList else f == 0 && s.toList == []
def datF (named : Bool) (s : ByteArray) : Bool := if named then decide (s.size ≤ 64) else s.toList == []
def rightF (x : Rec) : Bool := !(!pOk x.k || (pFid x.k != (x.fid != 0)) || (mkF x.k && x.fid == 1)) && (entF (pEnt x.k) x.dir x.nm && entF (pGoal x.k) x.to x.nm2 && (pMode x.k || x.md == 0) && datF (pData x.k) x.dt)
set_option maxRecDepth 20000 in
set_option maxHeartbeats 2000000 in
theorem partsOf_c (k : Int) (w : World) :
   Calls Tryz.prog 73 #[.int .u8 k] w fun e w' => e = .returned (.tuple #[partsV k, .bool (pOk k)]) ∧ Below w.heap.size w w' := by
 have key : ∀ b1 b2 b3 b4 b5 b6 b7 b8 b9 : Bool, (k == 1) = b1 → (k == 2) = b2 → (k == 3) = b3 → (k == 4) = b4 → (k == 5) = b5 → (k == 6) = b6 → (k == 7) = b7 → (k == 8) = b8 → (k == 9) = b9 → ((b1, b2, b3, b4, b5, b6, b7, b8, b9) = (false, false, false, false, false, false, false, false, false) ∨ (b1, b2, b3, b4, b5, b6, b7, b8, b9) = (true, false, false, false, false, false, false, false, false) ∨ (b1, b2, b3, b4, b5, b6, b7, b8, b9) = (false, true, false, false, false, false, false, false, false) ∨ (b1, b2, b3, b4, b5, b6, b7, b8, b9) = (false, false, true, false, false, false, false, false, false) ∨ (b1, b2, b3, b4, b5, b6, b7, b8, b9) = (false, false, false, true, false, false, false, false, false) ∨ (b1, b2, b3, b4, b5, b6, b7, b8, b9) = (false, false, false, false, true, false, false, false, false) ∨ (b1, b2, b3, b4, b5, b6, b7, b8, b9) = (false, false, false, false, false, true, false, false, false) ∨ (b1, b2, b3, b4, b5, b6, b7, b8, b9) = (false, false, false, false, false, false, true, false, false) ∨ (b1, b2, b3, b4, b5, b6, b7, b8, b9) = (false, false, false, false, false, false, false, true, false) ∨ (b1, b2, b3, b4, b5, b6, b7, b8, b9) = (false, false, false, false, false, false, false, false, true)) → Calls Tryz.prog 73 #[.int .u8 k] w fun e w' => e = .returned (.tuple #[partsV k, .bool (pOk k)]) ∧ Below w.heap.size w w' := by
   intro b1 b2 b3 b4 b5 b6 b7 b8 b9 h1 h2 h3 h4 h5 h6 h7 h8 h9 hh
   simp only [Prod.mk.injEq] at hh
   have HV : Hid (partsV k = .agg #[.bool (b1 || b2 || b3 || b4 || b8 || b9), .bool (b1 || b2 || b3 || b4 || b5 || b6 || b7), .bool b7, .bool (b1 || b2 || b3 || b9), .bool (b3 || b8)]) := hid (by unfold partsV pFid pEnt pGoal pMode pData; rw [h1, h2, h3, h4, h5, h6, h7, h8, h9])
   have HO : Hid (pOk k = (b1 || b2 || b3 || b4 || b5 || b6 || b7 || b8 || b9)) := hid (by unfold pOk; rw [h1, h2, h3, h4, h5, h6, h7, h8, h9])
   rcases hh with ⟨rfl, rfl, rfl, rfl, rfl, rfl, rfl, rfl, rfl⟩ | ⟨rfl, rfl, rfl, rfl, rfl, rfl, rfl, rfl, rfl⟩ | ⟨rfl, rfl, rfl, rfl, rfl, rfl, rfl, rfl, rfl⟩ | ⟨rfl, rfl, rfl, rfl, rfl, rfl, rfl, rfl, rfl⟩ | ⟨rfl, rfl, rfl, rfl, rfl, rfl, rfl, rfl, rfl⟩ | ⟨rfl, rfl, rfl, rfl, rfl, rfl, rfl, rfl, rfl⟩ | ⟨rfl, rfl, rfl, rfl, rfl, rfl, rfl, rfl, rfl⟩ | ⟨rfl, rfl, rfl, rfl, rfl, rfl, rfl, rfl, rfl⟩ | ⟨rfl, rfl, rfl, rfl, rfl, rfl, rfl, rfl, rfl⟩ | ⟨rfl, rfl, rfl, rfl, rfl, rfl, rfl, rfl, rfl⟩
   all_goals
     go_enter Tryz.func73, Tryz.ntmps73
     go_wp2
     refine bodyPost_ret (v := .tuple #[partsV k, .bool (pOk k)]) (by rw [HV.out, HO.out]; simp [results, Tryz.results73, go_sem]) rfl ⟨rfl, ?_⟩
     exact (Below.refl _ _).alloc (Nat.le_refl _) _
 refine key _ _ _ _ _ _ _ _ _ rfl rfl rfl rfl rfl rfl rfl rfl rfl ?_
 by_cases q1 : k = 1
 · subst q1; simp
 by_cases q2 : k = 2
 · subst q2; simp
 by_cases q3 : k = 3
 · subst q3; simp
 by_cases q4 : k = 4
 · subst q4; simp
 by_cases q5 : k = 5
 · subst q5; simp
 by_cases q6 : k = 6
 · subst q6; simp
 by_cases q7 : k = 7
 · subst q7; simp
 by_cases q8 : k = 8
 · subst q8; simp
 by_cases q9 : k = 9
 · subst q9; simp
 left
 simp [q1, q2, q3, q4, q5, q6, q7, q8, q9]
set_option maxHeartbeats 1000000 in
theorem tmakes_c (k : Int) (w : World) : Calls Tryz.prog 74 #[.int .u8 k] w fun e w' => e = .returned (.bool (mkF k)) ∧ w' = w := by
 unfold mkF
 cases e1 : (k == 1) <;> cases e2 : (k == 2) <;> cases e3 : (k == 3) <;> (go_enter Tryz.func74, Tryz.ntmps74; go_wp2; go_ret; exact ⟨by first | rfl | simp_all, rfl⟩)
set_option maxHeartbeats 1000000 in
theorem rightEntry_c (b : Bool) (f : Int) (s : ByteArray) (w : World) (hs : s.size ≤ maxLen) :
   Calls Tryz.prog 75 #[.bool b, .int .u32 f, .string s] w fun e w' => e = .returned (.bool (entF b f s)) ∧ Below w.heap.size w w' := by
 have NC := hid (name_c s w hs)
 unfold entF
 cases b with
 | false =>
   simp only [Bool.false_eq_true, if_false]
   cases e1 : (f == 0) with
   | false =>
     go_enter Tryz.func75, Tryz.ntmps75
     go_wp2
     go_ret
     exact ⟨rfl, Below.refl _ _⟩
   | true =>
     cases e2 : (s.toList == [])
     all_goals
       go_enter Tryz.func75, Tryz.ntmps75
       go_wp2
       go_ret
       exact ⟨by first | rfl | simp_all, Below.refl _ _⟩
 | true =>
   simp only [if_true]
   cases e1 : (f != 0) with
   | false =>
     go_enter Tryz.func75, Tryz.ntmps75
     go_wp2
     go_ret
     exact ⟨rfl, Below.refl _ _⟩
   | true =>
     generalize Pa.nameB s.data.toList = N at *
     go_enter Tryz.func75, Tryz.ntmps75
     go_wp2_with (go_at_call 85; refine NC.out.mono ?_; rintro _ w1 ⟨rfl, hb1⟩)
     go_ret
     exact ⟨rfl, hb1⟩
set_option maxHeartbeats 1000000 in
theorem rightData_c (b : Bool) (s : ByteArray) (w : World) :
   Calls Tryz.prog 76 #[.bool b, .string s] w fun e w' => e = .returned (.bool (datF b s)) ∧ w' = w := by
 unfold datF
 cases b with
 | false =>
   simp only [Bool.false_eq_true, if_false]
   cases e2 : (s.toList == [])
   all_goals
     go_enter Tryz.func76, Tryz.ntmps76
     go_wp2
     go_ret
     exact ⟨by first | rfl | simp_all, rfl⟩
 | true =>
   simp only [if_true]
   by_cases h : s.size ≤ 64
   · have hI : (s.size : Int) ≤ 64 := by omega
     go_enter Tryz.func76, Tryz.ntmps76
     go_wp2
     go_ret
     exact ⟨by simp [h], rfl⟩
   · have hI : ¬ (s.size : Int) ≤ 64 := by omega
     go_enter Tryz.func76, Tryz.ntmps76
     go_wp2
     go_ret
     exact ⟨by simp [h], rfl⟩
theorem parts_cells {w : World} {g : Nat} {k : Int} {t : TypeId} {fr : Nat × Nat} (h : w.heap[g]? = some (.cells #[.bool (pFid k), .bool (pEnt k), .bool (pGoal k), .bool (pMode k), .bool (pData k)] t fr)) : w.cell? ⟨g, 0, none⟩ = some (.bool (pFid k)) ∧ w.cell? ⟨g, 1, none⟩ = some (.bool (pEnt k)) ∧ w.cell? ⟨g, 2, none⟩ = some (.bool (pGoal k)) ∧ w.cell? ⟨g, 3, none⟩ = some (.bool (pMode k)) ∧ w.cell? ⟨g, 4, none⟩ = some (.bool (pData k)) := by
 refine ⟨?_, ?_, ?_, ?_, ?_⟩ <;> (rw [cell_of_row w g _ _ t fr h]; rfl)
theorem op_all {w : World} {g : Nat} {x : Rec} {t : TypeId} {fr : Nat × Nat} (h : w.heap[g]? = some (.cells x.ops.toArray t fr)) : w.cell? ⟨g, 0, none⟩ = some (.int .u8 x.k) ∧ w.cell? ⟨g, 1, none⟩ = some (.int .u32 x.fid) ∧ w.cell? ⟨g, 2, none⟩ = some (.int .u32 x.dir) ∧ w.cell? ⟨g, 3, none⟩ = some (.string x.nm) ∧ w.cell? ⟨g, 4, none⟩ = some (.int .u32 x.to) ∧ w.cell? ⟨g, 5, none⟩ = some (.string x.nm2) ∧ w.cell? ⟨g, 6, none⟩ = some (.int .u16 x.md) ∧ w.cell? ⟨g, 7, none⟩ = some (.string x.dt) := by
 refine ⟨?_, ?_, ?_, ?_, ?_, ?_, ?_, ?_⟩ <;> (rw [cell_of_row w g _ _ t fr h]; rfl)
theorem below_1 (w : World) (o : Obj) : Below w.heap.size w (w.alloc o) := (Below.refl _ _).alloc (Nat.le_refl _) _
set_option maxRecDepth 20000 in
set_option maxHeartbeats 2000000 in
theorem rightOp_c (x : Rec) (w : World) (h3 : x.nm.size ≤ maxLen) (h5 : x.nm2.size ≤ maxLen) :
   Calls Tryz.prog 41 #[x.opV] w fun e w' => e = .returned (.bool (rightF x)) ∧ Below w.heap.size w w' := by
 have hx : (w.alloc (.cells x.ops.toArray 34)).heap[w.heap.size]? = some (.cells x.ops.toArray 34 (0, 0)) := heap_alloc_new w _
 obtain ⟨y0, y1, y2, y3, y4, y5, y6, y7⟩ := op_all hx
 have HX := hid hx
 have B0 := hid (below_1 w (.cells x.ops.toArray 34))
 have PC := hid (partsOf_c x.k (w.alloc (.cells x.ops.toArray 34)))
 have MC := hid (tmakes_c x.k)
 have E1 := hid (fun W => rightEntry_c (pEnt x.k) x.dir x.nm W h3)
 have E2 := hid (fun W => rightEntry_c (pGoal x.k) x.to x.nm2 W h5)
 have DC := hid (rightData_c (pData x.k) x.dt)
 unfold Rec.opV rightF
 unfold partsV at PC
 have PL := hid (fun (W : World) (g : Nat) (h : W.heap[g]? = some (.cells #[.bool (pFid x.k), .bool (pEnt x.k), .bool (pGoal x.k), .bool (pMode x.k), .bool (pData x.k)] 129 (0, 0))) => parts_cells (k := x.k) h)
 clear hx h3 h5
 generalize entF (pEnt x.k) x.dir x.nm = e1 at *
 generalize entF (pGoal x.k) x.to x.nm2 = e2 at *
 generalize datF (pData x.k) x.dt = dd at *
 generalize pFid x.k = pf at *
 generalize pEnt x.k = pe at *
 generalize pGoal x.k = pg at *
 generalize pMode x.k = pm at *
 generalize pData x.k = pd at *
 generalize pOk x.k = ok at *
 generalize mkF x.k = mk at *
 obtain ⟨m0, hm0⟩ : ∃ m0, m0 = (x.md == 0) := ⟨_, rfl⟩
 obtain ⟨f0, hf0⟩ : ∃ f0, f0 = (x.fid != 0) := ⟨_, rfl⟩
 obtain ⟨f1, hf1⟩ : ∃ f1, f1 = (x.fid == 1) := ⟨_, rfl⟩
 rw [← hm0, ← hf0, ← hf1]
 obtain ⟨b2, hb2⟩ : ∃ b2, b2 = (!ok || (pf != f0) || (mk && f1)) := ⟨_, rfl⟩
 rw [← hb2]
 have HB2 := hid hb2
 have g1 := hm0.symm
 have g2 := hf0.symm
 have g3 := hf1.symm
 clear hm0 hf0 hf1 hb2
 go_enter Tryz.func41, Tryz.ntmps41
 go_upto_region 2 with (go_at_call 73; refine PC.out.mono ?_; rintro _ w1 ⟨rfl, hb1⟩; have B1 := hid (B0.out.trans (hb1.mono B0.out.size)); have HX1 := hid ((hb1.block _ (lt_blkR HX.out)).trans HX.out); clear hb1)
 have hp2 := heap_alloc_new w1 (.cells #[.bool pf, .bool pe, .bool pg, .bool pm, .bool pd] 129)
 have HP2 := hid hp2
 have B2 := hid (B1.out.trans ((below_1 w1 (.cells #[.bool pf, .bool pe, .bool pg, .bool pm, .bool pd] 129)).mono B1.out.size))
 have HX2 := hid (((below_1 w1 (.cells #[.bool pf, .bool pe, .bool pg, .bool pm, .bool pd] 129)).block _ (lt_blkR HX1.out)).trans HX1.out)
 obtain ⟨p0, p1, p2, p3, p4⟩ := PL.out _ _ hp2
 obtain ⟨z0, z1, z2, z3, z4, z5, z6, z7⟩ := op_all HX2.out
 clear hp2 y0 y1 y2 y3 y4 y5 y6 y7 PC HX HX1 B0 B1
 generalize w1.alloc (.cells #[.bool pf, .bool pe, .bool pg, .bool pm, .bool pd] 129) = w2 at *
 generalize w1.heap.size = G at *
 go_cut [30] from 11 to 30 (fun s30 wx => s30 = .bool b2 ∧ wx = w2)
 case first =>
   cases ok <;> cases pf <;> cases f0 <;> cases mk <;> cases f1
   all_goals
     go_wp2_with (go_at_call 74; refine (MC.out _).mono ?_; rintro _ _ ⟨rfl, rfl⟩)
     go_meet
     exact ⟨by rw [HB2.out]; rfl, rfl⟩
 case rest =>
   obtain ⟨rfl, rfl⟩ := hcut
   cases b2 with
   | true =>
     go_wp2
     go_ret
     exact ⟨rfl, B2.out⟩
   | false =>
     clear HB2 MC
     cases e1 with
     | false =>
       go_wp2_with (first
         | (go_at_call 76; refine (DC.out _).mono ?_; rintro _ _ ⟨rfl, rfl⟩)
         | (have _t := T1.out; go_at_call 75; refine (E2.out _).mono ?_; rintro _ w4 ⟨rfl, hb4⟩; have B4 := hid (B3.out.trans (hb4.mono B3.out.size)); have HX4 := (hb4.block _ (lt_blkR HX3.out)).trans HX3.out; have HP4 := (hb4.block _ (lt_blkR HP3.out)).trans HP3.out; obtain ⟨c0, c1, c2, c3, c4, c5, c6, c7⟩ := op_all HX4; obtain ⟨d0, d1, d2, d3, d4⟩ := PL.out _ _ HP4; clear hb4 HX4 HP4 T1)
         | (go_at_call 75; refine (E1.out _).mono ?_; rintro _ w3 ⟨rfl, hb3⟩; have B3 := hid (B2.out.trans (hb3.mono B2.out.size)); have HX3 := hid ((hb3.block _ (lt_blkR HX2.out)).trans HX2.out); have HP3 := hid ((hb3.block _ (lt_blkR HP2.out)).trans HP2.out); obtain ⟨a0, a1, a2, a3, a4, a5, a6, a7⟩ := op_all HX3.out; obtain ⟨b0, b1, b2, b3, b4⟩ := PL.out _ _ HP3.out; have T1 := hid True.intro; clear hb3))
       go_ret
       exact ⟨by first | rfl | simp, B3.out⟩
     | true =>
       cases e2 with
       | false =>
         go_wp2_with (first
           | (go_at_call 76; refine (DC.out _).mono ?_; rintro _ _ ⟨rfl, rfl⟩)
           | (have _t := T1.out; go_at_call 75; refine (E2.out _).mono ?_; rintro _ w4 ⟨rfl, hb4⟩; have B4 := hid (B3.out.trans (hb4.mono B3.out.size)); have HX4 := (hb4.block _ (lt_blkR HX3.out)).trans HX3.out; have HP4 := (hb4.block _ (lt_blkR HP3.out)).trans HP3.out; obtain ⟨c0, c1, c2, c3, c4, c5, c6, c7⟩ := op_all HX4; obtain ⟨d0, d1, d2, d3, d4⟩ := PL.out _ _ HP4; clear hb4 HX4 HP4 T1)
           | (go_at_call 75; refine (E1.out _).mono ?_; rintro _ w3 ⟨rfl, hb3⟩; have B3 := hid (B2.out.trans (hb3.mono B2.out.size)); have HX3 := hid ((hb3.block _ (lt_blkR HX2.out)).trans HX2.out); have HP3 := hid ((hb3.block _ (lt_blkR HP2.out)).trans HP2.out); obtain ⟨a0, a1, a2, a3, a4, a5, a6, a7⟩ := op_all HX3.out; obtain ⟨b0, b1, b2, b3, b4⟩ := PL.out _ _ HP3.out; have T1 := hid True.intro; clear hb3))
         go_ret
         exact ⟨by first | rfl | simp, B4.out⟩
       | true =>
         cases pm with
         | true =>
           go_wp2_with (first
             | (go_at_call 76; refine (DC.out _).mono ?_; rintro _ _ ⟨rfl, rfl⟩)
             | (have _t := T1.out; go_at_call 75; refine (E2.out _).mono ?_; rintro _ w4 ⟨rfl, hb4⟩; have B4 := hid (B3.out.trans (hb4.mono B3.out.size)); have HX4 := (hb4.block _ (lt_blkR HX3.out)).trans HX3.out; have HP4 := (hb4.block _ (lt_blkR HP3.out)).trans HP3.out; obtain ⟨c0, c1, c2, c3, c4, c5, c6, c7⟩ := op_all HX4; obtain ⟨d0, d1, d2, d3, d4⟩ := PL.out _ _ HP4; clear hb4 HX4 HP4 T1)
             | (go_at_call 75; refine (E1.out _).mono ?_; rintro _ w3 ⟨rfl, hb3⟩; have B3 := hid (B2.out.trans (hb3.mono B2.out.size)); have HX3 := hid ((hb3.block _ (lt_blkR HX2.out)).trans HX2.out); have HP3 := hid ((hb3.block _ (lt_blkR HP2.out)).trans HP2.out); obtain ⟨a0, a1, a2, a3, a4, a5, a6, a7⟩ := op_all HX3.out; obtain ⟨b0, b1, b2, b3, b4⟩ := PL.out _ _ HP3.out; have T1 := hid True.intro; clear hb3))
           go_ret
           exact ⟨by first | rfl | simp, B4.out⟩
         | false =>
           cases m0 with
           | true =>
             go_wp2_with (first
               | (go_at_call 76; refine (DC.out _).mono ?_; rintro _ _ ⟨rfl, rfl⟩)
               | (have _t := T1.out; go_at_call 75; refine (E2.out _).mono ?_; rintro _ w4 ⟨rfl, hb4⟩; have B4 := hid (B3.out.trans (hb4.mono B3.out.size)); have HX4 := (hb4.block _ (lt_blkR HX3.out)).trans HX3.out; have HP4 := (hb4.block _ (lt_blkR HP3.out)).trans HP3.out; obtain ⟨c0, c1, c2, c3, c4, c5, c6, c7⟩ := op_all HX4; obtain ⟨d0, d1, d2, d3, d4⟩ := PL.out _ _ HP4; clear hb4 HX4 HP4 T1)
               | (go_at_call 75; refine (E1.out _).mono ?_; rintro _ w3 ⟨rfl, hb3⟩; have B3 := hid (B2.out.trans (hb3.mono B2.out.size)); have HX3 := hid ((hb3.block _ (lt_blkR HX2.out)).trans HX2.out); have HP3 := hid ((hb3.block _ (lt_blkR HP2.out)).trans HP2.out); obtain ⟨a0, a1, a2, a3, a4, a5, a6, a7⟩ := op_all HX3.out; obtain ⟨b0, b1, b2, b3, b4⟩ := PL.out _ _ HP3.out; have T1 := hid True.intro; clear hb3))
             go_ret
             exact ⟨by first | rfl | simp, B4.out⟩
           | false =>
             go_wp2_with (first
               | (go_at_call 76; refine (DC.out _).mono ?_; rintro _ _ ⟨rfl, rfl⟩)
               | (have _t := T1.out; go_at_call 75; refine (E2.out _).mono ?_; rintro _ w4 ⟨rfl, hb4⟩; have B4 := hid (B3.out.trans (hb4.mono B3.out.size)); have HX4 := (hb4.block _ (lt_blkR HX3.out)).trans HX3.out; have HP4 := (hb4.block _ (lt_blkR HP3.out)).trans HP3.out; obtain ⟨c0, c1, c2, c3, c4, c5, c6, c7⟩ := op_all HX4; obtain ⟨d0, d1, d2, d3, d4⟩ := PL.out _ _ HP4; clear hb4 HX4 HP4 T1)
               | (go_at_call 75; refine (E1.out _).mono ?_; rintro _ w3 ⟨rfl, hb3⟩; have B3 := hid (B2.out.trans (hb3.mono B2.out.size)); have HX3 := hid ((hb3.block _ (lt_blkR HX2.out)).trans HX2.out); have HP3 := hid ((hb3.block _ (lt_blkR HP2.out)).trans HP2.out); obtain ⟨a0, a1, a2, a3, a4, a5, a6, a7⟩ := op_all HX3.out; obtain ⟨b0, b1, b2, b3, b4⟩ := PL.out _ _ HP3.out; have T1 := hid True.intro; clear hb3))
             go_ret
             exact ⟨by first | rfl | simp, B4.out⟩
end Go.Proofs.YtihgiemgcmpmmaaGreat
