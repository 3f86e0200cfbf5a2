/-
  Plain laws on numbers for the package bits: what Zig, Zag, Pack, Make, Turn, Low come to as arithmetic on integers; no program is named here.
  What each function of the package bits, and of the document's answer for it, returns: one contract a function.
  An operation.
  Plain laws on lists of bytes for the package path: what names, Split and Join come to; no program is named here.
  path.Name, alone.
  Plain laws on packets as bytes: which bytes a packet has, when bytes begin with a right packet's, and that they tell which; no program is named here.
  What each function of the package frame returns that writes a packet, or tells whether it is right: one contract a function.
  Rows of fids; they are sorted (at most twelve).
  Maps by fids: what a look, a store, a deletion is, how many there are.
-/
import Derived.WalkKit
import Derived.ProofKit
import Derived.Test.YtgbdplammniidaaRows
import Derived.OpenShut
import Derived.ShutString
import Derived.WalkSpells
import Derived.WalkLawsBesides
import Derived.Lib.SlBytesConst
import Derived.Deep.QuietTactic
import Derived.BigQuiet
import Derived.Lib.OthersKept
import Derived.Lib.BufferWrite
import Derived.Lib.UnsafeStr
import Derived.Laws.MakeOwn
import Derived.Deep.LoopGhost
import Derived.Lib.Strings
import Derived.Lib.IndexBytes
import Derived.Deep.RegionHeld3
import Derived.Deep.AppendLies
import Derived.Deep.DrawnRows
import Derived.Lib.AppendStr
import Derived.ChangeArms
import Derived.ChangeOld
import Derived.Below
import Derived.Deep.RegionWith
import Derived.Maps.RangeWalk
import Derived.Maps.OwnSet
import Derived.Stop.BytesEq
import Derived.Laws.Rows
import Derived.Deep.MidRow
namespace Go.Proofs.Ytgbdplammniidaa.M
set_option linter.unusedVariables false
open Go.RowKit
theorem wrap_i64 (n : Int) : IntKind.i64.wrap n = wrap64 n := by
 rw [IntKind.wrap_i64]; unfold wrap64; omega
/-! ### Make -/
/-! ### Turn -/
/-! ### Low -/
/-! ### Fold -/
def foldS (s b : Int) : Int := IntKind.u32.wrap (bits .xor .u32 s b * 16777619)
def foldF (l : List Int) : Int := l.foldl foldS 2166136261
/-! ### Both ways -/
end Go.Proofs.Ytgbdplammniidaa.M
namespace Go.Proofs.Ytgbdplammniidaa
open Go.RowKit Go.ChangeShapes Go.WideShapes Go.ChangeAt
set_option linter.unusedVariables false
set_option linter.unusedSimpArgs false
theorem bd_u32 {a : Int} (h : (Lit.int .u32 a).wf = true) : 0 ≤ a ∧ a < 4294967296 := by
 simp [Lit.wf, IntKind.min, IntKind.max, IntKind.signed, IntKind.bits] at h; omega
theorem hid {p : Prop} (h : p) : Hid p := h
def IsB (w : World) (a : Option Addr) (len : Nat) (zs : List Int) : Prop :=
 zs.length = len ∧ len ≤ maxLen ∧ (0 < len → ∃ b off, a = some ⟨b, off, none⟩ ∧ ∀ i, i < len → w.cell? ⟨b, off + i, none⟩ = some (.int .u8 (zs.getD i 0))) ∧ ∀ i, 0 ≤ zs.getD i 0 ∧ zs.getD i 0 ≤ 255
theorem IsB.later {w w' : World} {a : Option Addr} {len : Nat} {zs : List Int} (h : IsB w a len zs) (hb : Below w.heap.size w w') : IsB w' a len zs := by
 obtain ⟨h1, h2, h3, h4⟩ := h
 refine ⟨h1, h2, fun hp => ?_, h4⟩
 obtain ⟨b, off, e, hc⟩ := h3 hp
 exact ⟨b, off, e, fun i hi => cell_later hb (hc i hi)⟩
end Go.Proofs.Ytgbdplammniidaa
namespace Go.Proofs.Ytgbdplammniidaa
structure Rec where
 k : Int
 fid : Int
 dir : Int
 nm : ByteArray
 to : Int
 nm2 : ByteArray
 md : Int
 dt : ByteArray
 sn : Int
end Go.Proofs.Ytgbdplammniidaa
namespace Go.Proofs.Ytgbdplammniidaa.Pa
set_option linter.unusedVariables false
set_option linter.unusedSimpArgs false
open Go.RowKit
def okR (r : Int) : Bool := decide (97 ≤ r ∧ r ≤ 122) || decide (48 ≤ r ∧ r ≤ 57) || decide (r = 46) || decide (r = 45) || decide (r = 95)
def okC (c : UInt8) : Bool := okR (c.toNat : Int)
theorem okR_high (r : Int) (h : 128 ≤ r) : okR r = false := by simp [okR]; omega
def nameB (l : List UInt8) : Bool := decide (1 ≤ l.length) && decide (l.length ≤ 12) && !(l == [46]) && !(l == [46, 46]) && l.all okC
theorem nameB_short (l : List UInt8) (h : l.length < 1) : nameB l = false := by simp [nameB]; omega
theorem nameB_long (l : List UInt8) (h : 12 < l.length) : nameB l = false := by simp [nameB]; omega
theorem nameB_dot : nameB [46] = false := by decide
theorem nameB_dots : nameB [46, 46] = false := by decide
theorem nameB_mid (l : List UInt8) (h1 : 1 ≤ l.length) (h2 : l.length ≤ 12) (h3 : (l == [46]) = false) (h4 : (l == [46, 46]) = false) : nameB l = l.all okC := by
 simp [nameB, h1, h2, h3, h4]
theorem all_take_succ (l : List UInt8) (j : Nat) (h : j < l.length) (ha : (l.take j).all okC = true) (hc : okC l[j] = true) : (l.take (j + 1)).all okC = true := by
 rw [List.take_succ_eq_append_getElem h, List.all_append, ha, List.all_cons, List.all_nil, hc]; rfl
theorem all_bad (l : List UInt8) (j : Nat) (h : j < l.length) (hc : okC l[j] = false) : l.all okC = false := by
 rw [Bool.eq_false_iff]
 intro ha
 rw [List.all_eq_true] at ha
 have := ha l[j] (List.getElem_mem h)
 rw [hc] at this; exact Bool.noConfusion this
/-! ### What stands between the slashes -/
def piecesF : List UInt8 → List (List UInt8)
 | [] => [[]]
 | c :: r => if c = 47 then [] :: piecesF r else (match piecesF r with | p :: ps => (c :: p) :: ps | [] => [[c]])
theorem pieces_none : ∀ (l : List UInt8), 47 ∉ l → piecesF l = [l]
 | [], _ => rfl
 | c :: r, h => by
   have hc : ¬ c = 47 := fun e => h (by rw [e]; exact List.mem_cons_self)
   have hr : 47 ∉ r := fun e => h (List.mem_cons_of_mem _ e)
   simp only [piecesF, if_neg hc, pieces_none r hr]
theorem pieces_cut : ∀ (a b : List UInt8), 47 ∉ a → piecesF (a ++ 47 :: b) = a :: piecesF b
 | [], b, _ => by simp [piecesF]
 | c :: r, b, h => by
   have hc : ¬ c = 47 := fun e => h (by rw [e]; exact List.mem_cons_self)
   have hr : 47 ∉ r := fun e => h (List.mem_cons_of_mem _ e)
   simp only [List.cons_append, piecesF, if_neg hc, pieces_cut r b hr]
theorem pieces_length : ∀ (l : List UInt8), (piecesF l).length ≤ l.length + 1
 | [] => by simp [piecesF]
 | c :: r => by
   have := pieces_length r
   unfold piecesF
   split
   · simp; omega
   · split
     · rename_i p ps h; rw [h] at this; simp at this ⊢; omega
     · simp
theorem pieces_mem : ∀ (l p : List UInt8), p ∈ piecesF l → p.length ≤ l.length
 | [], p, h => by simp [piecesF] at h; simp [h]
 | c :: r, p, h => by
   unfold piecesF at h
   split at h
   · rcases List.mem_cons.1 h with rfl | h
     · simp
     · have := pieces_mem r p h; simp; omega
   · have ih := pieces_mem r
     split at h
     · rename_i q qs hq
       rw [hq] at ih
       rcases List.mem_cons.1 h with rfl | h
       · have := ih q List.mem_cons_self; simp; omega
       · have := ih p (List.mem_cons_of_mem _ h); simp; omega
     · simp at h; simp [h]
def Found (l : List UInt8) (start j : Nat) (done : List (List UInt8)) : Prop :=
 start ≤ j ∧ done ++ piecesF (l.drop start) = piecesF l ∧ 47 ∉ (l.drop start).take (j - start)
theorem found_zero (l : List UInt8) : Found l 0 0 [] := ⟨Nat.le_refl _, by simp, by simp⟩
theorem found_on {l : List UInt8} {start j : Nat} {done : List (List UInt8)} (h : Found l start j done) (n : Nat) (hn : ∀ k, j ≤ k → k < n → ∀ hk : k < l.length, l[k] ≠ 47) (hjn : j ≤ n) : Found l start n done := by
 obtain ⟨h1, h2, h3⟩ := h
 refine ⟨by omega, h2, fun hm => ?_⟩
 obtain ⟨i, hi, he⟩ := List.getElem_of_mem hm
 rw [List.length_take, List.length_drop] at hi
 rw [List.getElem_take, List.getElem_drop] at he
 by_cases hlt : start + i < j
 · apply h3
   rw [List.mem_take_iff_getElem]
   exact ⟨i, by rw [List.length_drop]; omega, by rw [List.getElem_drop]; exact he⟩
 · exact hn (start + i) (by omega) (by omega) (by omega) he
theorem found_cut {l : List UInt8} {start j : Nat} {done : List (List UInt8)} (h : Found l start j done) (hj : j < l.length) (hc : l[j] = 47) : Found l (j + 1) (j + 1) (done ++ [(l.drop start).take (j - start)]) := by
 obtain ⟨h1, h2, h3⟩ := h
 refine ⟨Nat.le_refl _, ?_, by simp⟩
 have e : l.drop start = (l.drop start).take (j - start) ++ 47 :: l.drop (j + 1) := by
   have e1 := (List.take_append_drop (j - start) (l.drop start)).symm
   rw [List.drop_drop, show start + (j - start) = j from by omega, List.drop_eq_getElem_cons hj, hc] at e1
   exact e1
 rw [List.append_assoc, List.singleton_append, ← pieces_cut _ _ h3, ← e, h2]
theorem found_end {l : List UInt8} {start j : Nat} {done : List (List UInt8)} (h : Found l start j done) (hj : l.length ≤ j) : piecesF l = done ++ [l.drop start] := by
 obtain ⟨h1, h2, h3⟩ := h
 rw [List.take_of_length_le (by rw [List.length_drop]; omega)] at h3
 rw [← h2, pieces_none _ h3]
theorem found_length {l : List UInt8} {start j : Nat} {done : List (List UInt8)} (h : Found l start j done) : done.length ≤ l.length := by
 obtain ⟨h1, h2, h3⟩ := h
 have h4 := pieces_length l
 rw [← h2, List.length_append] at h4
 have h5 : 1 ≤ (piecesF (l.drop start)).length := by
   cases l.drop start with
   | nil => simp [piecesF]
   | cons c r => unfold piecesF; split <;> (try split) <;> simp
 omega
theorem decode_skip (s : ByteArray) (pos : Nat) (h : pos < s.size) (ha : 128 ≤ (s[pos]'h).toNat) : ∀ k, k < (Utf8.decode s pos).2 → pos + k < s.size ∧ 128 ≤ (s.get! (pos + k)).toNat := by
 have hn : ¬ (s[pos]'h).toNat < 128 := by omega
 have h0 : pos + 0 < s.size ∧ 128 ≤ (s.get! (pos + 0)).toNat := ⟨by omega, by rw [get_at s pos h]; exact ha⟩
 have hcont : ∀ k, ((decide (pos + k < s.size) && (s.get! (pos + k)).toNat / 64 == 2) = true) → pos + k < s.size ∧ 128 ≤ (s.get! (pos + k)).toNat := by
   intro k hk
   simp at hk
   omega
 intro k hk
 simp only [Utf8.decode, get_at s pos h, hn, if_false] at hk
 have one : ∀ k, k < 1 → pos + k < s.size ∧ 128 ≤ (s.get! (pos + k)).toNat := fun k hk => by
   obtain rfl : k = 0 := by omega
   exact h0
 split at hk
 · rename_i h2
   rw [Bool.and_eq_true] at h2
   have c1 := hcont 1 h2.2
   split at hk
   · rcases k with _ | _ | k
     · exact h0
     · exact c1
     · exact absurd hk (by simp)
   · exact one k hk
 · split at hk
   · rename_i h2
     rw [Bool.and_eq_true, Bool.and_eq_true] at h2
     have c1 := hcont 1 h2.1.2
     have c2 := hcont 2 h2.2
     split at hk
     · rcases k with _ | _ | _ | k
       · exact h0
       · exact c1
       · exact c2
       · exact absurd hk (by simp)
     · exact one k hk
   · split at hk
     · rename_i h2
       rw [Bool.and_eq_true, Bool.and_eq_true, Bool.and_eq_true] at h2
       have c1 := hcont 1 h2.1.1.2
       have c2 := hcont 2 h2.1.2
       have c3 := hcont 3 h2.2
       split at hk
       · rcases k with _ | _ | _ | _ | k
         · exact h0
         · exact c1
         · exact c2
         · exact c3
         · exact absurd hk (by simp)
       · exact one k hk
     · exact one k hk
/-! ### Split -/
def stepN (acc : List (List UInt8)) (p : List UInt8) : Option (List (List UInt8)) :=
 if p = [] ∨ p = [46] then some acc else if p = [46, 46] then some acc.dropLast else if nameB p = true then some (acc ++ [p]) else none
def splitN : List (List UInt8) → List (List UInt8) → Option (List (List UInt8))
 | acc, [] => some acc
 | acc, p :: ps => (stepN acc p).bind fun a => splitN a ps
def splitF (l : List UInt8) : Option (List (List UInt8)) :=
 if l.length ≤ 120 ∧ l.head? = some 47 then splitN [] (piecesF l) else none
theorem splitN_at (acc P : List (List UInt8)) (k : Nat) (h : k < P.length) : splitN acc (P.drop k) = (stepN acc P[k]).bind fun a => splitN a (P.drop (k + 1)) := by
 rw [List.drop_eq_getElem_cons h]; rfl
theorem step_empty (acc : List (List UInt8)) : stepN acc [] = some acc := by simp [stepN]
theorem step_dot (acc : List (List UInt8)) : stepN acc [46] = some acc := by simp [stepN]
theorem step_dots (acc : List (List UInt8)) : stepN acc [46, 46] = some acc.dropLast := by simp [stepN]
theorem step_name (acc : List (List UInt8)) (p : List UInt8) (h : nameB p = true) : stepN acc p = some (acc ++ [p]) := by
 have h0 : p ≠ [] := fun e => by rw [e] at h; exact absurd h (by decide)
 have h1 : p ≠ [46] := fun e => by rw [e] at h; exact absurd h (by decide)
 have h2 : p ≠ [46, 46] := fun e => by rw [e] at h; exact absurd h (by decide)
 simp [stepN, h0, h1, h2, h]
theorem step_bad (acc : List (List UInt8)) (p : List UInt8) (h0 : p ≠ []) (h1 : p ≠ [46]) (h2 : p ≠ [46, 46]) (h : nameB p = false) : stepN acc p = none := by
 simp [stepN, h0, h1, h2, h]
theorem name_len (p : List UInt8) (h : nameB p = true) : 1 ≤ p.length ∧ p.length ≤ 12 := by
 simp [nameB] at h
 omega
/-! ### Join -/
/-! ### What Split answers are names -/
/-! ### Below -/
/-! ### Join and Split, both ways -/
/-! ### Down and up -/
/-! ### A name with one more letter -/
end Go.Proofs.Ytgbdplammniidaa.Pa
namespace Go.Proofs.Ytgbdplammniidaa
open Go.RowKit Go.ChangeShapes Go.WideShapes Go.ChangeAt
set_option linter.unusedVariables false
set_option linter.unusedSimpArgs false
theorem ret_bool' {a b : Bool} (h : a = b) : Ending.returned (.bool a) = .returned (.bool b) := by rw [h]
theorem hid' {p : Prop} (h : p) : Hid p := h
set_option maxHeartbeats 1000000 in
theorem inName_c (r : Int) (w : World) :
   Calls Try.prog 50 #[.int .i32 r] w fun e w' => e = .returned (.bool (Pa.okR r)) ∧ w' = w := by
 go_enter Try.func50, Try.ntmps50
 go_wp2
 all_goals go_ret
 all_goals exact ⟨ret_bool' (by first | rfl | (rw [Bool.eq_iff_iff]; simp [Pa.okR]; done) | (rw [Bool.eq_iff_iff]; simp [Pa.okR]; omega)), rfl⟩
set_option maxHeartbeats 1000000 in
theorem name_c (s : ByteArray) (w : World) (hs : s.size ≤ maxLen) :
   Calls Try.prog 27 #[.string s] w fun e w' => e = .returned (.bool (Pa.nameB s.data.toList)) ∧ Below w.heap.size w w' := by
 have hlen : s.data.toList.length = s.size := rfl
 unfold maxLen at hs
 by_cases h1 : s.size < 1
 · have N := hid' (Pa.nameB_short s.data.toList (by omega))
   go_enter Try.func27, Try.ntmps27
   go_wp2
   go_ret
   exact ⟨ret_bool' N.out.symm, Below.refl _ _⟩
 · by_cases h2 : 12 < s.size
   · have N := hid' (Pa.nameB_long s.data.toList (by omega))
     go_enter Try.func27, Try.ntmps27
     go_wp2
     go_ret
     exact ⟨ret_bool' N.out.symm, Below.refl _ _⟩
   · cases h3 : (s.toList == [46]) with
     | true =>
       have N : Hid (Pa.nameB s.data.toList = false) := by
         have : s.data.toList = [46] := by rw [← Lib.toList_data]; exact beq_iff_eq.1 h3
         show _ = _
         rw [this]; exact Pa.nameB_dot
       go_enter Try.func27, Try.ntmps27
       go_wp2
       go_ret
       exact ⟨ret_bool' N.out.symm, Below.refl _ _⟩
     | false =>
       cases h4 : (s.toList == [46, 46]) with
       | true =>
         have N : Hid (Pa.nameB s.data.toList = false) := by
           have : s.data.toList = [46, 46] := by rw [← Lib.toList_data]; exact beq_iff_eq.1 h4
           show _ = _
           rw [this]; exact Pa.nameB_dots
         go_enter Try.func27, Try.ntmps27
         go_wp2
         go_ret
         exact ⟨ret_bool' N.out.symm, Below.refl _ _⟩
       | false =>
         have N : Hid (Pa.nameB s.data.toList = s.data.toList.all Pa.okC) := Pa.nameB_mid _ (by omega) (by omega) (by rw [← Lib.toList_data]; exact h3) (by rw [← Lib.toList_data]; exact h4)
         have g1 : decide ((s.size : Int) < 1) = false := by simp; omega
         have g2 : decide ((12 : Int) < (s.size : Int)) = false := by simp; omega
         have HL := hid' hlen
         clear hlen
         go_enter Try.func27, Try.ntmps27
         go_wp2
         go_loopw [4] (fun r wr => ∃ j : Nat, wr = w.iter s j ∧ j ≤ s.size ∧ Hid ((s.data.toList.take j).all Pa.okC = true)) (fun _ wr => s.size - wr.iterPos w.heap.size)
         case atStart => exact ⟨0, rfl, by omega, by simp [Hid]⟩
         case round =>
           obtain ⟨j, rfl, hj, HA⟩ := hrel
           have hpos := World.iterPos_iter w s j
           by_cases hp : j < s.size
           · by_cases ha : (s[j]'hp).toNat < 128
             · have hnx := fun ty => run_next_ascii (P := Try.prog) w s j ty hp ha
               cases hc : Pa.okR ((s[j]'hp).toNat : Int) with
               | true =>
                 have HB : Hid ((s.data.toList.take (j + 1)).all Pa.okC = true) := Pa.all_take_succ s.data.toList j (by have := HL.out; omega) HA.out (by unfold Pa.okC; exact hc)
                 go_wp2_with (go_at_call 50; refine (inName_c _ _).mono ?_; rintro e w' ⟨rfl, rfl⟩)
                 go_roundw
                 case rel => exact ⟨j + 1, rfl, by omega, HB⟩
                 case measure => rw [World.iterPos_iter, World.iterPos_iter]; omega
               | false =>
                 have HB : Hid (s.data.toList.all Pa.okC = false) := Pa.all_bad s.data.toList j (by have := HL.out; omega) (by unfold Pa.okC; exact hc)
                 go_wp2_with (go_at_call 50; refine (inName_c _ _).mono ?_; rintro e w' ⟨rfl, rfl⟩)
                 go_ret
                 exact ⟨ret_bool' (by rw [N.out, HB.out]), (Below.refl _ _).alloc (Nat.le_refl _) _⟩
             · have hnx := fun ty => run_next_any (P := Try.prog) w s j ty hp
               have hd := decode_high s j hp (by omega)
               have hc : Pa.okR ((Utf8.decode s j).1 : Int) = false := Pa.okR_high _ (by omega)
               have HB : Hid (s.data.toList.all Pa.okC = false) := Pa.all_bad s.data.toList j (by have := HL.out; omega) (by unfold Pa.okC; exact Pa.okR_high _ (by have h' : (s.data.toList[j]'(by have := HL.out; omega)) = s[j]'hp := rfl; rw [h']; omega))
               go_wp2_with (go_at_call 50; refine (inName_c _ _).mono ?_; rintro e w' ⟨rfl, rfl⟩)
               go_ret
               exact ⟨ret_bool' (by rw [N.out, HB.out]), (Below.refl _ _).alloc (Nat.le_refl _) _⟩
           · have hnx := fun ty => run_next_end (P := Try.prog) w s j ty hp
             go_wp2
             go_ret
             exact ⟨ret_bool' (by rw [N.out]; have := HA.out; rw [List.take_of_length_le (by have := HL.out; omega)] at this; exact this.symm), (Below.refl _ _).alloc (Nat.le_refl _) _⟩
end Go.Proofs.Ytgbdplammniidaa
namespace Go.Proofs.Ytgbdplammniidaa.Fr
set_option linter.unusedVariables false
open Go.RowKit
def bs (b : ByteArray) : List Int := b.data.toList.map fun c => (c.toNat : Int)
def le4 (n : Int) : List Int := [n % 256, n / 256 % 256, n / 65536 % 256, n / 16777216 % 256]
def le2 (n : Int) : List Int := [n % 256, n / 256 % 256]
structure Pk where
 k : Int
 f : Int
 t : Int
 e : Int
 s : Int
 b : ByteArray
def val (p : Pk) : Value := .agg #[.int .u8 p.k, .int .u8 p.f, .int .u8 p.t, .int .u32 p.e, .int .u32 p.s, .string p.b]
def Wf (p : Pk) : Prop := (0 ≤ p.k ∧ p.k < 256) ∧ (0 ≤ p.f ∧ p.f < 256) ∧ (0 ≤ p.t ∧ p.t < 256) ∧ (0 ≤ p.e ∧ p.e < 4294967296) ∧ (0 ≤ p.s ∧ p.s < 4294967296)
def head (p : Pk) : List Int := 66 :: 87 :: p.k :: p.f :: p.t :: (le4 p.e ++ le4 p.s ++ le2 p.b.size ++ bs p.b)
def enc (p : Pk) : List Int := head p ++ le4 (M.foldF (head p))
end Go.Proofs.Ytgbdplammniidaa.Fr
namespace Go.Proofs.Ytgbdplammniidaa
open Go.RowKit Go.ChangeShapes Go.WideShapes Go.ChangeAt
set_option linter.unusedVariables false
set_option linter.unusedSimpArgs false
theorem info_parts8 : ∃ i : TypeInfo, Try.prog.info? 5 = some i ∧ i.zero = some (.int .u8 0) ∧ i.size = 1 ∧ i.bytes = 1 := by
 have h : (Try.prog.info? 5).map (fun i => (i.zero, i.size, i.bytes)) = some (some (.int .u8 0), 1, 1) := by kernel_rfl
 cases hi : Try.prog.info? 5 with
 | none => rw [hi] at h; cases h
 | some i =>
   rw [hi] at h
   simp at h
   exact ⟨i, rfl, h.1, h.2.1, h.2.2⟩
def u8V (x : Int) : Value := .int .u8 x
theorem cell_box {w : World} {g : Nat} {v : Value} {T : TypeId} (h : w.heap[g]? = some (.cells #[v] T (0, 0))) : w.cell? ⟨g, 0, none⟩ = some v := by
 rw [cell_of_row w g 0 #[v] T (0, 0) h]; rfl
theorem frozen_box {w : World} {g : Nat} {v : Value} {T : TypeId} (h : w.heap[g]? = some (.cells #[v] T (0, 0))) : w.frozen? ⟨g, 0, none⟩ = false := by
 simp [World.frozen?, h]
theorem heap_setBox {W : World} {B : Nat} {v : Value} {t : TypeId} (v' : Value) (h : W.heap[B]? = some (.cells #[v] t (0, 0))) : (W.setCell ⟨B, 0, none⟩ v').heap[B]? = some (.cells #[v'] t (0, 0)) := by
 rw [heap_setCell_same W B 0 #[v] t v' h]; rfl
theorem body_end {P : Program} {fn : Func} {R : Ending → World → Prop} {a : Act} {w : World} (hr : fn.results = #[]) (hd : a.defers = []) (hR : R (.returned (.tuple #[])) w) : bodyPost P fn R .normal a w :=
 bodyPost_end (v := .tuple #[]) (by simp [results, hr, go_sem]) hd hR
end Go.Proofs.Ytgbdplammniidaa
namespace Go.Proofs.Ytgbdplammniidaa
open Go.RowKit Go.ChangeShapes Go.WideShapes Go.ChangeAt
set_option linter.unusedVariables false
set_option linter.unusedSimpArgs false
set_option maxRecDepth 100000
structure Ou (S : Nat → Prop) (w w' : World) : Prop where
 os : w'.os = w.os
 tape : w'.tape = w.tape
 output : w'.output = w.output
 size : w.heap.size ≤ w'.heap.size
 block : ∀ k, k < w.heap.size → ¬ S k → w'.heap[k]? = w.heap[k]?
theorem Ou.refl (S : Nat → Prop) (w : World) : Ou S w w := ⟨rfl, rfl, rfl, Nat.le_refl _, fun _ _ _ => rfl⟩
theorem Ou.trans {S : Nat → Prop} {a b c : World} (h : Ou S a b) (k : Ou S b c) : Ou S a c :=
 ⟨k.os.trans h.os, k.tape.trans h.tape, k.output.trans h.output, Nat.le_trans h.size k.size, fun i hi hS => (k.block i (Nat.lt_of_lt_of_le hi h.size) hS).trans (h.block i hi hS)⟩
theorem Ou.mono {S T : Nat → Prop} {a b : World} (h : Ou S a b) (k : ∀ i, S i → T i) : Ou T a b := ⟨h.os, h.tape, h.output, h.size, fun i hi hS => h.block i hi fun e => hS (k i e)⟩
theorem Ou.of {S : Nat → Prop} {w w' : World} (h : Below w.heap.size w w') : Ou S w w' := ⟨h.os, h.tape, h.output, h.size, fun i hi _ => h.block i hi⟩
theorem Ou.below {S : Nat → Prop} {w w' : World} {B : Nat} (h : Ou S w w') (hB : B ≤ w.heap.size) (hS : ∀ k, S k → B ≤ k) : Below B w w' :=
 ⟨h.os, h.tape, h.output, h.size, fun i hi => h.block i (by omega) (fun e => by have := hS i e; omega)⟩
theorem Ou.alloc {S : Nat → Prop} {a w : World} (h : Ou S a w) (o : Obj) : Ou S a (w.alloc o) :=
 h.trans (Ou.of ((Below.refl _ _).alloc (Nat.le_refl _) o))
theorem Ou.drew {S : Nat → Prop} {a w : World} (h : Ou S a w) : Ou S a w.drew := ⟨h.os, h.tape, h.output, h.size, h.block⟩
theorem Ou.set {S : Nat → Prop} {a w : World} (h : Ou S a w) {g o : Nat} {v : Value} (hS : S g) : Ou S a (w.setCell ⟨g, o, none⟩ v) :=
 h.trans ⟨rfl, rfl, rfl, by simp [World.setCell], fun k hk hn => heap_setCell_other _ _ _ _ (fun e => hn (e ▸ hS))⟩
theorem lt_blkC {w : World} {g : Nat} {o : Obj} (h : w.heap[g]? = some o) : g < w.heap.size := by
 have := (Array.getElem?_eq_some_iff.1 h).1; exact this
theorem body_endF {P : Program} {fn : Func} {R : Ending → World → Prop} {a : Act} {w : World} (hr : fn.results = #[]) (hd : a.defers = []) (hR : R (.returned (.tuple #[])) w) : bodyPost P fn R .normal a w :=
 bodyPost_end (v := .tuple #[]) (by simp [results, hr, go_sem]) hd hR
def FidsAt (w : World) (g n : Nat) (f : Nat → Int) : Prop := ∃ cs : Array Value, w.heap[g]? = some (.cells cs 25 (0, 0)) ∧ n ≤ cs.size ∧ ∀ j, j < n → cs[j]? = some (.int .u32 (f j))
theorem FidsAt.out {S : Nat → Prop} {w w' : World} {g n : Nat} {f : Nat → Int} (h : FidsAt w g n f) (ho : Ou S w w') (hg : ¬ S g) : FidsAt w' g n f := by
 obtain ⟨cs, h1, h2, h3⟩ := h
 exact ⟨cs, by rw [ho.block g (lt_blkC h1) hg]; exact h1, h2, h3⟩
theorem FidsAt.lt {w : World} {g n : Nat} {f : Nat → Int} (h : FidsAt w g n f) : g < w.heap.size := by obtain ⟨cs, h1, _⟩ := h; exact lt_blkC h1
theorem FidsAt.cell {w : World} {g n : Nat} {f : Nat → Int} (h : FidsAt w g n f) {j : Nat} (hj : j < n) : w.cell? ⟨g, j, none⟩ = some (.int .u32 (f j)) ∧ w.frozen? ⟨g, j, none⟩ = false := by
 obtain ⟨cs, h1, h2, h3⟩ := h
 constructor
 · have := h3 j hj
   simp [World.cell?, h1, this]
 · simp [World.frozen?, h1]
theorem FidsAt.set {w : World} {g n : Nat} {f : Nat → Int} (h : FidsAt w g n f) {j : Nat} (hj : j < n) (x : Int) : FidsAt (w.setCell ⟨g, j, none⟩ (.int .u32 x)) g n (fun k => if k = j then x else f k) := by
 obtain ⟨cs, h1, h2, h3⟩ := h
 refine ⟨cs.setIfInBounds j (.int .u32 x), ?_, by simp [h2], fun k hk => ?_⟩
 · simp only [World.setCell]
   rw [Array.getElem?_modify, if_pos rfl, h1]
   rfl
 · by_cases e : k = j
   · subst e; simp [Nat.lt_of_lt_of_le hk h2]
   · rw [Array.getElem?_setIfInBounds_ne (by omega), h3 k hk]; simp [e]
theorem FidsAt.drew {w : World} {g n : Nat} {f : Nat → Int} (h : FidsAt w g n f) : FidsAt w.drew g n f := h
theorem heap_drewN (w : World) (k : Nat) : (w.drewN k).heap = w.heap := rfl
theorem FidsAt.drewN {w : World} {g n : Nat} {f : Nat → Int} (h : FidsAt w g n f) (k : Nat) : FidsAt (w.drewN k) g n f := by
 unfold FidsAt at *; rw [heap_drewN]; exact h
theorem Ou.drewN {S : Nat → Prop} {a w : World} (h : Ou S a w) (k : Nat) : Ou S a (w.drewN k) := ⟨h.os, h.tape, h.output, h.size, h.block⟩
theorem FidsAt.ext {w : World} {g n : Nat} {f f' : Nat → Int} (h : FidsAt w g n f) (e : ∀ j, j < n → f' j = f j) : FidsAt w g n f' := by
 obtain ⟨cs, h1, h2, h3⟩ := h
 exact ⟨cs, h1, h2, fun j hj => by rw [h3 j hj, e j hj]⟩
def SameF (n : Nat) (f g : Nat → Int) : Prop := (∀ x, (∃ k, k < n ∧ f k = x) ↔ ∃ k, k < n ∧ g k = x) ∧ ∀ a b, a < n → b < n → g a = g b → a = b
def UpF (n : Nat) (f : Nat → Int) : Prop := ∀ a b, a < b → b < n → f a ≤ f b
set_option maxHeartbeats 400000 in
theorem nanF_c (a : Int) (w : World) : Calls Try.prog 95 #[.int .u32 a] w fun e w' => e = .returned (.bool false) ∧ w' = w := by
 have hb : (a != a) = false := by simp
 go_enter Try.func95, Try.ntmps95
 go_wp2
 go_ret
 exact ⟨rfl, rfl⟩
set_option maxHeartbeats 400000 in
theorem lessF_c (a b : Int) (w : World) : Calls Try.prog 82 #[.int .u32 a, .int .u32 b] w fun e w' => e = .returned (.bool (decide (a < b))) ∧ w' = w := by
 go_enter Try.func82, Try.ntmps82
 go_wp2_with (go_at_call 95; refine (nanF_c _ _).mono ?_; rintro _ w1 ⟨rfl, h1⟩; rw [h1])
 go_ret
 exact ⟨rfl, rfl⟩
set_option maxHeartbeats 1000000 in
theorem len64_c (n : Nat) (hn : n ≤ 12) (w : World) : Calls Try.prog 86 #[.int .u64 n] w fun e w' => (∃ v : Int, e = .returned (.int .i64 v)) ∧ w' = w := by
 have h1 : ¬ (4294967296 : Int) ≤ (n : Int) := by omega
 have h2 : ¬ (65536 : Int) ≤ (n : Int) := by omega
 have h3 : ¬ (256 : Int) ≤ (n : Int) := by omega
 have h4 : (n : Int) < 256 := by omega
 obtain h | h | h | h | h | h | h | h | h | h | h | h | h : n = 0 ∨ n = 1 ∨ n = 2 ∨ n = 3 ∨ n = 4 ∨ n = 5 ∨ n = 6 ∨ n = 7 ∨ n = 8 ∨ n = 9 ∨ n = 10 ∨ n = 11 ∨ n = 12 := by omega
 all_goals (
   subst h
   clear h1 h2 h3 h4
   go_enter Try.func86, Try.ntmps86
   go_wp2
   go_ret
   exact ⟨⟨_, rfl⟩, rfl⟩)
set_option maxHeartbeats 1000000 in
theorem len_c (n : Nat) (hn : n ≤ 12) (w : World) : Calls Try.prog 68 #[.int .u64 n] w fun e w' => (∃ v : Int, e = .returned (.int .i64 v)) ∧ w' = w := by
 go_enter Try.func68, Try.ntmps68
 go_wp2_with (go_at_call 86; refine (len64_c n hn _).mono ?_; rintro _ w1 ⟨⟨v, rfl⟩, h1⟩; rw [h1])
 go_ret
 exact ⟨⟨_, rfl⟩, rfl⟩
def SortedTo (w : World) (g n : Nat) (f0 : Nat → Int) (e : Ending) (w' : World) : Prop := e = .returned (.tuple #[]) ∧ ∃ f, FidsAt w' g n f ∧ SameF n f0 f ∧ UpF n f ∧ Ou (fun k => k = g) w w'
set_option maxHeartbeats 1000000 in
theorem insertF_nil (a : Option Addr) (cap : Nat) (w : World) : Calls Try.prog 76 #[.slice a 0 cap, .int .i64 0, .int .i64 0] w fun e w' => e = .returned (.tuple #[]) ∧ w' = w := by
 go_enter Try.func76, Try.ntmps76
 go_wp2
 refine wp_loop_rounds 1 ?_
 rw [rounds_succ]
 go_wp2
 exact body_endF (by kernel_rfl) rfl ⟨rfl, rfl⟩
set_option maxHeartbeats 1000000 in
theorem pdqF_nil (a : Option Addr) (cap : Nat) (v : Int) (w : World) : Calls Try.prog 67 #[.slice a 0 cap, .int .i64 0, .int .i64 0, .int .i64 v] w fun e w' => e = .returned (.tuple #[]) ∧ w' = w := by
 go_enter Try.func67, Try.ntmps67
 go_wp2
 refine wp_loop_rounds 1 ?_
 rw [rounds_succ]
 go_wp2_with (go_at_call 76; refine (insertF_nil a cap w).mono ?_; rintro _ w1 ⟨rfl, hr⟩)
 exact bodyPost_ret (v := .tuple #[]) (by simp [results, Try.results67, go_sem]) rfl ⟨rfl, by first | exact hr | rfl⟩
set_option maxHeartbeats 1000000 in
theorem sortF_nil (a : Option Addr) (cap : Nat) (w : World) : Calls Try.prog 47 #[.slice a 0 cap] w fun e w' => e = .returned (.tuple #[]) ∧ w' = w := by
 have LC : Hid (∀ W, Calls Try.prog 68 #[.int .u64 0] W fun e w' => (∃ v : Int, e = .returned (.int .i64 v)) ∧ w' = W) := hid (fun W => len_c 0 (by omega) W)
 go_enter Try.func47, Try.ntmps47
 go_wp2_with (first
   | (go_at_call 68; refine (LC.out _).mono ?_; rintro _ w1 ⟨⟨v, rfl⟩, h1⟩; rw [h1])
   | (go_at_call 67; refine (pdqF_nil a cap _ w).mono ?_; rintro _ w2 ⟨rfl, hr⟩))
 exact body_endF (by kernel_rfl) rfl ⟨rfl, by first | exact hr | rfl⟩
end Go.Proofs.Ytgbdplammniidaa
namespace Go.Proofs.Ytgbdplammniidaa
open Go.RowKit Go.ChangeShapes Go.WideShapes Go.ChangeAt Go.Maps
set_option linter.unusedVariables false
set_option linter.unusedSimpArgs false
set_option maxRecDepth 100000
structure Enc (α : Type) where
 enc : α → Value
 rd : Value → Option (DataW α × List MemPlace)
 wr : ∀ a, rd (enc a) = some (.held a, [])
 inv : ∀ {v z}, rd v = some z → ∃ a, v = enc a ∧ z = (.held a, [])
def numR : Value → Option (DataW Int × List MemPlace)
 | .int .i64 x => some (.held x, [])
 | _ => none
def numE : Enc Int := ⟨fun x => .int .i64 x, numR, fun _ => rfl, fun {v z} h => by
 unfold numR at h
 split at h
 · cases h; exact ⟨_, rfl, rfl⟩
 · cases h⟩
theorem lawF : Keyed Try.prog 25 := int_keyed Try.underlying25
def kyF (i : Int) : Lit := .int .u32 i
theorem kyF_ne {i j : Int} (h : j ≠ i) : kyF j ≠ kyF i := fun e => h (by unfold kyF at e; cases e; rfl)
theorem keyF {i : Int} (h0 : 0 ≤ i) (h1 : i < 4294967296) : keyOf Try.prog 25 (.int .u32 i) = some (kyF i) :=
 keyOf_int_mk Try.underlying25 (by simp [Lit.wf, IntKind.min, IntKind.max, IntKind.signed, IntKind.bits]; omega)
theorem same_kyF {i j : Int} : (kyF i).sameKey (kyF j) = decide (i = j) := by simp [kyF, Lit.sameKey]
theorem keyLitF (i : Int) : WideAt.IsKeyLit (kyF i) := by unfold kyF; trivial
section
variable {α : Type}
def lookF (D : DataW α) (i : Int) : Option α :=
 if Maps.has D (kyF i) = true then (match D.atKey (kyF i) .nil with | .held s => some s | _ => none) else none
def updF (f : Int → Option α) (i : Int) (v : Option α) : Int → Option α := fun j => if j = i then v else f j
theorem entriesF (E : Enc α) {w : World} {b n : Nat} {D : DataW α} (h : w.ownsMap Try.prog 25 E.rd b n D) :
   ∃ es, D = .map es ∧ es.Pairwise (fun p q => p.1 ≠ q.1) ∧ (∀ p ∈ es, ∃ i s, p = (kyF i, .held s) ∧ 0 ≤ i ∧ i < 4294967296) := by
 obtain ⟨es0, e0, hpw, _⟩ := h.entries lawF
 refine ⟨es0, e0, hpw, ?_⟩
 obtain ⟨es, clock, hb, F, hs, hD⟩ := h
 rw [e0] at hD
 cases hD
 intro p hp
 rw [mem_sorted, List.mem_map] at hp
 obtain ⟨x, hx, rfl⟩ := hp
 obtain ⟨y, hy⟩ := F.reads x hx
 rw [WideElems.rg_of hy]
 have k1 := WideElems.rd_key hy
 obtain ⟨z, hz, e2⟩ := WideElems.rd_val hy
 obtain ⟨i, _, e3, hw⟩ := Maps.keyOf_int_inv Try.underlying25 k1
 obtain ⟨s, h2, h3⟩ := E.inv hz
 refine ⟨i, s, ?_, ?_⟩
 · obtain ⟨y1, y2⟩ := y
   simp only at e2 e3
   rw [e3, e2, h3]
   rfl
 · have := bd_u32 hw
   omega
theorem findF : ∀ {es : List (Lit × DataW α)}, es.Pairwise (fun p q => p.1 ≠ q.1) → ∀ {i : Int} {s : α}, (kyF i, DataW.held s) ∈ es → es.find? (fun p => p.1.sameKey (kyF i)) = some (kyF i, DataW.held s)
 | [], _, i, s, hm => by cases hm
 | x :: l, hp, i, s, hm => by
   rw [List.pairwise_cons] at hp
   rcases List.mem_cons.1 hm with rfl | hm'
   · simp [List.find?_cons, same_kyF]
   · have hne : x.1 ≠ kyF i := hp.1 _ hm'
     rw [List.find?_cons, Maps.sameKey_ne hne]
     exact findF hp.2 hm'
theorem has_memF {es : List (Lit × DataW α)} {i : Int} {s : α} (hm : (kyF i, DataW.held s) ∈ es) : Maps.has (.map es) (kyF i) = true := by
 rw [Maps.has_eq, List.any_eq_true]; exact ⟨_, hm, by simp [same_kyF]⟩
theorem at_memF {es : List (Lit × DataW α)} (hp : es.Pairwise (fun p q => p.1 ≠ q.1)) {i : Int} {s : α} (hm : (kyF i, DataW.held s) ∈ es) (z : DataW α) : DataW.atKey (.map es) (kyF i) z = .held s := by
 simp [DataW.atKey, findF hp hm]
theorem look_memF {es : List (Lit × DataW α)} (hp : es.Pairwise (fun p q => p.1 ≠ q.1)) {i : Int} {s : α} (hm : (kyF i, DataW.held s) ∈ es) : lookF (.map es) i = some s := by
 unfold lookF
 rw [if_pos (has_memF hm), at_memF hp hm]
theorem look_noneF {D : DataW α} {i : Int} (h : Maps.has D (kyF i) = false) : lookF D i = none := by unfold lookF; rw [if_neg (by simp [h])]
theorem look_atF (E : Enc α) {w : World} {b n : Nat} {D : DataW α} (h : w.ownsMap Try.prog 25 E.rd b n D) (i : Int) (z : α) : D.atKey (kyF i) (.held z) = .held ((lookF D i).getD z) ∧ Maps.has D (kyF i) = (lookF D i).isSome ∧ ∀ s, lookF D i = some s → 0 ≤ i ∧ i < 4294967296 := by
 obtain ⟨es, e, hp, hs⟩ := entriesF E h
 subst e
 cases hh : Maps.has (.map es) (kyF i) with
 | false => rw [Maps.atKey_of_not_has hh, look_noneF hh]; exact ⟨rfl, rfl, fun s e => by cases e⟩
 | true =>
   rw [Maps.has_eq, List.any_eq_true] at hh
   obtain ⟨p, hp1, hp2⟩ := hh
   obtain ⟨j, s, rfl, hj⟩ := hs p hp1
   rw [same_kyF] at hp2
   simp at hp2
   subst hp2
   rw [look_memF hp hp1, at_memF hp hp1]
   exact ⟨rfl, rfl, fun _ _ => hj⟩
theorem Maps.has_eq_look_of {E : Enc α} {w : World} {b n : Nat} {D : DataW α} (h : w.ownsMap Try.prog 25 E.rd b n D) (i : Int) : Maps.has D (kyF i) = (lookF D i).isSome := by
 cases hl : lookF D i with
 | none =>
   cases hh : Maps.has D (kyF i) with
   | false => rfl
   | true =>
     exfalso
     obtain ⟨es, e, hp, hs⟩ := entriesF E h
     subst e
     rw [Maps.has_eq, List.any_eq_true] at hh
     obtain ⟨p, hp1, hp2⟩ := hh
     obtain ⟨j, s, rfl, hj⟩ := hs p hp1
     rw [same_kyF] at hp2
     simp at hp2
     subst hp2
     rw [look_memF hp hp1] at hl
     cases hl
 | some s => have := (look_atF E h i s).2.1; rw [hl] at this; exact this
theorem look_putF {D : DataW α} (h : Maps.IsMap D) (i : Int) (s : α) (j : Int) : lookF (D.put (kyF i) (.held s)) j = updF (lookF D) i (some s) j := by
 unfold updF
 by_cases hj : j = i
 · subst hj
   rw [if_pos rfl]
   unfold lookF
   rw [Maps.has_put_same h (keyLitF _), if_pos rfl, Maps.atKey_put_same h (keyLitF _)]
 · rw [if_neg hj]
   unfold lookF
   rw [Maps.has_put_other (kyF_ne hj), Maps.atKey_put_other (kyF_ne hj)]
theorem look_delF {D : DataW α} (i : Int) (j : Int) : lookF (D.del (kyF i)) j = updF (lookF D) i none j := by
 unfold updF
 by_cases hj : j = i
 · subst hj
   rw [if_pos rfl, look_noneF Maps.has_del_same]
 · rw [if_neg hj]
   unfold lookF
   rw [Maps.has_del_other (kyF_ne hj), Maps.atKey_del_other (kyF_ne hj)]
def IsFm (E : Enc α) (w : World) (b m : Nat) (f : Int → Option α) : Prop := ∃ D, w.ownsMap Try.prog 25 E.rd b m D ∧ Maps.size D = m ∧ ∀ i, f i = lookF D i
theorem IsFm.lt {E : Enc α} {w : World} {b m : Nat} {f : Int → Option α} (h : IsFm E w b m f) : b < w.heap.size := by obtain ⟨D, ho, _⟩ := h; exact ho.lt
theorem IsFm.out {E : Enc α} {S : Nat → Prop} {w w' : World} {b m : Nat} {f : Int → Option α} (h : IsFm E w b m f) (ho : Ou S w w') (hS : ¬ S b) : IsFm E w' b m f := by
 have hl := h.lt
 obtain ⟨D, ⟨es, clock, hb, r⟩, hf⟩ := h
 exact ⟨D, ⟨es, clock, by rw [ho.block b hl hS]; exact hb, r⟩, hf⟩
theorem IsFm.keys {E : Enc α} {w : World} {b m : Nat} {f : Int → Option α} (h : IsFm E w b m f) {i : Int} {s : α} (hi : f i = some s) : 0 ≤ i ∧ i < 4294967296 := by
 obtain ⟨D, ho, _, hf⟩ := h
 exact (look_atF E ho i s).2.2 s (by rw [← hf i]; exact hi)
theorem IsFm.made (E : Enc α) (w : World) : IsFm E (w.alloc (.map #[] 0)) w.heap.size 0 (fun _ => none) :=
 ⟨.map [], World.ownsMap_made w Try.prog 25 E.rd, rfl, fun i => by simp [lookF, Maps.has]⟩
theorem Ou.turned {S : Nat → Prop} {w w' : World} {b : Nat} (h : w.mapTurned w' b) (hS : S b) : Ou S w w' :=
 have g := h.grown
 ⟨g.os, g.tape, g.output, g.size, fun i hi hn => g.block i hi (fun e => by cases e; exact hn hS)⟩
def addN (f : Int → Option α) (i : Int) (m : Nat) : Nat := if (f i).isSome then m else m + 1
def delN (f : Int → Option α) (i : Int) (m : Nat) : Nat := if (f i).isSome then m - 1 else m
theorem IsFm.look {E : Enc α} {w : World} {b m : Nat} {f : Int → Option α} (h : IsFm E w b m f) {tm te : TypeId} (ht : Try.prog.underlying tm = some (.map 25 te)) {z : α} (hz : ∀ w, (zeroValue te).run Try.prog w = .ok (E.enc z) w) {i : Int} (h0 : 0 ≤ i) (h1 : i < 4294967296) :
   (Instr.lookup tm (.map (some b)) (.int .u32 i) false).run Try.prog w = .ok (E.enc ((f i).getD z)) w := by
 obtain ⟨D, ho, _, hf⟩ := h
 obtain ⟨v, ps, hrun, hv⟩ := ho.lookup lawF ht (hz w) (E.wr z) (keyF h0 h1)
 obtain ⟨e1, _⟩ := look_atF E ho i z
 rw [e1] at hv
 obtain ⟨s, rfl, e3⟩ := E.inv hv
 cases e3
 rw [hf i]
 exact hrun
theorem IsFm.lookOk {E : Enc α} {w : World} {b m : Nat} {f : Int → Option α} (h : IsFm E w b m f) {tm te : TypeId} (ht : Try.prog.underlying tm = some (.map 25 te)) {z : α} (hz : ∀ w, (zeroValue te).run Try.prog w = .ok (E.enc z) w) {i : Int} (h0 : 0 ≤ i) (h1 : i < 4294967296) :
   (Instr.lookup tm (.map (some b)) (.int .u32 i) true).run Try.prog w = .ok (.tuple #[E.enc ((f i).getD z), .bool (f i).isSome]) w := by
 obtain ⟨D, ho, _, hf⟩ := h
 obtain ⟨v, ps, hrun, hv⟩ := ho.look_ok lawF ht (hz w) (E.wr z) (keyF h0 h1)
 obtain ⟨e1, e2, _⟩ := look_atF E ho i z
 rw [e1] at hv
 rw [e2] at hrun
 obtain ⟨s, rfl, e3⟩ := E.inv hv
 cases e3
 rw [hf i]
 exact hrun
theorem IsFm.len {E : Enc α} {w : World} {b m : Nat} {f : Int → Option α} (h : IsFm E w b m f) {tm te : TypeId} (ht : Try.prog.underlying tm = some (.map 25 te)) (ty : TypeId) : (Builtin.len_ #[tm] ty #[.map (some b)]).run Try.prog w = .ok (.int .i64 (m : Int)) w := by
 obtain ⟨D, ho, hs, hf⟩ := h
 have := ho.len ht ty
 rw [hs] at this
 exact this
theorem own_size {E : Enc α} {w : World} {b n : Nat} {D : DataW α} (h : w.ownsMap Try.prog 25 E.rd b n D) : w.ownsMap Try.prog 25 E.rd b (Maps.size D) D := by
 obtain ⟨es, clock, hb, F, hs, rfl⟩ := h
 exact ⟨es, clock, hb, F, by simp [Maps.size, length_sorted], rfl⟩
theorem IsFm.store {E : Enc α} {w : World} {b m : Nat} {f : Int → Option α} (h : IsFm E w b m f) (hm : m < 1000) {tm te : TypeId} (ht : Try.prog.underlying tm = some (.map 25 te)) {i : Int} (h0 : 0 ≤ i) (h1 : i < 4294967296) (s : α) :
   ∃ w', (Instr.mapUpdate tm (.map (some b)) (.int .u32 i) (E.enc s)).run Try.prog w = .ok () w' ∧ IsFm E w' b (addN f i m) (updF f i (some s)) ∧ w.mapTurned w' b := by
 obtain ⟨D, ho, hs, hf⟩ := h
 obtain ⟨w', hrun, ho', ht'⟩ := ho.store lawF ht (by unfold maxLen; omega) (keyF h0 h1) (E.wr s)
 refine ⟨w', hrun, ⟨D.put (kyF i) (.held s), ?_, ?_, fun j => ?_⟩, ht'⟩
 · have e : Maps.size (D.put (kyF i) (.held s)) = addN f i m := by
     rw [Maps.size_put (ho.tidy lawF)]
     unfold addN
     rw [(look_atF E ho i s).2.1, ← hf i, hs]
   rw [← e]
   exact own_size ho'
 · rw [Maps.size_put (ho.tidy lawF)]
   unfold addN
   rw [(look_atF E ho i s).2.1, ← hf i, hs]
 · rw [look_putF ho.isMap]; unfold updF; rw [hf]
theorem IsFm.drop {E : Enc α} {w : World} {b m : Nat} {f : Int → Option α} (h : IsFm E w b m f) {tm te : TypeId} (ht : Try.prog.underlying tm = some (.map 25 te)) {i : Int} (h0 : 0 ≤ i) (h1 : i < 4294967296) (ty : TypeId) :
   ∃ w', (Builtin.delete_ #[tm, 25] ty #[.map (some b), .int .u32 i]).run Try.prog w = .ok (.tuple #[]) w' ∧ IsFm E w' b (delN f i m) (updF f i none) ∧ w.mapTurned w' b := by
 obtain ⟨D, ho, hs, hf⟩ := h
 obtain ⟨w', hrun, ho', ht'⟩ := ho.drop lawF ht (keyF h0 h1) ty
 have e : Maps.size (D.del (kyF i)) = delN f i m := by
   have e1 := Maps.size_del (k := kyF i) (ho.tidy lawF)
   unfold delN
   cases hh : (f i).isSome with
   | true =>
     have h2 : Maps.has D (kyF i) = true := by
       rw [Maps.has_eq_look_of (E := E) ho i, ← hf i]; exact hh
     rw [h2] at e1
     simp at e1 ⊢
     omega
   | false =>
     have h2 : Maps.has D (kyF i) = false := by
       rw [Maps.has_eq_look_of (E := E) ho i, ← hf i]; exact hh
     rw [h2] at e1
     simp at e1 ⊢
     omega
 refine ⟨w', hrun, ⟨D.del (kyF i), ?_, e, fun j => ?_⟩, ht'⟩
 · rw [← e]; exact own_size ho'
 · rw [look_delF]; unfold updF; rw [hf]
end
end Go.Proofs.Ytgbdplammniidaa
