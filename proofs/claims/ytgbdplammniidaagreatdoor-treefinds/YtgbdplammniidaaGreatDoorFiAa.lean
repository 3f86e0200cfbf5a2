/-
  Plain laws on numbers for the package bits: what Zig, Zag, Pack, Make, Turn, Low come to as arithmetic on integers; no program is named here.
  What each function of the package bits, and of the document's answer for it, returns: one contract a function.
  An operation.
  Plain laws on lists of bytes for the package path: what names, Split and Join come to; no program is named here.
  path.Name, alone.
  Plain laws on packets as bytes: which bytes a packet has, when bytes begin with a right packet's, and that they tell which; no program is named here.
  What each function of the package frame returns that writes a packet, or tells whether it is right: one contract a function.
  Rows of fids; they are sorted (at most twelve).
  Maps by fids: what a look, a store, a deletion is, how many there are.
-/
import Derived.WalkKit
import Derived.ProofKit
import Derived.Test.YtgbdplammniidaaGreatDoorRows
import Derived.OpenShut
import Derived.ShutString
import Derived.WalkSpells
import Derived.WalkLawsBesides
import Derived.Lib.SlBytesConst
import Derived.Deep.QuietTactic
import Derived.BigQuiet
import Derived.Lib.OthersKept
import Derived.Lib.BufferWrite
import Derived.Lib.UnsafeStr
import Derived.Laws.MakeOwn
import Derived.Deep.LoopGhost
import Derived.Lib.Strings
import Derived.Lib.IndexBytes
import Derived.Deep.RegionHeld3
import Derived.Deep.AppendLies
import Derived.Deep.DrawnRows
import Derived.Lib.AppendStr
import Derived.ChangeArms
import Derived.ChangeOld
import Derived.Below
import Derived.Deep.RegionWith
import Derived.Maps.RangeWalk
import Derived.Maps.OwnSet
import Derived.Stop.BytesEq
import Derived.Laws.Rows
import Derived.Deep.MidRow
namespace Go.Proofs.YtgbdplammniidaaGreatDoor.M
set_option linter.unusedVariables false
open Go.RowKit
theorem wrap_i64 (n : Int) : IntKind.i64.wrap n = wrap64 n := by
 rw [IntKind.wrap_i64]; unfold wrap64; omega
/-! ### Make -/
/-! ### Turn -/
/-! ### Low -/
/-! ### Fold -/
def foldS (s b : Int) : Int := IntKind.u32.wrap (bits .xor .u32 s b * 16777619)
def foldF (l : List Int) : Int := l.foldl foldS 2166136261
/-! ### Both ways -/
end Go.Proofs.YtgbdplammniidaaGreatDoor.M
namespace Go.Proofs.YtgbdplammniidaaGreatDoor
open Go.RowKit Go.ChangeShapes Go.WideShapes Go.ChangeAt
set_option linter.unusedVariables false
set_option linter.unusedSimpArgs false
theorem bd_u32 {a : Int} (h : (Lit.int .u32 a).wf = true) : 0 ≤ a ∧ a < 4294967296 := by
 simp [Lit.wf, IntKind.min, IntKind.max, IntKind.signed, IntKind.bits] at h; omega
theorem bd_u8 {a : Int} (h : (Lit.int .u8 a).wf = true) : 0 ≤ a ∧ a < 256 := by
 simp [Lit.wf, IntKind.min, IntKind.max, IntKind.signed, IntKind.bits] at h; omega
theorem hid {p : Prop} (h : p) : Hid p := h
theorem wp_region_class {P : Program} {id : Nat} {Q : Exit → Act → World → Prop} {a : Act} {w : World} {l : List Oper} (hm : P.follows .mixedOrders = true) (hB : Region.lexB .any l.toArray = true)
   (h : wpQuiet P l.toArray (fun w' => Below w.heap.size w w') (fun a' => ∀ w', Below w.heap.size w w' → Q .normal a' w') l a) : (Code.region id l.toArray true).wp P Q a w :=
 wp_region_quiet (C := fun w' => Below w.heap.size w w') hm hB ⟨rfl, rfl, rfl, Nat.le_refl _, fun _ _ => rfl⟩ (by simpa using h)
theorem quiet_by {P : Program} {o : Oper} {a a' : Act} {C : World → Prop} {K : Act → Prop} {v : Value} (h1 : ∀ w, C w → o.quietAt P a C w v) (h2 : a.put o.dst v = a') (h3 : K a') : o.quiet P a C K :=
 ⟨v, h1, by rw [h2]; exact h3⟩
theorem class_of {P : Program} {f : FuncId} {args : Array Value} {W w : World} {v : Value} (hw : Below W.heap.size W w)
   (h : Calls P f args w fun e w' => e = .returned v ∧ Below w.heap.size w w') : Calls P f args w fun e w'' => e = .returned v ∧ Below W.heap.size W w'' :=
 h.mono fun _ _ ⟨he, hb⟩ => ⟨he, hw.trans (hb.mono hw.size)⟩
theorem class_same {P : Program} {f : FuncId} {args : Array Value} {W w : World} {v : Value} (hw : Below W.heap.size W w)
   (h : Calls P f args w fun e w' => e = .returned v ∧ w' = w) : Calls P f args w fun e w'' => e = .returned v ∧ Below W.heap.size W w'' :=
 h.mono fun _ _ ⟨he, hb⟩ => ⟨he, by rw [hb]; exact hw⟩
def IsB (w : World) (a : Option Addr) (len : Nat) (zs : List Int) : Prop :=
 zs.length = len ∧ len ≤ maxLen ∧ (0 < len → ∃ b off, a = some ⟨b, off, none⟩ ∧ ∀ i, i < len → w.cell? ⟨b, off + i, none⟩ = some (.int .u8 (zs.getD i 0))) ∧ ∀ i, 0 ≤ zs.getD i 0 ∧ zs.getD i 0 ≤ 255
theorem IsB.later {w w' : World} {a : Option Addr} {len : Nat} {zs : List Int} (h : IsB w a len zs) (hb : Below w.heap.size w w') : IsB w' a len zs := by
 obtain ⟨h1, h2, h3, h4⟩ := h
 refine ⟨h1, h2, fun hp => ?_, h4⟩
 obtain ⟨b, off, e, hc⟩ := h3 hp
 exact ⟨b, off, e, fun i hi => cell_later hb (hc i hi)⟩
end Go.Proofs.YtgbdplammniidaaGreatDoor
namespace Go.Proofs.YtgbdplammniidaaGreatDoor
structure Rec where
 k : Int
 fid : Int
 dir : Int
 nm : ByteArray
 to : Int
 nm2 : ByteArray
 md : Int
 dt : ByteArray
 sn : Int
end Go.Proofs.YtgbdplammniidaaGreatDoor
namespace Go.Proofs.YtgbdplammniidaaGreatDoor.Pa
set_option linter.unusedVariables false
set_option linter.unusedSimpArgs false
open Go.RowKit
def okR (r : Int) : Bool := decide (97 ≤ r ∧ r ≤ 122) || decide (48 ≤ r ∧ r ≤ 57) || decide (r = 46) || decide (r = 45) || decide (r = 95)
def okC (c : UInt8) : Bool := okR (c.toNat : Int)
theorem okR_high (r : Int) (h : 128 ≤ r) : okR r = false := by simp [okR]; omega
theorem okR_true {r : Int} (h : okR r = true) : (97 ≤ r ∧ r ≤ 122) ∨ (48 ≤ r ∧ r ≤ 57) ∨ (46 ≤ r ∧ r ≤ 46) ∨ (45 ≤ r ∧ r ≤ 45) ∨ (95 ≤ r ∧ r ≤ 95) := by
 simp [okR] at h; omega
theorem okR_false {r : Int} (h : okR r = false) : r < 45 ∨ (47 ≤ r ∧ r ≤ 47) ∨ (58 ≤ r ∧ r ≤ 94) ∨ (96 ≤ r ∧ r ≤ 96) ∨ 122 < r := by
 simp [okR] at h; omega
def nameB (l : List UInt8) : Bool := decide (1 ≤ l.length) && decide (l.length ≤ 12) && !(l == [46]) && !(l == [46, 46]) && l.all okC
theorem nameB_short (l : List UInt8) (h : l.length < 1) : nameB l = false := by simp [nameB]; omega
theorem nameB_long (l : List UInt8) (h : 12 < l.length) : nameB l = false := by simp [nameB]; omega
theorem nameB_dot : nameB [46] = false := by decide
theorem nameB_dots : nameB [46, 46] = false := by decide
theorem nameB_mid (l : List UInt8) (h1 : 1 ≤ l.length) (h2 : l.length ≤ 12) (h3 : (l == [46]) = false) (h4 : (l == [46, 46]) = false) : nameB l = l.all okC := by
 simp [nameB, h1, h2, h3, h4]
theorem nameB_bad (l : List UInt8) (h : l.all okC = false) : nameB l = false := by simp only [nameB, h, Bool.and_false]
theorem all_take_succ (l : List UInt8) (j : Nat) (h : j < l.length) (ha : (l.take j).all okC = true) (hc : okC l[j] = true) : (l.take (j + 1)).all okC = true := by
 rw [List.take_succ_eq_append_getElem h, List.all_append, ha, List.all_cons, List.all_nil, hc]; rfl
theorem all_bad (l : List UInt8) (j : Nat) (h : j < l.length) (hc : okC l[j] = false) : l.all okC = false := by
 rw [Bool.eq_false_iff]
 intro ha
 rw [List.all_eq_true] at ha
 have := ha l[j] (List.getElem_mem h)
 rw [hc] at this; exact Bool.noConfusion this
/-! ### What stands between the slashes -/
def piecesF : List UInt8 → List (List UInt8)
 | [] => [[]]
 | c :: r => if c = 47 then [] :: piecesF r else (match piecesF r with | p :: ps => (c :: p) :: ps | [] => [[c]])
theorem pieces_none : ∀ (l : List UInt8), 47 ∉ l → piecesF l = [l]
 | [], _ => rfl
 | c :: r, h => by
   have hc : ¬ c = 47 := fun e => h (by rw [e]; exact List.mem_cons_self)
   have hr : 47 ∉ r := fun e => h (List.mem_cons_of_mem _ e)
   simp only [piecesF, if_neg hc, pieces_none r hr]
theorem pieces_cut : ∀ (a b : List UInt8), 47 ∉ a → piecesF (a ++ 47 :: b) = a :: piecesF b
 | [], b, _ => by simp [piecesF]
 | c :: r, b, h => by
   have hc : ¬ c = 47 := fun e => h (by rw [e]; exact List.mem_cons_self)
   have hr : 47 ∉ r := fun e => h (List.mem_cons_of_mem _ e)
   simp only [List.cons_append, piecesF, if_neg hc, pieces_cut r b hr]
theorem pieces_length : ∀ (l : List UInt8), (piecesF l).length ≤ l.length + 1
 | [] => by simp [piecesF]
 | c :: r => by
   have := pieces_length r
   unfold piecesF
   split
   · simp; omega
   · split
     · rename_i p ps h; rw [h] at this; simp at this ⊢; omega
     · simp
theorem pieces_mem : ∀ (l p : List UInt8), p ∈ piecesF l → p.length ≤ l.length
 | [], p, h => by simp [piecesF] at h; simp [h]
 | c :: r, p, h => by
   unfold piecesF at h
   split at h
   · rcases List.mem_cons.1 h with rfl | h
     · simp
     · have := pieces_mem r p h; simp; omega
   · have ih := pieces_mem r
     split at h
     · rename_i q qs hq
       rw [hq] at ih
       rcases List.mem_cons.1 h with rfl | h
       · have := ih q List.mem_cons_self; simp; omega
       · have := ih p (List.mem_cons_of_mem _ h); simp; omega
     · simp at h; simp [h]
def Found (l : List UInt8) (start j : Nat) (done : List (List UInt8)) : Prop :=
 start ≤ j ∧ done ++ piecesF (l.drop start) = piecesF l ∧ 47 ∉ (l.drop start).take (j - start)
theorem found_zero (l : List UInt8) : Found l 0 0 [] := ⟨Nat.le_refl _, by simp, by simp⟩
theorem found_on {l : List UInt8} {start j : Nat} {done : List (List UInt8)} (h : Found l start j done) (n : Nat) (hn : ∀ k, j ≤ k → k < n → ∀ hk : k < l.length, l[k] ≠ 47) (hjn : j ≤ n) : Found l start n done := by
 obtain ⟨h1, h2, h3⟩ := h
 refine ⟨by omega, h2, fun hm => ?_⟩
 obtain ⟨i, hi, he⟩ := List.getElem_of_mem hm
 rw [List.length_take, List.length_drop] at hi
 rw [List.getElem_take, List.getElem_drop] at he
 by_cases hlt : start + i < j
 · apply h3
   rw [List.mem_take_iff_getElem]
   exact ⟨i, by rw [List.length_drop]; omega, by rw [List.getElem_drop]; exact he⟩
 · exact hn (start + i) (by omega) (by omega) (by omega) he
theorem found_cut {l : List UInt8} {start j : Nat} {done : List (List UInt8)} (h : Found l start j done) (hj : j < l.length) (hc : l[j] = 47) : Found l (j + 1) (j + 1) (done ++ [(l.drop start).take (j - start)]) := by
 obtain ⟨h1, h2, h3⟩ := h
 refine ⟨Nat.le_refl _, ?_, by simp⟩
 have e : l.drop start = (l.drop start).take (j - start) ++ 47 :: l.drop (j + 1) := by
   have e1 := (List.take_append_drop (j - start) (l.drop start)).symm
   rw [List.drop_drop, show start + (j - start) = j from by omega, List.drop_eq_getElem_cons hj, hc] at e1
   exact e1
 rw [List.append_assoc, List.singleton_append, ← pieces_cut _ _ h3, ← e, h2]
theorem found_end {l : List UInt8} {start j : Nat} {done : List (List UInt8)} (h : Found l start j done) (hj : l.length ≤ j) : piecesF l = done ++ [l.drop start] := by
 obtain ⟨h1, h2, h3⟩ := h
 rw [List.take_of_length_le (by rw [List.length_drop]; omega)] at h3
 rw [← h2, pieces_none _ h3]
theorem found_length {l : List UInt8} {start j : Nat} {done : List (List UInt8)} (h : Found l start j done) : done.length ≤ l.length := by
 obtain ⟨h1, h2, h3⟩ := h
 have h4 := pieces_length l
 rw [← h2, List.length_append] at h4
 have h5 : 1 ≤ (piecesF (l.drop start)).length := by
   cases l.drop start with
   | nil => simp [piecesF]
   | cons c r => unfold piecesF; split <;> (try split) <;> simp
 omega
theorem decode_skip (s : ByteArray) (pos : Nat) (h : pos < s.size) (ha : 128 ≤ (s[pos]'h).toNat) : ∀ k, k < (Utf8.decode s pos).2 → pos + k < s.size ∧ 128 ≤ (s.get! (pos + k)).toNat := by
 have hn : ¬ (s[pos]'h).toNat < 128 := by omega
 have h0 : pos + 0 < s.size ∧ 128 ≤ (s.get! (pos + 0)).toNat := ⟨by omega, by rw [get_at s pos h]; exact ha⟩
 have hcont : ∀ k, ((decide (pos + k < s.size) && (s.get! (pos + k)).toNat / 64 == 2) = true) → pos + k < s.size ∧ 128 ≤ (s.get! (pos + k)).toNat := by
   intro k hk
   simp at hk
   omega
 intro k hk
 simp only [Utf8.decode, get_at s pos h, hn, if_false] at hk
 have one : ∀ k, k < 1 → pos + k < s.size ∧ 128 ≤ (s.get! (pos + k)).toNat := fun k hk => by
   obtain rfl : k = 0 := by omega
   exact h0
 split at hk
 · rename_i h2
   rw [Bool.and_eq_true] at h2
   have c1 := hcont 1 h2.2
   split at hk
   · rcases k with _ | _ | k
     · exact h0
     · exact c1
     · exact absurd hk (by simp)
   · exact one k hk
 · split at hk
   · rename_i h2
     rw [Bool.and_eq_true, Bool.and_eq_true] at h2
     have c1 := hcont 1 h2.1.2
     have c2 := hcont 2 h2.2
     split at hk
     · rcases k with _ | _ | _ | k
       · exact h0
       · exact c1
       · exact c2
       · exact absurd hk (by simp)
     · exact one k hk
   · split at hk
     · rename_i h2
       rw [Bool.and_eq_true, Bool.and_eq_true, Bool.and_eq_true] at h2
       have c1 := hcont 1 h2.1.1.2
       have c2 := hcont 2 h2.1.2
       have c3 := hcont 3 h2.2
       split at hk
       · rcases k with _ | _ | _ | _ | k
         · exact h0
         · exact c1
         · exact c2
         · exact c3
         · exact absurd hk (by simp)
       · exact one k hk
     · exact one k hk
/-! ### Split -/
def stepN (acc : List (List UInt8)) (p : List UInt8) : Option (List (List UInt8)) :=
 if p = [] ∨ p = [46] then some acc else if p = [46, 46] then some acc.dropLast else if nameB p = true then some (acc ++ [p]) else none
def splitN : List (List UInt8) → List (List UInt8) → Option (List (List UInt8))
 | acc, [] => some acc
 | acc, p :: ps => (stepN acc p).bind fun a => splitN a ps
def splitF (l : List UInt8) : Option (List (List UInt8)) :=
 if l.length ≤ 120 ∧ l.head? = some 47 then splitN [] (piecesF l) else none
theorem splitN_at (acc P : List (List UInt8)) (k : Nat) (h : k < P.length) : splitN acc (P.drop k) = (stepN acc P[k]).bind fun a => splitN a (P.drop (k + 1)) := by
 rw [List.drop_eq_getElem_cons h]; rfl
theorem step_empty (acc : List (List UInt8)) : stepN acc [] = some acc := by simp [stepN]
theorem step_dot (acc : List (List UInt8)) : stepN acc [46] = some acc := by simp [stepN]
theorem step_dots (acc : List (List UInt8)) : stepN acc [46, 46] = some acc.dropLast := by simp [stepN]
theorem step_name (acc : List (List UInt8)) (p : List UInt8) (h : nameB p = true) : stepN acc p = some (acc ++ [p]) := by
 have h0 : p ≠ [] := fun e => by rw [e] at h; exact absurd h (by decide)
 have h1 : p ≠ [46] := fun e => by rw [e] at h; exact absurd h (by decide)
 have h2 : p ≠ [46, 46] := fun e => by rw [e] at h; exact absurd h (by decide)
 simp [stepN, h0, h1, h2, h]
theorem step_bad (acc : List (List UInt8)) (p : List UInt8) (h0 : p ≠ []) (h1 : p ≠ [46]) (h2 : p ≠ [46, 46]) (h : nameB p = false) : stepN acc p = none := by
 simp [stepN, h0, h1, h2, h]
theorem name_len (p : List UInt8) (h : nameB p = true) : 1 ≤ p.length ∧ p.length ≤ 12 := by
 simp [nameB] at h
 omega
/-! ### Join -/
def joinG : List UInt8 → List (List UInt8) → Option (List UInt8)
 | text, [] => some text
 | text, n :: ns => if nameB n = true ∧ text.length + 1 + n.length ≤ 120 then joinG (text ++ 47 :: n) ns else none
def joinF (ns : List (List UInt8)) : Option (List UInt8) := if ns = [] then some [47] else joinG [] ns
theorem joinG_at (text : List UInt8) (P : List (List UInt8)) (k : Nat) (h : k < P.length) : joinG text (P.drop k) = if nameB P[k] = true ∧ text.length + 1 + P[k].length ≤ 120 then joinG (text ++ 47 :: P[k]) (P.drop (k + 1)) else none := by
 rw [List.drop_eq_getElem_cons h]; rfl
/-! ### What Split answers are names -/
theorem step_names {acc ns : List (List UInt8)} {p : List UInt8} (h : stepN acc p = some ns) (ha : ∀ q ∈ acc, nameB q = true) : ∀ q ∈ ns, nameB q = true := by
 unfold stepN at h
 split at h
 · cases h; exact ha
 · split at h
   · cases h; exact fun q hq => ha q (by rw [List.dropLast_eq_take] at hq; exact List.mem_of_mem_take hq)
   · split at h
     · rename_i hn
       cases h
       intro q hq
       rcases List.mem_append.1 hq with h1 | h1
       · exact ha q h1
       · rw [List.mem_singleton.1 h1]; exact hn
     · cases h
theorem splitN_names : ∀ (P acc ns : List (List UInt8)), splitN acc P = some ns → (∀ q ∈ acc, nameB q = true) → ∀ q ∈ ns, nameB q = true
 | [], acc, ns, h, ha => by cases h; exact ha
 | p :: ps, acc, ns, h, ha => by
   unfold splitN at h
   cases hs : stepN acc p with
   | none => rw [hs] at h; cases h
   | some a => rw [hs] at h; exact splitN_names ps a ns h (step_names hs ha)
theorem split_names {l : List UInt8} {ns : List (List UInt8)} (h : splitF l = some ns) : ∀ q ∈ ns, nameB q = true := by
 unfold splitF at h
 split at h
 · exact splitN_names _ _ _ h (by simp)
 · cases h
def cleanF (l : List UInt8) : Option (List UInt8) := (splitF l).bind joinF
def someF (l : List UInt8) : Option (List (List UInt8)) := (splitF l).bind fun ns => if ns = [] then none else some ns
def dirF (l : List UInt8) : Option (List UInt8) := (someF l).bind fun ns => joinF ns.dropLast
def baseF (l : List UInt8) : Option (List UInt8) := (someF l).bind fun ns => ns.getLast?
def belowB (l m : List UInt8) : Bool := match splitF l, splitF m with
 | some a, some b => decide (b.length < a.length) && decide (a.take b.length = b)
 | _, _ => false
/-! ### Below -/
theorem below_some {l m : List UInt8} (h : belowB l m = true) : ∃ a b, splitF l = some a ∧ splitF m = some b ∧ b.length < a.length ∧ a.take b.length = b := by
 unfold belowB at h
 split at h
 · rename_i a b ha hb
   rw [Bool.and_eq_true, decide_eq_true_eq, decide_eq_true_eq] at h
   exact ⟨a, b, ha, hb, h.1, h.2⟩
 · cases h
theorem below_mk {l m : List UInt8} {a b : List (List UInt8)} (ha : splitF l = some a) (hb : splitF m = some b) (h1 : b.length < a.length) (h2 : a.take b.length = b) : belowB l m = true := by
 unfold belowB; rw [ha, hb]; simp [h1, h2]
theorem below_anti {l m : List UInt8} (h : belowB l m = true) : belowB m l = false := by
 cases k : belowB m l with
 | false => rfl
 | true =>
   obtain ⟨a, b, ha, hb, h1, h2⟩ := below_some h
   obtain ⟨b', a', hb', ha', k1, k2⟩ := below_some k
   rw [hb] at hb'; cases hb'
   rw [ha] at ha'; cases ha'
   omega
/-! ### Join and Split, both ways -/
def wt : List (List UInt8) → Nat
 | [] => 0
 | n :: ns => n.length + 1 + wt ns
theorem wt_append : ∀ (a b : List (List UInt8)), wt (a ++ b) = wt a + wt b
 | [], b => by simp [wt]
 | n :: a, b => by simp [wt, wt_append a b]; omega
theorem wt_dropLast : ∀ (a : List (List UInt8)), wt a.dropLast ≤ wt a
 | [] => by simp [wt]
 | [n] => by simp [wt]
 | n :: m :: a => by
   have := wt_dropLast (m :: a)
   simp only [List.dropLast_cons_cons, wt] at this ⊢
   omega
theorem pieces_wt : ∀ (l : List UInt8), wt (piecesF l) = l.length + 1
 | [] => by simp [piecesF, wt]
 | c :: r => by
   have ih := pieces_wt r
   unfold piecesF
   split
   · simp [wt, ih]; omega
   · split
     · rename_i p ps h
       rw [h] at ih
       simp [wt] at ih ⊢; omega
     · rename_i h
       rw [h] at ih; simp [wt] at ih
theorem step_wt {acc ns : List (List UInt8)} {p : List UInt8} (h : stepN acc p = some ns) : wt ns ≤ wt acc + p.length + 1 := by
 unfold stepN at h
 split at h
 · cases h; omega
 · split at h
   · cases h; have := wt_dropLast acc; omega
   · split at h
     · cases h; rw [wt_append]; simp [wt]; omega
     · cases h
theorem splitN_wt : ∀ (P acc ns : List (List UInt8)), splitN acc P = some ns → wt ns ≤ wt acc + wt P
 | [], acc, ns, h => by cases h; simp [wt]
 | p :: ps, acc, ns, h => by
   unfold splitN at h
   cases hs : stepN acc p with
   | none => rw [hs] at h; cases h
   | some a =>
     rw [hs] at h
     have h1 := splitN_wt ps a ns h
     have h2 := step_wt hs
     simp only [wt]; omega
theorem split_slashed {l : List UInt8} {ns : List (List UInt8)} (h : splitF l = some ns) : ∃ r, l = 47 :: r ∧ l.length ≤ 120 ∧ splitN [] (piecesF r) = some ns := by
 unfold splitF at h
 split at h
 · rename_i hc
   cases l with
   | nil => simp at hc
   | cons c r =>
     simp at hc
     obtain ⟨h1, rfl⟩ := hc
     refine ⟨r, rfl, by simp; omega, ?_⟩
     have e : piecesF (47 :: r) = [] :: piecesF r := by simp [piecesF]
     rw [e] at h
     exact h
 · cases h
theorem split_wt {l : List UInt8} {ns : List (List UInt8)} (h : splitF l = some ns) : wt ns ≤ l.length := by
 obtain ⟨r, rfl, _, h1⟩ := split_slashed h
 have := splitN_wt _ _ _ h1
 rw [pieces_wt] at this
 simp [wt] at this ⊢; omega
def flat : List (List UInt8) → List UInt8
 | [] => []
 | n :: ns => 47 :: (n ++ flat ns)
theorem flat_length : ∀ (ns : List (List UInt8)), (flat ns).length = wt ns
 | [] => rfl
 | n :: ns => by simp [flat, wt, flat_length ns]; omega
theorem joinG_ok : ∀ (ns : List (List UInt8)) (text : List UInt8), (∀ n ∈ ns, nameB n = true) → text.length + wt ns ≤ 120 → joinG text ns = some (text ++ flat ns)
 | [], text, _, _ => by simp [joinG, flat]
 | n :: ns, text, hn, hw => by
   simp only [wt] at hw
   unfold joinG
   rw [if_pos ⟨hn n List.mem_cons_self, by omega⟩, joinG_ok ns _ (fun m hm => hn m (List.mem_cons_of_mem _ hm)) (by simp; omega)]
   simp [flat]
theorem joinG_inv : ∀ (ns : List (List UInt8)) (text t : List UInt8), joinG text ns = some t → t = text ++ flat ns ∧ (∀ n ∈ ns, nameB n = true) ∧ (ns ≠ [] → t.length ≤ 120)
 | [], text, t, h => by cases h; simp [flat]
 | n :: ns, text, t, h => by
   unfold joinG at h
   split at h
   · rename_i hc
     obtain ⟨h1, h2, h3⟩ := joinG_inv ns _ _ h
     refine ⟨by rw [h1]; simp [flat], ?_, fun _ => ?_⟩
     · intro m hm
       rcases List.mem_cons.1 hm with rfl | hm
       · exact hc.1
       · exact h2 m hm
     · cases ns with
       | nil => rw [h1]; simp [flat]; omega
       | cons m ms => exact h3 (by simp)
   · cases h
theorem name_noslash {n : List UInt8} (h : nameB n = true) : 47 ∉ n := by
 intro hm
 simp only [nameB, Bool.and_eq_true, List.all_eq_true] at h
 exact absurd (h.2 47 hm) (by decide)
theorem pieces_flat : ∀ (ns : List (List UInt8)) (n : List UInt8), (∀ m ∈ ns, nameB m = true) → 47 ∉ n → piecesF (n ++ flat ns) = n :: ns
 | [], n, _, hn => by simp only [flat, List.append_nil]; exact pieces_none n hn
 | m :: ms, n, hm, hn => by
   simp only [flat]
   rw [pieces_cut _ _ hn, pieces_flat ms m (fun k hk => hm k (List.mem_cons_of_mem _ hk)) (name_noslash (hm m List.mem_cons_self))]
theorem splitN_all : ∀ (ns acc : List (List UInt8)), (∀ m ∈ ns, nameB m = true) → splitN acc ns = some (acc ++ ns)
 | [], acc, _ => by simp [splitN]
 | n :: ns, acc, h => by
   unfold splitN
   rw [step_name acc n (h n List.mem_cons_self)]
   show splitN (acc ++ [n]) ns = _
   rw [splitN_all ns _ (fun k hk => h k (List.mem_cons_of_mem _ hk))]; simp
theorem split_flat (ns : List (List UInt8)) (hne : ns ≠ []) (hn : ∀ m ∈ ns, nameB m = true) (hl : (flat ns).length ≤ 120) : splitF (flat ns) = some ns := by
 cases ns with
 | nil => exact absurd rfl hne
 | cons n ns =>
   unfold splitF
   rw [if_pos ⟨hl, rfl⟩]
   have e : piecesF (flat (n :: ns)) = [] :: n :: ns := by
     simp only [flat]
     have h1 : piecesF (47 :: (n ++ flat ns)) = [] :: piecesF (n ++ flat ns) := by simp [piecesF]
     rw [h1, pieces_flat ns n (fun k hk => hn k (List.mem_cons_of_mem _ hk)) (name_noslash (hn n List.mem_cons_self))]
   rw [e]
   show splitN [] (n :: ns) = _
   rw [splitN_all _ _ hn]; simp
theorem split_join {ns : List (List UInt8)} {t : List UInt8} (h : joinF ns = some t) : splitF t = some ns := by
 unfold joinF at h
 split at h
 · rename_i e; cases h; subst e; decide +kernel
 · rename_i hne
   obtain ⟨h1, h2, h3⟩ := joinG_inv ns _ _ h
   rw [List.nil_append] at h1
   subst h1
   exact split_flat ns hne h2 (h3 hne)
theorem join_split {l : List UInt8} {ns : List (List UInt8)} (h : splitF l = some ns) : ∃ t, joinF ns = some t ∧ t.length ≤ l.length := by
 obtain ⟨r, hr, hl, _⟩ := split_slashed h
 have hw := split_wt h
 unfold joinF
 by_cases e : ns = []
 · rw [if_pos e]; exact ⟨[47], rfl, by rw [hr]; simp⟩
 · rw [if_neg e, joinG_ok ns [] (split_names h) (by simp; omega)]
   exact ⟨_, rfl, by rw [List.nil_append, flat_length]; exact hw⟩
theorem join_names {ns : List (List UInt8)} (hn : ∀ m ∈ ns, nameB m = true) (hw : wt ns ≤ 120) : ∃ t, joinF ns = some t := by
 unfold joinF
 by_cases e : ns = []
 · rw [if_pos e]; exact ⟨_, rfl⟩
 · rw [if_neg e, joinG_ok ns [] hn (by simp; omega)]; exact ⟨_, rfl⟩
theorem parts {l : List UInt8} {ns : List (List UInt8)} (h : splitF l = some ns) (hne : ns ≠ []) :
   ∃ d b c, dirF l = some d ∧ baseF l = some b ∧ splitF d = some ns.dropLast ∧ ns.dropLast ++ [b] = ns ∧ joinF ns = some c ∧ cleanF l = some c ∧ belowB l d = true ∧ belowB d l = false ∧ d.length ≤ 120 ∧ b.length ≤ 12 ∧ ns.dropLast.length ≤ 120 := by
 obtain ⟨r, hr, hl, _⟩ := split_slashed h
 have hw := split_wt h
 have hnm := split_names h
 have hdn : ∀ m ∈ ns.dropLast, nameB m = true := fun m hm => hnm m (by rw [List.dropLast_eq_take] at hm; exact List.mem_of_mem_take hm)
 have hdw := wt_dropLast ns
 obtain ⟨d, hd⟩ := join_names hdn (by omega)
 obtain ⟨c, hc, _⟩ := join_split h
 have hs : someF l = some ns := by unfold someF; rw [h]; exact if_neg hne
 have hsd := split_join hd
 have hlast := List.dropLast_concat_getLast hne
 have hlen : ns.dropLast.length < ns.length := by
   rw [List.length_dropLast]
   cases ns with
   | nil => exact absurd rfl hne
   | cons a b => simp
 have hwl : ∀ a : List (List UInt8), a.length ≤ wt a := fun a => by
   induction a with
   | nil => simp
   | cons x a ih => simp [wt]; omega
 have hb : belowB l d = true := below_mk h hsd hlen (by rw [List.length_dropLast, List.dropLast_eq_take])
 refine ⟨d, ns.getLast hne, c, by unfold dirF; rw [hs]; exact hd, by unfold baseF; rw [hs]; exact List.getLast?_eq_some_getLast hne, hsd, hlast, hc, by unfold cleanF; rw [h]; exact hc, hb, below_anti hb, ?_, (name_len _ (hnm _ (List.getLast_mem hne))).2, ?_⟩
 · obtain ⟨_, _, h9, _⟩ := split_slashed hsd
   exact h9
 · have := hwl ns.dropLast; omega
theorem no_parts {l : List UInt8} (h : splitF l = none ∨ splitF l = some []) : dirF l = none ∧ baseF l = none := by
 have : someF l = none := by
   unfold someF
   rcases h with h | h <;> rw [h] <;> rfl
 exact ⟨by unfold dirF; rw [this]; rfl, by unfold baseF; rw [this]; rfl⟩
/-! ### Down and up -/
/-! ### A name with one more letter -/
end Go.Proofs.YtgbdplammniidaaGreatDoor.Pa
namespace Go.Proofs.YtgbdplammniidaaGreatDoor
open Go.RowKit Go.ChangeShapes Go.WideShapes Go.ChangeAt
set_option linter.unusedVariables false
set_option linter.unusedSimpArgs false
theorem ret_bool' {a b : Bool} (h : a = b) : Ending.returned (.bool a) = .returned (.bool b) := by rw [h]
theorem hid' {p : Prop} (h : p) : Hid p := h
set_option maxHeartbeats 1000000 in
theorem inName_c (r : Int) (w : World) :
   Calls Tryz.prog 52 #[.int .i32 r] w fun e w' => e = .returned (.bool (Pa.okR r)) ∧ w' = w := by
 go_enter Tryz.func52, Tryz.ntmps52
 go_wp2
 all_goals go_ret
 all_goals exact ⟨ret_bool' (by first | rfl | (rw [Bool.eq_iff_iff]; simp [Pa.okR]; done) | (rw [Bool.eq_iff_iff]; simp [Pa.okR]; omega)), rfl⟩
set_option maxHeartbeats 1000000 in
theorem name_c (s : ByteArray) (w : World) (hs : s.size ≤ maxLen) :
   Calls Tryz.prog 27 #[.string s] w fun e w' => e = .returned (.bool (Pa.nameB s.data.toList)) ∧ Below w.heap.size w w' := by
 have hlen : s.data.toList.length = s.size := rfl
 unfold maxLen at hs
 by_cases h1 : s.size < 1
 · have N := hid' (Pa.nameB_short s.data.toList (by omega))
   go_enter Tryz.func27, Tryz.ntmps27
   go_wp2
   go_ret
   exact ⟨ret_bool' N.out.symm, Below.refl _ _⟩
 · by_cases h2 : 12 < s.size
   · have N := hid' (Pa.nameB_long s.data.toList (by omega))
     go_enter Tryz.func27, Tryz.ntmps27
     go_wp2
     go_ret
     exact ⟨ret_bool' N.out.symm, Below.refl _ _⟩
   · cases h3 : (s.toList == [46]) with
     | true =>
       have N : Hid (Pa.nameB s.data.toList = false) := by
         have : s.data.toList = [46] := by rw [← Lib.toList_data]; exact beq_iff_eq.1 h3
         show _ = _
         rw [this]; exact Pa.nameB_dot
       go_enter Tryz.func27, Tryz.ntmps27
       go_wp2
       go_ret
       exact ⟨ret_bool' N.out.symm, Below.refl _ _⟩
     | false =>
       cases h4 : (s.toList == [46, 46]) with
       | true =>
         have N : Hid (Pa.nameB s.data.toList = false) := by
           have : s.data.toList = [46, 46] := by rw [← Lib.toList_data]; exact beq_iff_eq.1 h4
           show _ = _
           rw [this]; exact Pa.nameB_dots
         go_enter Tryz.func27, Tryz.ntmps27
         go_wp2
         go_ret
         exact ⟨ret_bool' N.out.symm, Below.refl _ _⟩
       | false =>
         have N : Hid (Pa.nameB s.data.toList = s.data.toList.all Pa.okC) := Pa.nameB_mid _ (by omega) (by omega) (by rw [← Lib.toList_data]; exact h3) (by rw [← Lib.toList_data]; exact h4)
         have g1 : decide ((s.size : Int) < 1) = false := by simp; omega
         have g2 : decide ((12 : Int) < (s.size : Int)) = false := by simp; omega
         have HL := hid' hlen
         clear hlen
         go_enter Tryz.func27, Tryz.ntmps27
         go_wp2
         go_loopw [4] (fun r wr => ∃ j : Nat, wr = w.iter s j ∧ j ≤ s.size ∧ Hid ((s.data.toList.take j).all Pa.okC = true)) (fun _ wr => s.size - wr.iterPos w.heap.size)
         case atStart => exact ⟨0, rfl, by omega, by simp [Hid]⟩
         case round =>
           obtain ⟨j, rfl, hj, HA⟩ := hrel
           have hpos := World.iterPos_iter w s j
           by_cases hp : j < s.size
           · by_cases ha : (s[j]'hp).toNat < 128
             · have hnx := fun ty => run_next_ascii (P := Tryz.prog) w s j ty hp ha
               cases hc : Pa.okR ((s[j]'hp).toNat : Int) with
               | true =>
                 have HB : Hid ((s.data.toList.take (j + 1)).all Pa.okC = true) := Pa.all_take_succ s.data.toList j (by have := HL.out; omega) HA.out (by unfold Pa.okC; exact hc)
                 go_wp2_with (go_at_call 52; refine (inName_c _ _).mono ?_; rintro e w' ⟨rfl, rfl⟩)
                 go_roundw
                 case rel => exact ⟨j + 1, rfl, by omega, HB⟩
                 case measure => rw [World.iterPos_iter, World.iterPos_iter]; omega
               | false =>
                 have HB : Hid (s.data.toList.all Pa.okC = false) := Pa.all_bad s.data.toList j (by have := HL.out; omega) (by unfold Pa.okC; exact hc)
                 go_wp2_with (go_at_call 52; refine (inName_c _ _).mono ?_; rintro e w' ⟨rfl, rfl⟩)
                 go_ret
                 exact ⟨ret_bool' (by rw [N.out, HB.out]), (Below.refl _ _).alloc (Nat.le_refl _) _⟩
             · have hnx := fun ty => run_next_any (P := Tryz.prog) w s j ty hp
               have hd := decode_high s j hp (by omega)
               have hc : Pa.okR ((Utf8.decode s j).1 : Int) = false := Pa.okR_high _ (by omega)
               have HB : Hid (s.data.toList.all Pa.okC = false) := Pa.all_bad s.data.toList j (by have := HL.out; omega) (by unfold Pa.okC; exact Pa.okR_high _ (by have h' : (s.data.toList[j]'(by have := HL.out; omega)) = s[j]'hp := rfl; rw [h']; omega))
               go_wp2_with (go_at_call 52; refine (inName_c _ _).mono ?_; rintro e w' ⟨rfl, rfl⟩)
               go_ret
               exact ⟨ret_bool' (by rw [N.out, HB.out]), (Below.refl _ _).alloc (Nat.le_refl _) _⟩
           · have hnx := fun ty => run_next_end (P := Tryz.prog) w s j ty hp
             go_wp2
             go_ret
             exact ⟨ret_bool' (by rw [N.out]; have := HA.out; rw [List.take_of_length_le (by have := HL.out; omega)] at this; exact this.symm), (Below.refl _ _).alloc (Nat.le_refl _) _⟩
end Go.Proofs.YtgbdplammniidaaGreatDoor
namespace Go.Proofs.YtgbdplammniidaaGreatDoor.Fr
set_option linter.unusedVariables false
open Go.RowKit
def bs (b : ByteArray) : List Int := b.data.toList.map fun c => (c.toNat : Int)
def tx (l : List Int) : ByteArray := ⟨(l.map fun x => UInt8.ofNat x.toNat).toArray⟩
def le4 (n : Int) : List Int := [n % 256, n / 256 % 256, n / 65536 % 256, n / 16777216 % 256]
def le2 (n : Int) : List Int := [n % 256, n / 256 % 256]
structure Pk where
 k : Int
 f : Int
 t : Int
 e : Int
 s : Int
 b : ByteArray
def val (p : Pk) : Value := .agg #[.int .u8 p.k, .int .u8 p.f, .int .u8 p.t, .int .u32 p.e, .int .u32 p.s, .string p.b]
def Wf (p : Pk) : Prop := (0 ≤ p.k ∧ p.k < 256) ∧ (0 ≤ p.f ∧ p.f < 256) ∧ (0 ≤ p.t ∧ p.t < 256) ∧ (0 ≤ p.e ∧ p.e < 4294967296) ∧ (0 ≤ p.s ∧ p.s < 4294967296)
def head (p : Pk) : List Int := 66 :: 87 :: p.k :: p.f :: p.t :: (le4 p.e ++ le4 p.s ++ le2 p.b.size ++ bs p.b)
def enc (p : Pk) : List Int := head p ++ le4 (M.foldF (head p))
end Go.Proofs.YtgbdplammniidaaGreatDoor.Fr
namespace Go.Proofs.YtgbdplammniidaaGreatDoor
open Go.RowKit Go.ChangeShapes Go.WideShapes Go.ChangeAt
set_option linter.unusedVariables false
set_option linter.unusedSimpArgs false
theorem info_parts8 : ∃ i : TypeInfo, Tryz.prog.info? 5 = some i ∧ i.zero = some (.int .u8 0) ∧ i.size = 1 ∧ i.bytes = 1 := by
 have h : (Tryz.prog.info? 5).map (fun i => (i.zero, i.size, i.bytes)) = some (some (.int .u8 0), 1, 1) := by kernel_rfl
 cases hi : Tryz.prog.info? 5 with
 | none => rw [hi] at h; cases h
 | some i =>
   rw [hi] at h
   simp at h
   exact ⟨i, rfl, h.1, h.2.1, h.2.2⟩
def u8V (x : Int) : Value := .int .u8 x
theorem cell_box {w : World} {g : Nat} {v : Value} {T : TypeId} (h : w.heap[g]? = some (.cells #[v] T (0, 0))) : w.cell? ⟨g, 0, none⟩ = some v := by
 rw [cell_of_row w g 0 #[v] T (0, 0) h]; rfl
theorem frozen_box {w : World} {g : Nat} {v : Value} {T : TypeId} (h : w.heap[g]? = some (.cells #[v] T (0, 0))) : w.frozen? ⟨g, 0, none⟩ = false := by
 simp [World.frozen?, h]
theorem heap_setBox {W : World} {B : Nat} {v : Value} {t : TypeId} (v' : Value) (h : W.heap[B]? = some (.cells #[v] t (0, 0))) : (W.setCell ⟨B, 0, none⟩ v').heap[B]? = some (.cells #[v'] t (0, 0)) := by
 rw [heap_setCell_same W B 0 #[v] t v' h]; rfl
theorem body_end {P : Program} {fn : Func} {R : Ending → World → Prop} {a : Act} {w : World} (hr : fn.results = #[]) (hd : a.defers = []) (hR : R (.returned (.tuple #[])) w) : bodyPost P fn R .normal a w :=
 bodyPost_end (v := .tuple #[]) (by simp [results, hr, go_sem]) hd hR
end Go.Proofs.YtgbdplammniidaaGreatDoor
namespace Go.Proofs.YtgbdplammniidaaGreatDoor
open Go.RowKit Go.ChangeShapes Go.WideShapes Go.ChangeAt
set_option linter.unusedVariables false
set_option linter.unusedSimpArgs false
set_option maxRecDepth 100000
structure Ou (S : Nat → Prop) (w w' : World) : Prop where
 os : w'.os = w.os
 tape : w'.tape = w.tape
 output : w'.output = w.output
 size : w.heap.size ≤ w'.heap.size
 block : ∀ k, k < w.heap.size → ¬ S k → w'.heap[k]? = w.heap[k]?
theorem Ou.refl (S : Nat → Prop) (w : World) : Ou S w w := ⟨rfl, rfl, rfl, Nat.le_refl _, fun _ _ _ => rfl⟩
theorem Ou.trans {S : Nat → Prop} {a b c : World} (h : Ou S a b) (k : Ou S b c) : Ou S a c :=
 ⟨k.os.trans h.os, k.tape.trans h.tape, k.output.trans h.output, Nat.le_trans h.size k.size, fun i hi hS => (k.block i (Nat.lt_of_lt_of_le hi h.size) hS).trans (h.block i hi hS)⟩
theorem Ou.mono {S T : Nat → Prop} {a b : World} (h : Ou S a b) (k : ∀ i, S i → T i) : Ou T a b := ⟨h.os, h.tape, h.output, h.size, fun i hi hS => h.block i hi fun e => hS (k i e)⟩
theorem Ou.of {S : Nat → Prop} {w w' : World} (h : Below w.heap.size w w') : Ou S w w' := ⟨h.os, h.tape, h.output, h.size, fun i hi _ => h.block i hi⟩
theorem Ou.below {S : Nat → Prop} {w w' : World} {B : Nat} (h : Ou S w w') (hB : B ≤ w.heap.size) (hS : ∀ k, S k → B ≤ k) : Below B w w' :=
 ⟨h.os, h.tape, h.output, h.size, fun i hi => h.block i (by omega) (fun e => by have := hS i e; omega)⟩
theorem Ou.drew {S : Nat → Prop} {a w : World} (h : Ou S a w) : Ou S a w.drew := ⟨h.os, h.tape, h.output, h.size, h.block⟩
theorem Ou.set {S : Nat → Prop} {a w : World} (h : Ou S a w) {g o : Nat} {v : Value} (hS : S g) : Ou S a (w.setCell ⟨g, o, none⟩ v) :=
 h.trans ⟨rfl, rfl, rfl, by simp [World.setCell], fun k hk hn => heap_setCell_other _ _ _ _ (fun e => hn (e ▸ hS))⟩
theorem lt_blkC {w : World} {g : Nat} {o : Obj} (h : w.heap[g]? = some o) : g < w.heap.size := by
 have := (Array.getElem?_eq_some_iff.1 h).1; exact this
theorem body_endF {P : Program} {fn : Func} {R : Ending → World → Prop} {a : Act} {w : World} (hr : fn.results = #[]) (hd : a.defers = []) (hR : R (.returned (.tuple #[])) w) : bodyPost P fn R .normal a w :=
 bodyPost_end (v := .tuple #[]) (by simp [results, hr, go_sem]) hd hR
def FidsAt (w : World) (g n : Nat) (f : Nat → Int) : Prop := ∃ cs : Array Value, w.heap[g]? = some (.cells cs 26 (0, 0)) ∧ n ≤ cs.size ∧ ∀ j, j < n → cs[j]? = some (.int .u32 (f j))
theorem FidsAt.out {S : Nat → Prop} {w w' : World} {g n : Nat} {f : Nat → Int} (h : FidsAt w g n f) (ho : Ou S w w') (hg : ¬ S g) : FidsAt w' g n f := by
 obtain ⟨cs, h1, h2, h3⟩ := h
 exact ⟨cs, by rw [ho.block g (lt_blkC h1) hg]; exact h1, h2, h3⟩
theorem FidsAt.lt {w : World} {g n : Nat} {f : Nat → Int} (h : FidsAt w g n f) : g < w.heap.size := by obtain ⟨cs, h1, _⟩ := h; exact lt_blkC h1
theorem FidsAt.cell {w : World} {g n : Nat} {f : Nat → Int} (h : FidsAt w g n f) {j : Nat} (hj : j < n) : w.cell? ⟨g, j, none⟩ = some (.int .u32 (f j)) ∧ w.frozen? ⟨g, j, none⟩ = false := by
 obtain ⟨cs, h1, h2, h3⟩ := h
 constructor
 · have := h3 j hj
   simp [World.cell?, h1, this]
 · simp [World.frozen?, h1]
theorem FidsAt.set {w : World} {g n : Nat} {f : Nat → Int} (h : FidsAt w g n f) {j : Nat} (hj : j < n) (x : Int) : FidsAt (w.setCell ⟨g, j, none⟩ (.int .u32 x)) g n (fun k => if k = j then x else f k) := by
 obtain ⟨cs, h1, h2, h3⟩ := h
 refine ⟨cs.setIfInBounds j (.int .u32 x), ?_, by simp [h2], fun k hk => ?_⟩
 · simp only [World.setCell]
   rw [Array.getElem?_modify, if_pos rfl, h1]
   rfl
 · by_cases e : k = j
   · subst e; simp [Nat.lt_of_lt_of_le hk h2]
   · rw [Array.getElem?_setIfInBounds_ne (by omega), h3 k hk]; simp [e]
theorem FidsAt.drew {w : World} {g n : Nat} {f : Nat → Int} (h : FidsAt w g n f) : FidsAt w.drew g n f := h
theorem heap_drewN (w : World) (k : Nat) : (w.drewN k).heap = w.heap := rfl
theorem FidsAt.drewN {w : World} {g n : Nat} {f : Nat → Int} (h : FidsAt w g n f) (k : Nat) : FidsAt (w.drewN k) g n f := by
 unfold FidsAt at *; rw [heap_drewN]; exact h
theorem Ou.drewN {S : Nat → Prop} {a w : World} (h : Ou S a w) (k : Nat) : Ou S a (w.drewN k) := ⟨h.os, h.tape, h.output, h.size, h.block⟩
theorem FidsAt.ext {w : World} {g n : Nat} {f f' : Nat → Int} (h : FidsAt w g n f) (e : ∀ j, j < n → f' j = f j) : FidsAt w g n f' := by
 obtain ⟨cs, h1, h2, h3⟩ := h
 exact ⟨cs, h1, h2, fun j hj => by rw [h3 j hj, e j hj]⟩
def SameF (n : Nat) (f g : Nat → Int) : Prop := (∀ x, (∃ k, k < n ∧ f k = x) ↔ ∃ k, k < n ∧ g k = x) ∧ ∀ a b, a < n → b < n → g a = g b → a = b
def UpF (n : Nat) (f : Nat → Int) : Prop := ∀ a b, a < b → b < n → f a ≤ f b
set_option maxHeartbeats 400000 in
theorem nanF_c (a : Int) (w : World) : Calls Tryz.prog 141 #[.int .u32 a] w fun e w' => e = .returned (.bool false) ∧ w' = w := by
 have hb : (a != a) = false := by simp
 go_enter Tryz.func141, Tryz.ntmps141
 go_wp2
 go_ret
 exact ⟨rfl, rfl⟩
set_option maxHeartbeats 400000 in
theorem lessF_c (a b : Int) (w : World) : Calls Tryz.prog 126 #[.int .u32 a, .int .u32 b] w fun e w' => e = .returned (.bool (decide (a < b))) ∧ w' = w := by
 go_enter Tryz.func126, Tryz.ntmps126
 go_wp2_with (go_at_call 141; refine (nanF_c _ _).mono ?_; rintro _ w1 ⟨rfl, h1⟩; rw [h1])
 go_ret
 exact ⟨rfl, rfl⟩
set_option maxHeartbeats 1000000 in
theorem len64_c (n : Nat) (hn : n ≤ 12) (w : World) : Calls Tryz.prog 130 #[.int .u64 n] w fun e w' => (∃ v : Int, e = .returned (.int .i64 v)) ∧ w' = w := by
 have h1 : ¬ (4294967296 : Int) ≤ (n : Int) := by omega
 have h2 : ¬ (65536 : Int) ≤ (n : Int) := by omega
 have h3 : ¬ (256 : Int) ≤ (n : Int) := by omega
 have h4 : (n : Int) < 256 := by omega
 obtain h | h | h | h | h | h | h | h | h | h | h | h | h : n = 0 ∨ n = 1 ∨ n = 2 ∨ n = 3 ∨ n = 4 ∨ n = 5 ∨ n = 6 ∨ n = 7 ∨ n = 8 ∨ n = 9 ∨ n = 10 ∨ n = 11 ∨ n = 12 := by omega
 all_goals (
   subst h
   clear h1 h2 h3 h4
   go_enter Tryz.func130, Tryz.ntmps130
   go_wp2
   go_ret
   exact ⟨⟨_, rfl⟩, rfl⟩)
set_option maxHeartbeats 1000000 in
theorem len_c (n : Nat) (hn : n ≤ 12) (w : World) : Calls Tryz.prog 107 #[.int .u64 n] w fun e w' => (∃ v : Int, e = .returned (.int .i64 v)) ∧ w' = w := by
 go_enter Tryz.func107, Tryz.ntmps107
 go_wp2_with (go_at_call 130; refine (len64_c n hn _).mono ?_; rintro _ w1 ⟨⟨v, rfl⟩, h1⟩; rw [h1])
 go_ret
 exact ⟨⟨_, rfl⟩, rfl⟩
def SortedTo (w : World) (g n : Nat) (f0 : Nat → Int) (e : Ending) (w' : World) : Prop := e = .returned (.tuple #[]) ∧ ∃ f, FidsAt w' g n f ∧ SameF n f0 f ∧ UpF n f ∧ Ou (fun k => k = g) w w'
set_option maxHeartbeats 1000000 in
theorem insertF_nil (a : Option Addr) (cap : Nat) (w : World) : Calls Tryz.prog 120 #[.slice a 0 cap, .int .i64 0, .int .i64 0] w fun e w' => e = .returned (.tuple #[]) ∧ w' = w := by
 go_enter Tryz.func120, Tryz.ntmps120
 go_wp2
 refine wp_loop_rounds 1 ?_
 rw [rounds_succ]
 go_wp2
 exact body_endF (by kernel_rfl) rfl ⟨rfl, rfl⟩
set_option maxHeartbeats 1000000 in
theorem pdqF_nil (a : Option Addr) (cap : Nat) (v : Int) (w : World) : Calls Tryz.prog 106 #[.slice a 0 cap, .int .i64 0, .int .i64 0, .int .i64 v] w fun e w' => e = .returned (.tuple #[]) ∧ w' = w := by
 go_enter Tryz.func106, Tryz.ntmps106
 go_wp2
 refine wp_loop_rounds 1 ?_
 rw [rounds_succ]
 go_wp2_with (go_at_call 120; refine (insertF_nil a cap w).mono ?_; rintro _ w1 ⟨rfl, hr⟩)
 exact bodyPost_ret (v := .tuple #[]) (by simp [results, Tryz.results106, go_sem]) rfl ⟨rfl, by first | exact hr | rfl⟩
set_option maxHeartbeats 1000000 in
theorem sortF_nil (a : Option Addr) (cap : Nat) (w : World) : Calls Tryz.prog 82 #[.slice a 0 cap] w fun e w' => e = .returned (.tuple #[]) ∧ w' = w := by
 have LC : Hid (∀ W, Calls Tryz.prog 107 #[.int .u64 0] W fun e w' => (∃ v : Int, e = .returned (.int .i64 v)) ∧ w' = W) := hid (fun W => len_c 0 (by omega) W)
 go_enter Tryz.func82, Tryz.ntmps82
 go_wp2_with (first
   | (go_at_call 107; refine (LC.out _).mono ?_; rintro _ w1 ⟨⟨v, rfl⟩, h1⟩; rw [h1])
   | (go_at_call 106; refine (pdqF_nil a cap _ w).mono ?_; rintro _ w2 ⟨rfl, hr⟩))
 exact body_endF (by kernel_rfl) rfl ⟨rfl, by first | exact hr | rfl⟩
end Go.Proofs.YtgbdplammniidaaGreatDoor
namespace Go.Proofs.YtgbdplammniidaaGreatDoor
open Go.RowKit Go.ChangeShapes Go.WideShapes Go.ChangeAt Go.Maps
set_option linter.unusedVariables false
set_option linter.unusedSimpArgs false
set_option maxRecDepth 100000
structure Enc (α : Type) where
 enc : α → Value
 rd : Value → Option (DataW α × List MemPlace)
 wr : ∀ a, rd (enc a) = some (.held a, [])
 inv : ∀ {v z}, rd v = some z → ∃ a, v = enc a ∧ z = (.held a, [])
def numR : Value → Option (DataW Int × List MemPlace)
 | .int .i64 x => some (.held x, [])
 | _ => none
def numE : Enc Int := ⟨fun x => .int .i64 x, numR, fun _ => rfl, fun {v z} h => by
 unfold numR at h
 split at h
 · cases h; exact ⟨_, rfl, rfl⟩
 · cases h⟩
theorem lawF : Keyed Tryz.prog 26 := int_keyed Tryz.underlying26
def kyF (i : Int) : Lit := .int .u32 i
theorem kyF_ne {i j : Int} (h : j ≠ i) : kyF j ≠ kyF i := fun e => h (by unfold kyF at e; cases e; rfl)
theorem keyF {i : Int} (h0 : 0 ≤ i) (h1 : i < 4294967296) : keyOf Tryz.prog 26 (.int .u32 i) = some (kyF i) :=
 keyOf_int_mk Tryz.underlying26 (by simp [Lit.wf, IntKind.min, IntKind.max, IntKind.signed, IntKind.bits]; omega)
theorem same_kyF {i j : Int} : (kyF i).sameKey (kyF j) = decide (i = j) := by simp [kyF, Lit.sameKey]
theorem keyLitF (i : Int) : WideAt.IsKeyLit (kyF i) := by unfold kyF; trivial
section
variable {α : Type}
def lookF (D : DataW α) (i : Int) : Option α :=
 if Maps.has D (kyF i) = true then (match D.atKey (kyF i) .nil with | .held s => some s | _ => none) else none
def updF (f : Int → Option α) (i : Int) (v : Option α) : Int → Option α := fun j => if j = i then v else f j
theorem entriesF (E : Enc α) {w : World} {b n : Nat} {D : DataW α} (h : w.ownsMap Tryz.prog 26 E.rd b n D) :
   ∃ es, D = .map es ∧ es.Pairwise (fun p q => p.1 ≠ q.1) ∧ (∀ p ∈ es, ∃ i s, p = (kyF i, .held s) ∧ 0 ≤ i ∧ i < 4294967296) := by
 obtain ⟨es0, e0, hpw, _⟩ := h.entries lawF
 refine ⟨es0, e0, hpw, ?_⟩
 obtain ⟨es, clock, hb, F, hs, hD⟩ := h
 rw [e0] at hD
 cases hD
 intro p hp
 rw [mem_sorted, List.mem_map] at hp
 obtain ⟨x, hx, rfl⟩ := hp
 obtain ⟨y, hy⟩ := F.reads x hx
 rw [WideElems.rg_of hy]
 have k1 := WideElems.rd_key hy
 obtain ⟨z, hz, e2⟩ := WideElems.rd_val hy
 obtain ⟨i, _, e3, hw⟩ := Maps.keyOf_int_inv Tryz.underlying26 k1
 obtain ⟨s, h2, h3⟩ := E.inv hz
 refine ⟨i, s, ?_, ?_⟩
 · obtain ⟨y1, y2⟩ := y
   simp only at e2 e3
   rw [e3, e2, h3]
   rfl
 · have := bd_u32 hw
   omega
theorem findF : ∀ {es : List (Lit × DataW α)}, es.Pairwise (fun p q => p.1 ≠ q.1) → ∀ {i : Int} {s : α}, (kyF i, DataW.held s) ∈ es → es.find? (fun p => p.1.sameKey (kyF i)) = some (kyF i, DataW.held s)
 | [], _, i, s, hm => by cases hm
 | x :: l, hp, i, s, hm => by
   rw [List.pairwise_cons] at hp
   rcases List.mem_cons.1 hm with rfl | hm'
   · simp [List.find?_cons, same_kyF]
   · have hne : x.1 ≠ kyF i := hp.1 _ hm'
     rw [List.find?_cons, Maps.sameKey_ne hne]
     exact findF hp.2 hm'
theorem has_memF {es : List (Lit × DataW α)} {i : Int} {s : α} (hm : (kyF i, DataW.held s) ∈ es) : Maps.has (.map es) (kyF i) = true := by
 rw [Maps.has_eq, List.any_eq_true]; exact ⟨_, hm, by simp [same_kyF]⟩
theorem at_memF {es : List (Lit × DataW α)} (hp : es.Pairwise (fun p q => p.1 ≠ q.1)) {i : Int} {s : α} (hm : (kyF i, DataW.held s) ∈ es) (z : DataW α) : DataW.atKey (.map es) (kyF i) z = .held s := by
 simp [DataW.atKey, findF hp hm]
theorem look_memF {es : List (Lit × DataW α)} (hp : es.Pairwise (fun p q => p.1 ≠ q.1)) {i : Int} {s : α} (hm : (kyF i, DataW.held s) ∈ es) : lookF (.map es) i = some s := by
 unfold lookF
 rw [if_pos (has_memF hm), at_memF hp hm]
theorem look_noneF {D : DataW α} {i : Int} (h : Maps.has D (kyF i) = false) : lookF D i = none := by unfold lookF; rw [if_neg (by simp [h])]
theorem look_atF (E : Enc α) {w : World} {b n : Nat} {D : DataW α} (h : w.ownsMap Tryz.prog 26 E.rd b n D) (i : Int) (z : α) : D.atKey (kyF i) (.held z) = .held ((lookF D i).getD z) ∧ Maps.has D (kyF i) = (lookF D i).isSome ∧ ∀ s, lookF D i = some s → 0 ≤ i ∧ i < 4294967296 := by
 obtain ⟨es, e, hp, hs⟩ := entriesF E h
 subst e
 cases hh : Maps.has (.map es) (kyF i) with
 | false => rw [Maps.atKey_of_not_has hh, look_noneF hh]; exact ⟨rfl, rfl, fun s e => by cases e⟩
 | true =>
   rw [Maps.has_eq, List.any_eq_true] at hh
   obtain ⟨p, hp1, hp2⟩ := hh
   obtain ⟨j, s, rfl, hj⟩ := hs p hp1
   rw [same_kyF] at hp2
   simp at hp2
   subst hp2
   rw [look_memF hp hp1, at_memF hp hp1]
   exact ⟨rfl, rfl, fun _ _ => hj⟩
theorem Maps.has_eq_look_of {E : Enc α} {w : World} {b n : Nat} {D : DataW α} (h : w.ownsMap Tryz.prog 26 E.rd b n D) (i : Int) : Maps.has D (kyF i) = (lookF D i).isSome := by
 cases hl : lookF D i with
 | none =>
   cases hh : Maps.has D (kyF i) with
   | false => rfl
   | true =>
     exfalso
     obtain ⟨es, e, hp, hs⟩ := entriesF E h
     subst e
     rw [Maps.has_eq, List.any_eq_true] at hh
     obtain ⟨p, hp1, hp2⟩ := hh
     obtain ⟨j, s, rfl, hj⟩ := hs p hp1
     rw [same_kyF] at hp2
     simp at hp2
     subst hp2
     rw [look_memF hp hp1] at hl
     cases hl
 | some s => have := (look_atF E h i s).2.1; rw [hl] at this; exact this
theorem look_putF {D : DataW α} (h : Maps.IsMap D) (i : Int) (s : α) (j : Int) : lookF (D.put (kyF i) (.held s)) j = updF (lookF D) i (some s) j := by
 unfold updF
 by_cases hj : j = i
 · subst hj
   rw [if_pos rfl]
   unfold lookF
   rw [Maps.has_put_same h (keyLitF _), if_pos rfl, Maps.atKey_put_same h (keyLitF _)]
 · rw [if_neg hj]
   unfold lookF
   rw [Maps.has_put_other (kyF_ne hj), Maps.atKey_put_other (kyF_ne hj)]
theorem look_delF {D : DataW α} (i : Int) (j : Int) : lookF (D.del (kyF i)) j = updF (lookF D) i none j := by
 unfold updF
 by_cases hj : j = i
 · subst hj
   rw [if_pos rfl, look_noneF Maps.has_del_same]
 · rw [if_neg hj]
   unfold lookF
   rw [Maps.has_del_other (kyF_ne hj), Maps.atKey_del_other (kyF_ne hj)]
def IsFm (E : Enc α) (w : World) (b m : Nat) (f : Int → Option α) : Prop := ∃ D, w.ownsMap Tryz.prog 26 E.rd b m D ∧ Maps.size D = m ∧ ∀ i, f i = lookF D i
theorem IsFm.lt {E : Enc α} {w : World} {b m : Nat} {f : Int → Option α} (h : IsFm E w b m f) : b < w.heap.size := by obtain ⟨D, ho, _⟩ := h; exact ho.lt
theorem IsFm.out {E : Enc α} {S : Nat → Prop} {w w' : World} {b m : Nat} {f : Int → Option α} (h : IsFm E w b m f) (ho : Ou S w w') (hS : ¬ S b) : IsFm E w' b m f := by
 have hl := h.lt
 obtain ⟨D, ⟨es, clock, hb, r⟩, hf⟩ := h
 exact ⟨D, ⟨es, clock, by rw [ho.block b hl hS]; exact hb, r⟩, hf⟩
theorem IsFm.keys {E : Enc α} {w : World} {b m : Nat} {f : Int → Option α} (h : IsFm E w b m f) {i : Int} {s : α} (hi : f i = some s) : 0 ≤ i ∧ i < 4294967296 := by
 obtain ⟨D, ho, _, hf⟩ := h
 exact (look_atF E ho i s).2.2 s (by rw [← hf i]; exact hi)
theorem IsFm.made (E : Enc α) (w : World) : IsFm E (w.alloc (.map #[] 0)) w.heap.size 0 (fun _ => none) :=
 ⟨.map [], World.ownsMap_made w Tryz.prog 26 E.rd, rfl, fun i => by simp [lookF, Maps.has]⟩
theorem Ou.turned {S : Nat → Prop} {w w' : World} {b : Nat} (h : w.mapTurned w' b) (hS : S b) : Ou S w w' :=
 have g := h.grown
 ⟨g.os, g.tape, g.output, g.size, fun i hi hn => g.block i hi (fun e => by cases e; exact hn hS)⟩
def addN (f : Int → Option α) (i : Int) (m : Nat) : Nat := if (f i).isSome then m else m + 1
def delN (f : Int → Option α) (i : Int) (m : Nat) : Nat := if (f i).isSome then m - 1 else m
theorem IsFm.look {E : Enc α} {w : World} {b m : Nat} {f : Int → Option α} (h : IsFm E w b m f) {tm te : TypeId} (ht : Tryz.prog.underlying tm = some (.map 26 te)) {z : α} (hz : ∀ w, (zeroValue te).run Tryz.prog w = .ok (E.enc z) w) {i : Int} (h0 : 0 ≤ i) (h1 : i < 4294967296) :
   (Instr.lookup tm (.map (some b)) (.int .u32 i) false).run Tryz.prog w = .ok (E.enc ((f i).getD z)) w := by
 obtain ⟨D, ho, _, hf⟩ := h
 obtain ⟨v, ps, hrun, hv⟩ := ho.lookup lawF ht (hz w) (E.wr z) (keyF h0 h1)
 obtain ⟨e1, _⟩ := look_atF E ho i z
 rw [e1] at hv
 obtain ⟨s, rfl, e3⟩ := E.inv hv
 cases e3
 rw [hf i]
 exact hrun
theorem IsFm.lookOk {E : Enc α} {w : World} {b m : Nat} {f : Int → Option α} (h : IsFm E w b m f) {tm te : TypeId} (ht : Tryz.prog.underlying tm = some (.map 26 te)) {z : α} (hz : ∀ w, (zeroValue te).run Tryz.prog w = .ok (E.enc z) w) {i : Int} (h0 : 0 ≤ i) (h1 : i < 4294967296) :
   (Instr.lookup tm (.map (some b)) (.int .u32 i) true).run Tryz.prog w = .ok (.tuple #[E.enc ((f i).getD z), .bool (f i).isSome]) w := by
 obtain ⟨D, ho, _, hf⟩ := h
 obtain ⟨v, ps, hrun, hv⟩ := ho.look_ok lawF ht (hz w) (E.wr z) (keyF h0 h1)
 obtain ⟨e1, e2, _⟩ := look_atF E ho i z
 rw [e1] at hv
 rw [e2] at hrun
 obtain ⟨s, rfl, e3⟩ := E.inv hv
 cases e3
 rw [hf i]
 exact hrun
theorem IsFm.len {E : Enc α} {w : World} {b m : Nat} {f : Int → Option α} (h : IsFm E w b m f) {tm te : TypeId} (ht : Tryz.prog.underlying tm = some (.map 26 te)) (ty : TypeId) : (Builtin.len_ #[tm] ty #[.map (some b)]).run Tryz.prog w = .ok (.int .i64 (m : Int)) w := by
 obtain ⟨D, ho, hs, hf⟩ := h
 have := ho.len ht ty
 rw [hs] at this
 exact this
theorem own_size {E : Enc α} {w : World} {b n : Nat} {D : DataW α} (h : w.ownsMap Tryz.prog 26 E.rd b n D) : w.ownsMap Tryz.prog 26 E.rd b (Maps.size D) D := by
 obtain ⟨es, clock, hb, F, hs, rfl⟩ := h
 exact ⟨es, clock, hb, F, by simp [Maps.size, length_sorted], rfl⟩
theorem IsFm.store {E : Enc α} {w : World} {b m : Nat} {f : Int → Option α} (h : IsFm E w b m f) (hm : m < 1000) {tm te : TypeId} (ht : Tryz.prog.underlying tm = some (.map 26 te)) {i : Int} (h0 : 0 ≤ i) (h1 : i < 4294967296) (s : α) :
   ∃ w', (Instr.mapUpdate tm (.map (some b)) (.int .u32 i) (E.enc s)).run Tryz.prog w = .ok () w' ∧ IsFm E w' b (addN f i m) (updF f i (some s)) ∧ w.mapTurned w' b := by
 obtain ⟨D, ho, hs, hf⟩ := h
 obtain ⟨w', hrun, ho', ht'⟩ := ho.store lawF ht (by unfold maxLen; omega) (keyF h0 h1) (E.wr s)
 refine ⟨w', hrun, ⟨D.put (kyF i) (.held s), ?_, ?_, fun j => ?_⟩, ht'⟩
 · have e : Maps.size (D.put (kyF i) (.held s)) = addN f i m := by
     rw [Maps.size_put (ho.tidy lawF)]
     unfold addN
     rw [(look_atF E ho i s).2.1, ← hf i, hs]
   rw [← e]
   exact own_size ho'
 · rw [Maps.size_put (ho.tidy lawF)]
   unfold addN
   rw [(look_atF E ho i s).2.1, ← hf i, hs]
 · rw [look_putF ho.isMap]; unfold updF; rw [hf]
theorem IsFm.drop {E : Enc α} {w : World} {b m : Nat} {f : Int → Option α} (h : IsFm E w b m f) {tm te : TypeId} (ht : Tryz.prog.underlying tm = some (.map 26 te)) {i : Int} (h0 : 0 ≤ i) (h1 : i < 4294967296) (ty : TypeId) :
   ∃ w', (Builtin.delete_ #[tm, 26] ty #[.map (some b), .int .u32 i]).run Tryz.prog w = .ok (.tuple #[]) w' ∧ IsFm E w' b (delN f i m) (updF f i none) ∧ w.mapTurned w' b := by
 obtain ⟨D, ho, hs, hf⟩ := h
 obtain ⟨w', hrun, ho', ht'⟩ := ho.drop lawF ht (keyF h0 h1) ty
 have e : Maps.size (D.del (kyF i)) = delN f i m := by
   have e1 := Maps.size_del (k := kyF i) (ho.tidy lawF)
   unfold delN
   cases hh : (f i).isSome with
   | true =>
     have h2 : Maps.has D (kyF i) = true := by
       rw [Maps.has_eq_look_of (E := E) ho i, ← hf i]; exact hh
     rw [h2] at e1
     simp at e1 ⊢
     omega
   | false =>
     have h2 : Maps.has D (kyF i) = false := by
       rw [Maps.has_eq_look_of (E := E) ho i, ← hf i]; exact hh
     rw [h2] at e1
     simp at e1 ⊢
     omega
 refine ⟨w', hrun, ⟨D.del (kyF i), ?_, e, fun j => ?_⟩, ht'⟩
 · rw [← e]; exact own_size ho'
 · rw [look_delF]; unfold updF; rw [hf]
end
end Go.Proofs.YtgbdplammniidaaGreatDoor
