/-
  Plain laws on numbers for the package bits: what Zig, Zag, Pack, Make, Turn, Low come to as arithmetic on integers; no program is named here.
  What each function of the package bits, and of the document's answer for it, returns: one contract a function.
  An operation.
  Plain laws on lists of bytes for the package path: what names, Split and Join come to; no program is named here.
  path.Name, alone.
  Plain laws on packets as bytes: which bytes a packet has, when bytes begin with a right packet's, and that they tell which; no program is named here.
  What each function of the package frame returns that writes a packet, or tells whether it is right: one contract a function.
-/
import Derived.WalkKit
import Derived.ProofKit
import Derived.Test.YtloojakcknnilaaGreatRows
import Derived.OpenShut
import Derived.ShutString
import Derived.WalkSpells
import Derived.WalkLawsBesides
import Derived.Lib.SlBytesConst
import Derived.Deep.QuietTactic
import Derived.BigQuiet
import Derived.Lib.OthersKept
import Derived.Lib.BufferWrite
import Derived.Lib.UnsafeStr
import Derived.Laws.MakeOwn
import Derived.Deep.LoopGhost
import Derived.Lib.Strings
import Derived.Lib.IndexBytes
import Derived.Deep.RegionHeld3
import Derived.Deep.AppendLies
import Derived.Deep.DrawnRows
import Derived.Lib.AppendStr
namespace Go.Proofs.YtloojakcknnilaaGreat.M
set_option linter.unusedVariables false
open Go.RowKit
theorem wrap_i64 (n : Int) : IntKind.i64.wrap n = wrap64 n := by
  rw [IntKind.wrap_i64]; unfold wrap64; omega
/-! ### Make -/
/-! ### Turn -/
/-! ### Low -/
/-! ### Fold -/
def foldS (s b : Int) : Int := IntKind.u32.wrap (bits .xor .u32 s b * 16777619)
def foldF (l : List Int) : Int := l.foldl foldS 2166136261
/-! ### Both ways -/
end Go.Proofs.YtloojakcknnilaaGreat.M
namespace Go.Proofs.YtloojakcknnilaaGreat
open Go.RowKit Go.ChangeShapes Go.WideShapes Go.ChangeAt
set_option linter.unusedVariables false
set_option linter.unusedSimpArgs false
theorem bd_u32 {a : Int} (h : (Lit.int .u32 a).wf = true) : 0 ≤ a ∧ a < 4294967296 := by
  simp [Lit.wf, IntKind.min, IntKind.max, IntKind.signed, IntKind.bits] at h; omega
theorem bd_u8 {a : Int} (h : (Lit.int .u8 a).wf = true) : 0 ≤ a ∧ a < 256 := by
  simp [Lit.wf, IntKind.min, IntKind.max, IntKind.signed, IntKind.bits] at h; omega
theorem hid {p : Prop} (h : p) : Hid p := h
/-- A slice of bytes, as the walk is told of it: its length, and the numbers in its cells. -/
def IsB (w : World) (a : Option Addr) (len : Nat) (zs : List Int) : Prop :=
  zs.length = len ∧ len ≤ maxLen ∧ (0 < len → ∃ b off, a = some ⟨b, off, none⟩ ∧ ∀ i, i < len → w.cell? ⟨b, off + i, none⟩ = some (.int .u8 (zs.getD i 0))) ∧ ∀ i, 0 ≤ zs.getD i 0 ∧ zs.getD i 0 ≤ 255
theorem IsB.later {w w' : World} {a : Option Addr} {len : Nat} {zs : List Int} (h : IsB w a len zs) (hb : Below w.heap.size w w') : IsB w' a len zs := by
  obtain ⟨h1, h2, h3, h4⟩ := h
  refine ⟨h1, h2, fun hp => ?_, h4⟩
  obtain ⟨b, off, e, hc⟩ := h3 hp
  exact ⟨b, off, e, fun i hi => cell_later hb (hc i hi)⟩
end Go.Proofs.YtloojakcknnilaaGreat
namespace Go.Proofs.YtloojakcknnilaaGreat
/-- A record: its operation's kind, fid, directory, name, other directory, other name, mode, data; the version that was seen. -/
structure Rec where
  k : Int
  fid : Int
  dir : Int
  nm : ByteArray
  to : Int
  nm2 : ByteArray
  md : Int
  dt : ByteArray
  sn : Int
end Go.Proofs.YtloojakcknnilaaGreat
namespace Go.Proofs.YtloojakcknnilaaGreat.Pa
set_option linter.unusedVariables false
set_option linter.unusedSimpArgs false
open Go.RowKit
/-- A letter that may stand in a name, as a number. -/
def okR (r : Int) : Bool := decide (97 ≤ r ∧ r ≤ 122) || decide (48 ≤ r ∧ r ≤ 57) || decide (r = 46) || decide (r = 45) || decide (r = 95)
def okC (c : UInt8) : Bool := okR (c.toNat : Int)
theorem okR_high (r : Int) (h : 128 ≤ r) : okR r = false := by simp [okR]; omega
/-- What may be a name. -/
def nameB (l : List UInt8) : Bool := decide (1 ≤ l.length) && decide (l.length ≤ 12) && !(l == [46]) && !(l == [46, 46]) && l.all okC
theorem nameB_short (l : List UInt8) (h : l.length < 1) : nameB l = false := by simp [nameB]; omega
theorem nameB_long (l : List UInt8) (h : 12 < l.length) : nameB l = false := by simp [nameB]; omega
theorem nameB_dot : nameB [46] = false := by decide
theorem nameB_dots : nameB [46, 46] = false := by decide
theorem nameB_mid (l : List UInt8) (h1 : 1 ≤ l.length) (h2 : l.length ≤ 12) (h3 : (l == [46]) = false) (h4 : (l == [46, 46]) = false) : nameB l = l.all okC := by
  simp [nameB, h1, h2, h3, h4]
theorem all_take_succ (l : List UInt8) (j : Nat) (h : j < l.length) (ha : (l.take j).all okC = true) (hc : okC l[j] = true) : (l.take (j + 1)).all okC = true := by
  rw [List.take_succ_eq_append_getElem h, List.all_append, ha, List.all_cons, List.all_nil, hc]; rfl
theorem all_bad (l : List UInt8) (j : Nat) (h : j < l.length) (hc : okC l[j] = false) : l.all okC = false := by
  rw [Bool.eq_false_iff]
  intro ha
  rw [List.all_eq_true] at ha
  have := ha l[j] (List.getElem_mem h)
  rw [hc] at this; exact Bool.noConfusion this
/-! ### What stands between the slashes -/
def piecesF : List UInt8 → List (List UInt8)
  | [] => [[]]
  | c :: r => if c = 47 then [] :: piecesF r else (match piecesF r with | p :: ps => (c :: p) :: ps | [] => [[c]])
theorem pieces_none : ∀ (l : List UInt8), 47 ∉ l → piecesF l = [l]
  | [], _ => rfl
  | c :: r, h => by
    have hc : ¬ c = 47 := fun e => h (by rw [e]; exact List.mem_cons_self)
    have hr : 47 ∉ r := fun e => h (List.mem_cons_of_mem _ e)
    simp only [piecesF, if_neg hc, pieces_none r hr]
theorem pieces_cut : ∀ (a b : List UInt8), 47 ∉ a → piecesF (a ++ 47 :: b) = a :: piecesF b
  | [], b, _ => by simp [piecesF]
  | c :: r, b, h => by
    have hc : ¬ c = 47 := fun e => h (by rw [e]; exact List.mem_cons_self)
    have hr : 47 ∉ r := fun e => h (List.mem_cons_of_mem _ e)
    simp only [List.cons_append, piecesF, if_neg hc, pieces_cut r b hr]
theorem pieces_length : ∀ (l : List UInt8), (piecesF l).length ≤ l.length + 1
  | [] => by simp [piecesF]
  | c :: r => by
    have := pieces_length r
    unfold piecesF
    split
    · simp; omega
    · split
      · rename_i p ps h; rw [h] at this; simp at this ⊢; omega
      · simp
theorem pieces_mem : ∀ (l p : List UInt8), p ∈ piecesF l → p.length ≤ l.length
  | [], p, h => by simp [piecesF] at h; simp [h]
  | c :: r, p, h => by
    unfold piecesF at h
    split at h
    · rcases List.mem_cons.1 h with rfl | h
      · simp
      · have := pieces_mem r p h; simp; omega
    · have ih := pieces_mem r
      split at h
      · rename_i q qs hq
        rw [hq] at ih
        rcases List.mem_cons.1 h with rfl | h
        · have := ih q List.mem_cons_self; simp; omega
        · have := ih p (List.mem_cons_of_mem _ h); simp; omega
      · simp at h; simp [h]
/-- What the loop of pieces has found when it stands at j. -/
def Found (l : List UInt8) (start j : Nat) (done : List (List UInt8)) : Prop :=
  start ≤ j ∧ done ++ piecesF (l.drop start) = piecesF l ∧ 47 ∉ (l.drop start).take (j - start)
theorem found_zero (l : List UInt8) : Found l 0 0 [] := ⟨Nat.le_refl _, by simp, by simp⟩
theorem found_on {l : List UInt8} {start j : Nat} {done : List (List UInt8)} (h : Found l start j done) (n : Nat) (hn : ∀ k, j ≤ k → k < n → ∀ hk : k < l.length, l[k] ≠ 47) (hjn : j ≤ n) : Found l start n done := by
  obtain ⟨h1, h2, h3⟩ := h
  refine ⟨by omega, h2, fun hm => ?_⟩
  obtain ⟨i, hi, he⟩ := List.getElem_of_mem hm
  rw [List.length_take, List.length_drop] at hi
  rw [List.getElem_take, List.getElem_drop] at he
  by_cases hlt : start + i < j
  · apply h3
    rw [List.mem_take_iff_getElem]
    exact ⟨i, by rw [List.length_drop]; omega, by rw [List.getElem_drop]; exact he⟩
  · exact hn (start + i) (by omega) (by omega) (by omega) he
theorem found_cut {l : List UInt8} {start j : Nat} {done : List (List UInt8)} (h : Found l start j done) (hj : j < l.length) (hc : l[j] = 47) : Found l (j + 1) (j + 1) (done ++ [(l.drop start).take (j - start)]) := by
  obtain ⟨h1, h2, h3⟩ := h
  refine ⟨Nat.le_refl _, ?_, by simp⟩
  have e : l.drop start = (l.drop start).take (j - start) ++ 47 :: l.drop (j + 1) := by
    have e1 := (List.take_append_drop (j - start) (l.drop start)).symm
    rw [List.drop_drop, show start + (j - start) = j from by omega, List.drop_eq_getElem_cons hj, hc] at e1
    exact e1
  rw [List.append_assoc, List.singleton_append, ← pieces_cut _ _ h3, ← e, h2]
theorem found_end {l : List UInt8} {start j : Nat} {done : List (List UInt8)} (h : Found l start j done) (hj : l.length ≤ j) : piecesF l = done ++ [l.drop start] := by
  obtain ⟨h1, h2, h3⟩ := h
  rw [List.take_of_length_le (by rw [List.length_drop]; omega)] at h3
  rw [← h2, pieces_none _ h3]
theorem found_length {l : List UInt8} {start j : Nat} {done : List (List UInt8)} (h : Found l start j done) : done.length ≤ l.length := by
  obtain ⟨h1, h2, h3⟩ := h
  have h4 := pieces_length l
  rw [← h2, List.length_append] at h4
  have h5 : 1 ≤ (piecesF (l.drop start)).length := by
    cases l.drop start with
    | nil => simp [piecesF]
    | cons c r => unfold piecesF; split <;> (try split) <;> simp
  omega
/-- A rune of more than one letter, or none, skips letters above 127 alone. -/
theorem decode_skip (s : ByteArray) (pos : Nat) (h : pos < s.size) (ha : 128 ≤ (s[pos]'h).toNat) : ∀ k, k < (Utf8.decode s pos).2 → pos + k < s.size ∧ 128 ≤ (s.get! (pos + k)).toNat := by
  have hn : ¬ (s[pos]'h).toNat < 128 := by omega
  have h0 : pos + 0 < s.size ∧ 128 ≤ (s.get! (pos + 0)).toNat := ⟨by omega, by rw [get_at s pos h]; exact ha⟩
  have hcont : ∀ k, ((decide (pos + k < s.size) && (s.get! (pos + k)).toNat / 64 == 2) = true) → pos + k < s.size ∧ 128 ≤ (s.get! (pos + k)).toNat := by
    intro k hk
    simp at hk
    omega
  intro k hk
  simp only [Utf8.decode, get_at s pos h, hn, if_false] at hk
  have one : ∀ k, k < 1 → pos + k < s.size ∧ 128 ≤ (s.get! (pos + k)).toNat := fun k hk => by
    obtain rfl : k = 0 := by omega
    exact h0
  split at hk
  · rename_i h2
    rw [Bool.and_eq_true] at h2
    have c1 := hcont 1 h2.2
    split at hk
    · rcases k with _ | _ | k
      · exact h0
      · exact c1
      · exact absurd hk (by simp)
    · exact one k hk
  · split at hk
    · rename_i h2
      rw [Bool.and_eq_true, Bool.and_eq_true] at h2
      have c1 := hcont 1 h2.1.2
      have c2 := hcont 2 h2.2
      split at hk
      · rcases k with _ | _ | _ | k
        · exact h0
        · exact c1
        · exact c2
        · exact absurd hk (by simp)
      · exact one k hk
    · split at hk
      · rename_i h2
        rw [Bool.and_eq_true, Bool.and_eq_true, Bool.and_eq_true] at h2
        have c1 := hcont 1 h2.1.1.2
        have c2 := hcont 2 h2.1.2
        have c3 := hcont 3 h2.2
        split at hk
        · rcases k with _ | _ | _ | _ | k
          · exact h0
          · exact c1
          · exact c2
          · exact c3
          · exact absurd hk (by simp)
        · exact one k hk
      · exact one k hk
/-! ### Split -/
def stepN (acc : List (List UInt8)) (p : List UInt8) : Option (List (List UInt8)) :=
  if p = [] ∨ p = [46] then some acc else if p = [46, 46] then some acc.dropLast else if nameB p = true then some (acc ++ [p]) else none
def splitN : List (List UInt8) → List (List UInt8) → Option (List (List UInt8))
  | acc, [] => some acc
  | acc, p :: ps => (stepN acc p).bind fun a => splitN a ps
def splitF (l : List UInt8) : Option (List (List UInt8)) :=
  if l.length ≤ 120 ∧ l.head? = some 47 then splitN [] (piecesF l) else none
theorem splitN_at (acc P : List (List UInt8)) (k : Nat) (h : k < P.length) : splitN acc (P.drop k) = (stepN acc P[k]).bind fun a => splitN a (P.drop (k + 1)) := by
  rw [List.drop_eq_getElem_cons h]; rfl
theorem step_empty (acc : List (List UInt8)) : stepN acc [] = some acc := by simp [stepN]
theorem step_dot (acc : List (List UInt8)) : stepN acc [46] = some acc := by simp [stepN]
theorem step_dots (acc : List (List UInt8)) : stepN acc [46, 46] = some acc.dropLast := by simp [stepN]
theorem step_name (acc : List (List UInt8)) (p : List UInt8) (h : nameB p = true) : stepN acc p = some (acc ++ [p]) := by
  have h0 : p ≠ [] := fun e => by rw [e] at h; exact absurd h (by decide)
  have h1 : p ≠ [46] := fun e => by rw [e] at h; exact absurd h (by decide)
  have h2 : p ≠ [46, 46] := fun e => by rw [e] at h; exact absurd h (by decide)
  simp [stepN, h0, h1, h2, h]
theorem step_bad (acc : List (List UInt8)) (p : List UInt8) (h0 : p ≠ []) (h1 : p ≠ [46]) (h2 : p ≠ [46, 46]) (h : nameB p = false) : stepN acc p = none := by
  simp [stepN, h0, h1, h2, h]
theorem name_len (p : List UInt8) (h : nameB p = true) : 1 ≤ p.length ∧ p.length ≤ 12 := by
  simp [nameB] at h
  omega
/-! ### Join -/
/-! ### What Split answers are names -/
/-! ### Below -/
/-! ### Join and Split, both ways -/
/-! ### Down and up -/
/-! ### A name with one more letter -/
end Go.Proofs.YtloojakcknnilaaGreat.Pa
namespace Go.Proofs.YtloojakcknnilaaGreat
open Go.RowKit Go.ChangeShapes Go.WideShapes Go.ChangeAt
set_option linter.unusedVariables false
set_option linter.unusedSimpArgs false
theorem ret_bool' {a b : Bool} (h : a = b) : Ending.returned (.bool a) = .returned (.bool b) := by rw [h]
theorem hid' {p : Prop} (h : p) : Hid p := h
set_option maxHeartbeats 1000000 in
theorem inName_c (r : Int) (w : World) :
    Calls Tryz.prog 99 #[.int .i32 r] w fun e w' => e = .returned (.bool (Pa.okR r)) ∧ w' = w := by
  go_enter Tryz.func99, Tryz.ntmps99
  go_wp2
  all_goals go_ret
  all_goals exact ⟨ret_bool' (by first | rfl | (rw [Bool.eq_iff_iff]; simp [Pa.okR]; done) | (rw [Bool.eq_iff_iff]; simp [Pa.okR]; omega)), rfl⟩
set_option maxHeartbeats 1000000 in
theorem name_c (s : ByteArray) (w : World) (hs : s.size ≤ maxLen) :
    Calls Tryz.prog 70 #[.string s] w fun e w' => e = .returned (.bool (Pa.nameB s.data.toList)) ∧ Below w.heap.size w w' := by
  have hlen : s.data.toList.length = s.size := rfl
  unfold maxLen at hs
  by_cases h1 : s.size < 1
  · have N := hid' (Pa.nameB_short s.data.toList (by omega))
    go_enter Tryz.func70, Tryz.ntmps70
    go_wp2
    go_ret
    exact ⟨ret_bool' N.out.symm, Below.refl _ _⟩
  · by_cases h2 : 12 < s.size
    · have N := hid' (Pa.nameB_long s.data.toList (by omega))
      go_enter Tryz.func70, Tryz.ntmps70
      go_wp2
      go_ret
      exact ⟨ret_bool' N.out.symm, Below.refl _ _⟩
    · cases h3 : (s.toList == [46]) with
      | true =>
        have N : Hid (Pa.nameB s.data.toList = false) := by
          have : s.data.toList = [46] := by rw [← Lib.toList_data]; exact beq_iff_eq.1 h3
          show _ = _
          rw [this]; exact Pa.nameB_dot
        go_enter Tryz.func70, Tryz.ntmps70
        go_wp2
        go_ret
        exact ⟨ret_bool' N.out.symm, Below.refl _ _⟩
      | false =>
        cases h4 : (s.toList == [46, 46]) with
        | true =>
          have N : Hid (Pa.nameB s.data.toList = false) := by
            have : s.data.toList = [46, 46] := by rw [← Lib.toList_data]; exact beq_iff_eq.1 h4
            show _ = _
            rw [this]; exact Pa.nameB_dots
          go_enter Tryz.func70, Tryz.ntmps70
          go_wp2
          go_ret
          exact ⟨ret_bool' N.out.symm, Below.refl _ _⟩
        | false =>
          have N : Hid (Pa.nameB s.data.toList = s.data.toList.all Pa.okC) := Pa.nameB_mid _ (by omega) (by omega) (by rw [← Lib.toList_data]; exact h3) (by rw [← Lib.toList_data]; exact h4)
          have g1 : decide ((s.size : Int) < 1) = false := by simp; omega
          have g2 : decide ((12 : Int) < (s.size : Int)) = false := by simp; omega
          have HL := hid' hlen
          clear hlen
          go_enter Tryz.func70, Tryz.ntmps70
          go_wp2
          go_loopw [4] (fun r wr => ∃ j : Nat, wr = w.iter s j ∧ j ≤ s.size ∧ Hid ((s.data.toList.take j).all Pa.okC = true)) (fun _ wr => s.size - wr.iterPos w.heap.size)
          case atStart => exact ⟨0, rfl, by omega, by simp [Hid]⟩
          case round =>
            obtain ⟨j, rfl, hj, HA⟩ := hrel
            have hpos := World.iterPos_iter w s j
            by_cases hp : j < s.size
            · by_cases ha : (s[j]'hp).toNat < 128
              · have hnx := fun ty => run_next_ascii (P := Tryz.prog) w s j ty hp ha
                cases hc : Pa.okR ((s[j]'hp).toNat : Int) with
                | true =>
                  have HB : Hid ((s.data.toList.take (j + 1)).all Pa.okC = true) := Pa.all_take_succ s.data.toList j (by have := HL.out; omega) HA.out (by unfold Pa.okC; exact hc)
                  go_wp2_with (go_at_call 99; refine (inName_c _ _).mono ?_; rintro e w' ⟨rfl, rfl⟩)
                  go_roundw
                  case rel => exact ⟨j + 1, rfl, by omega, HB⟩
                  case measure => rw [World.iterPos_iter, World.iterPos_iter]; omega
                | false =>
                  have HB : Hid (s.data.toList.all Pa.okC = false) := Pa.all_bad s.data.toList j (by have := HL.out; omega) (by unfold Pa.okC; exact hc)
                  go_wp2_with (go_at_call 99; refine (inName_c _ _).mono ?_; rintro e w' ⟨rfl, rfl⟩)
                  go_ret
                  exact ⟨ret_bool' (by rw [N.out, HB.out]), (Below.refl _ _).alloc (Nat.le_refl _) _⟩
              · have hnx := fun ty => run_next_any (P := Tryz.prog) w s j ty hp
                have hd := decode_high s j hp (by omega)
                have hc : Pa.okR ((Utf8.decode s j).1 : Int) = false := Pa.okR_high _ (by omega)
                have HB : Hid (s.data.toList.all Pa.okC = false) := Pa.all_bad s.data.toList j (by have := HL.out; omega) (by unfold Pa.okC; exact Pa.okR_high _ (by have h' : (s.data.toList[j]'(by have := HL.out; omega)) = s[j]'hp := rfl; rw [h']; omega))
                go_wp2_with (go_at_call 99; refine (inName_c _ _).mono ?_; rintro e w' ⟨rfl, rfl⟩)
                go_ret
                exact ⟨ret_bool' (by rw [N.out, HB.out]), (Below.refl _ _).alloc (Nat.le_refl _) _⟩
            · have hnx := fun ty => run_next_end (P := Tryz.prog) w s j ty hp
              go_wp2
              go_ret
              exact ⟨ret_bool' (by rw [N.out]; have := HA.out; rw [List.take_of_length_le (by have := HL.out; omega)] at this; exact this.symm), (Below.refl _ _).alloc (Nat.le_refl _) _⟩
end Go.Proofs.YtloojakcknnilaaGreat
namespace Go.Proofs.YtloojakcknnilaaGreat.Fr
set_option linter.unusedVariables false
open Go.RowKit
/-- A text's bytes as numbers. -/
def bs (b : ByteArray) : List Int := b.data.toList.map fun c => (c.toNat : Int)
/-- Numbers as a text's bytes. -/
def tx (l : List Int) : ByteArray := ⟨(l.map fun x => UInt8.ofNat x.toNat).toArray⟩
def le4 (n : Int) : List Int := [n % 256, n / 256 % 256, n / 65536 % 256, n / 16777216 % 256]
def le2 (n : Int) : List Int := [n % 256, n / 256 % 256]
structure Pk where
  k : Int
  f : Int
  t : Int
  e : Int
  s : Int
  b : ByteArray
def val (p : Pk) : Value := .agg #[.int .u8 p.k, .int .u8 p.f, .int .u8 p.t, .int .u32 p.e, .int .u32 p.s, .string p.b]
def Wf (p : Pk) : Prop := (0 ≤ p.k ∧ p.k < 256) ∧ (0 ≤ p.f ∧ p.f < 256) ∧ (0 ≤ p.t ∧ p.t < 256) ∧ (0 ≤ p.e ∧ p.e < 4294967296) ∧ (0 ≤ p.s ∧ p.s < 4294967296)
def head (p : Pk) : List Int := 66 :: 87 :: p.k :: p.f :: p.t :: (le4 p.e ++ le4 p.s ++ le2 p.b.size ++ bs p.b)
def enc (p : Pk) : List Int := head p ++ le4 (M.foldF (head p))
theorem bs_tx (l : List Int) (h : ∀ x ∈ l, 0 ≤ x ∧ x ≤ 255) : bs (tx l) = l := by
  unfold tx bs
  simp only [List.map_map]
  conv => rhs; rw [← List.map_id l]
  apply List.map_congr_left
  intro x hx
  have := h x hx
  show ((UInt8.ofNat x.toNat).toNat : Int) = x
  rw [UInt8.toNat_ofNat_of_lt' (show x.toNat < 256 by omega)]; omega
end Go.Proofs.YtloojakcknnilaaGreat.Fr
namespace Go.Proofs.YtloojakcknnilaaGreat
open Go.RowKit Go.ChangeShapes Go.WideShapes Go.ChangeAt
set_option linter.unusedVariables false
set_option linter.unusedSimpArgs false
theorem info_parts8 : ∃ i : TypeInfo, Tryz.prog.info? 5 = some i ∧ i.zero = some (.int .u8 0) ∧ i.size = 1 ∧ i.bytes = 1 := by
  have h : (Tryz.prog.info? 5).map (fun i => (i.zero, i.size, i.bytes)) = some (some (.int .u8 0), 1, 1) := by kernel_rfl
  cases hi : Tryz.prog.info? 5 with
  | none => rw [hi] at h; cases h
  | some i =>
    rw [hi] at h
    simp at h
    exact ⟨i, rfl, h.1, h.2.1, h.2.2⟩
def u8V (x : Int) : Value := .int .u8 x
/-- What lies below block 'base', but for block g, is as it was. -/
structure Kpt (base g : Nat) (w w' : World) : Prop where
  os : w'.os = w.os
  tape : w'.tape = w.tape
  output : w'.output = w.output
  size : w.heap.size ≤ w'.heap.size
  block : ∀ k, k < base → k ≠ g → w'.heap[k]? = w.heap[k]?
theorem Kpt.refl (base g : Nat) (w : World) : Kpt base g w w := ⟨rfl, rfl, rfl, Nat.le_refl _, fun _ _ _ => rfl⟩
theorem Kpt.trans {base g : Nat} {a b c : World} (h : Kpt base g a b) (k : Kpt base g b c) : Kpt base g a c :=
  ⟨k.os.trans h.os, k.tape.trans h.tape, k.output.trans h.output, Nat.le_trans h.size k.size, fun i hi hne => (k.block i hi hne).trans (h.block i hi hne)⟩
theorem Kpt.on {base g : Nat} {a b c : World} (h : Kpt base g a b) (k : Kpt base g b.drew c) : Kpt base g a c := h.trans ⟨k.os, k.tape, k.output, k.size, k.block⟩
theorem Kpt.drew {base g : Nat} {a b : World} (h : Kpt base g a b) : Kpt base g a b.drew := ⟨h.os, h.tape, h.output, h.size, h.block⟩
theorem Kpt.below {base g B : Nat} {a b : World} (h : Kpt base g a b) (h1 : B ≤ base) (h2 : B ≤ g) : Below B a b := ⟨h.os, h.tape, h.output, h.size, fun k hk => h.block k (by omega) (by omega)⟩
theorem Kpt.cell {base g : Nat} {w w' : World} (h : Kpt base g w w') {p : Addr} (h1 : p.block < base) (h2 : p.block ≠ g) : w'.cell? p = w.cell? p := World.cell?_of_block (h.block p.block h1 h2)
/-- A pile: its cell lies in block g, its bytes in a block of its own from 'base' on. -/
def Pile (w : World) (T base g : Nat) (zs : List Int) : Prop :=
  g < base ∧ base ≤ w.heap.size ∧ ∃ v, w.heap[g]? = some (.cells #[v] T (0, 0)) ∧ w.ownsRow base 5 1 v zs.length (zs.map u8V)
theorem Pile.drew {w : World} {T base g : Nat} {zs : List Int} (h : Pile w T base g zs) : Pile w.drew T base g zs := h
theorem cell_box {w : World} {g : Nat} {v : Value} {T : TypeId} (h : w.heap[g]? = some (.cells #[v] T (0, 0))) : w.cell? ⟨g, 0, none⟩ = some v := by
  rw [cell_of_row w g 0 #[v] T (0, 0) h]; rfl
theorem frozen_box {w : World} {g : Nat} {v : Value} {T : TypeId} (h : w.heap[g]? = some (.cells #[v] T (0, 0))) : w.frozen? ⟨g, 0, none⟩ = false := by
  simp [World.frozen?, h]
theorem heap_setBox {W : World} {B : Nat} {v : Value} {t : TypeId} (v' : Value) (h : W.heap[B]? = some (.cells #[v] t (0, 0))) : (W.setCell ⟨B, 0, none⟩ v').heap[B]? = some (.cells #[v'] t (0, 0)) := by
  rw [heap_setCell_same W B 0 #[v] t v' h]; rfl
theorem body_end {P : Program} {fn : Func} {R : Ending → World → Prop} {a : Act} {w : World} (hr : fn.results = #[]) (hd : a.defers = []) (hR : R (.returned (.tuple #[])) w) : bodyPost P fn R .normal a w :=
  bodyPost_end (v := .tuple #[]) (by simp [results, hr, go_sem]) hd hR
end Go.Proofs.YtloojakcknnilaaGreat
