/-
  Plain laws on lists of bytes for the package path: what names, Split and Join come to; no program is named here.
  path.Name, alone.
-/
import Derived.WalkKit
import Derived.ProofKit
import Derived.Test.YtkokjkaclcjnjaaGreatDoorRows
import Derived.OpenShut
import Derived.ShutString
import Derived.WalkSpells
import Derived.WalkLawsBesides
import Derived.Deep.QuietTactic
import Derived.BigQuiet
import Derived.Lib.OthersKept
import Derived.Lib.BufferWrite
import Derived.Lib.UnsafeStr
import Derived.Laws.MakeOwn
import Derived.Deep.LoopGhost
import Derived.Lib.Strings
import Derived.Lib.IndexBytes
namespace Go.Proofs.YtkokjkaclcjnjaaGreatDoor.Pa
set_option linter.unusedVariables false
set_option linter.unusedSimpArgs false
open Go.RowKit
def okR (r : Int) : Bool := decide (97 ≤ r ∧ r ≤ 122) || decide (48 ≤ r ∧ r ≤ 57) || decide (r = 46) || decide (r = 45) || decide (r = 95)
def okC (c : UInt8) : Bool := okR (c.toNat : Int)
theorem okR_high (r : Int) (h : 128 ≤ r) : okR r = false := by simp [okR]; omega
theorem okR_true {r : Int} (h : okR r = true) : (97 ≤ r ∧ r ≤ 122) ∨ (48 ≤ r ∧ r ≤ 57) ∨ (46 ≤ r ∧ r ≤ 46) ∨ (45 ≤ r ∧ r ≤ 45) ∨ (95 ≤ r ∧ r ≤ 95) := by
 simp [okR] at h; omega
theorem okR_false {r : Int} (h : okR r = false) : r < 45 ∨ (47 ≤ r ∧ r ≤ 47) ∨ (58 ≤ r ∧ r ≤ 94) ∨ (96 ≤ r ∧ r ≤ 96) ∨ 122 < r := by
 simp [okR] at h; omega
def nameB (l : List UInt8) : Bool := decide (1 ≤ l.length) && decide (l.length ≤ 12) && !(l == [46]) && !(l == [46, 46]) && l.all okC
theorem nameB_short (l : List UInt8) (h : l.length < 1) : nameB l = false := by simp [nameB]; omega
theorem nameB_long (l : List UInt8) (h : 12 < l.length) : nameB l = false := by simp [nameB]; omega
theorem nameB_dot : nameB [46] = false := by decide
theorem nameB_dots : nameB [46, 46] = false := by decide
theorem nameB_mid (l : List UInt8) (h1 : 1 ≤ l.length) (h2 : l.length ≤ 12) (h3 : (l == [46]) = false) (h4 : (l == [46, 46]) = false) : nameB l = l.all okC := by
 simp [nameB, h1, h2, h3, h4]
theorem nameB_bad (l : List UInt8) (h : l.all okC = false) : nameB l = false := by simp only [nameB, h, Bool.and_false]
theorem all_take_succ (l : List UInt8) (j : Nat) (h : j < l.length) (ha : (l.take j).all okC = true) (hc : okC l[j] = true) : (l.take (j + 1)).all okC = true := by
 rw [List.take_succ_eq_append_getElem h, List.all_append, ha, List.all_cons, List.all_nil, hc]; rfl
theorem all_bad (l : List UInt8) (j : Nat) (h : j < l.length) (hc : okC l[j] = false) : l.all okC = false := by
 rw [Bool.eq_false_iff]
 intro ha
 rw [List.all_eq_true] at ha
 have := ha l[j] (List.getElem_mem h)
 rw [hc] at this; exact Bool.noConfusion this
/-! ### What stands between the slashes -/
def piecesF : List UInt8 → List (List UInt8)
 | [] => [[]]
 | c :: r => if c = 47 then [] :: piecesF r else (match piecesF r with | p :: ps => (c :: p) :: ps | [] => [[c]])
theorem pieces_none : ∀ (l : List UInt8), 47 ∉ l → piecesF l = [l]
 | [], _ => rfl
 | c :: r, h => by
   have hc : ¬ c = 47 := fun e => h (by rw [e]; exact List.mem_cons_self)
   have hr : 47 ∉ r := fun e => h (List.mem_cons_of_mem _ e)
   simp only [piecesF, if_neg hc, pieces_none r hr]
theorem pieces_cut : ∀ (a b : List UInt8), 47 ∉ a → piecesF (a ++ 47 :: b) = a :: piecesF b
 | [], b, _ => by simp [piecesF]
 | c :: r, b, h => by
   have hc : ¬ c = 47 := fun e => h (by rw [e]; exact List.mem_cons_self)
   have hr : 47 ∉ r := fun e => h (List.mem_cons_of_mem _ e)
   simp only [List.cons_append, piecesF, if_neg hc, pieces_cut r b hr]
theorem pieces_length : ∀ (l : List UInt8), (piecesF l).length ≤ l.length + 1
 | [] => by simp [piecesF]
 | c :: r => by
   have := pieces_length r
   unfold piecesF
   split
   · simp; omega
   · split
     · rename_i p ps h; rw [h] at this; simp at this ⊢; omega
     · simp
theorem pieces_mem : ∀ (l p : List UInt8), p ∈ piecesF l → p.length ≤ l.length
 | [], p, h => by simp [piecesF] at h; simp [h]
 | c :: r, p, h => by
   unfold piecesF at h
   split at h
   · rcases List.mem_cons.1 h with rfl | h
     · simp
     · have := pieces_mem r p h; simp; omega
   · have ih := pieces_mem r
     split at h
     · rename_i q qs hq
       rw [hq] at ih
       rcases List.mem_cons.1 h with rfl | h
       · have := ih q List.mem_cons_self; simp; omega
       · have := ih p (List.mem_cons_of_mem _ h); simp; omega
     · simp at h; simp [h]
/-! ### Split -/
def stepN (acc : List (List UInt8)) (p : List UInt8) : Option (List (List UInt8)) :=
 if p = [] ∨ p = [46] then some acc else if p = [46, 46] then some acc.dropLast else if nameB p = true then some (acc ++ [p]) else none
def splitN : List (List UInt8) → List (List UInt8) → Option (List (List UInt8))
 | acc, [] => some acc
 | acc, p :: ps => (stepN acc p).bind fun a => splitN a ps
def splitF (l : List UInt8) : Option (List (List UInt8)) :=
 if l.length ≤ 120 ∧ l.head? = some 47 then splitN [] (piecesF l) else none
theorem splitN_at (acc P : List (List UInt8)) (k : Nat) (h : k < P.length) : splitN acc (P.drop k) = (stepN acc P[k]).bind fun a => splitN a (P.drop (k + 1)) := by
 rw [List.drop_eq_getElem_cons h]; rfl
theorem step_empty (acc : List (List UInt8)) : stepN acc [] = some acc := by simp [stepN]
theorem step_dot (acc : List (List UInt8)) : stepN acc [46] = some acc := by simp [stepN]
theorem step_dots (acc : List (List UInt8)) : stepN acc [46, 46] = some acc.dropLast := by simp [stepN]
theorem step_name (acc : List (List UInt8)) (p : List UInt8) (h : nameB p = true) : stepN acc p = some (acc ++ [p]) := by
 have h0 : p ≠ [] := fun e => by rw [e] at h; exact absurd h (by decide)
 have h1 : p ≠ [46] := fun e => by rw [e] at h; exact absurd h (by decide)
 have h2 : p ≠ [46, 46] := fun e => by rw [e] at h; exact absurd h (by decide)
 simp [stepN, h0, h1, h2, h]
theorem step_bad (acc : List (List UInt8)) (p : List UInt8) (h0 : p ≠ []) (h1 : p ≠ [46]) (h2 : p ≠ [46, 46]) (h : nameB p = false) : stepN acc p = none := by
 simp [stepN, h0, h1, h2, h]
theorem name_len (p : List UInt8) (h : nameB p = true) : 1 ≤ p.length ∧ p.length ≤ 12 := by
 simp [nameB] at h
 omega
/-! ### Join -/
/-! ### What Split answers are names -/
theorem step_names {acc ns : List (List UInt8)} {p : List UInt8} (h : stepN acc p = some ns) (ha : ∀ q ∈ acc, nameB q = true) : ∀ q ∈ ns, nameB q = true := by
 unfold stepN at h
 split at h
 · cases h; exact ha
 · split at h
   · cases h; exact fun q hq => ha q (by rw [List.dropLast_eq_take] at hq; exact List.mem_of_mem_take hq)
   · split at h
     · rename_i hn
       cases h
       intro q hq
       rcases List.mem_append.1 hq with h1 | h1
       · exact ha q h1
       · rw [List.mem_singleton.1 h1]; exact hn
     · cases h
theorem splitN_names : ∀ (P acc ns : List (List UInt8)), splitN acc P = some ns → (∀ q ∈ acc, nameB q = true) → ∀ q ∈ ns, nameB q = true
 | [], acc, ns, h, ha => by cases h; exact ha
 | p :: ps, acc, ns, h, ha => by
   unfold splitN at h
   cases hs : stepN acc p with
   | none => rw [hs] at h; cases h
   | some a => rw [hs] at h; exact splitN_names ps a ns h (step_names hs ha)
theorem split_names {l : List UInt8} {ns : List (List UInt8)} (h : splitF l = some ns) : ∀ q ∈ ns, nameB q = true := by
 unfold splitF at h
 split at h
 · exact splitN_names _ _ _ h (by simp)
 · cases h
/-! ### Below -/
/-! ### Join and Split, both ways -/
def wt : List (List UInt8) → Nat
 | [] => 0
 | n :: ns => n.length + 1 + wt ns
theorem wt_append : ∀ (a b : List (List UInt8)), wt (a ++ b) = wt a + wt b
 | [], b => by simp [wt]
 | n :: a, b => by simp [wt, wt_append a b]; omega
theorem wt_dropLast : ∀ (a : List (List UInt8)), wt a.dropLast ≤ wt a
 | [] => by simp [wt]
 | [n] => by simp [wt]
 | n :: m :: a => by
   have := wt_dropLast (m :: a)
   simp only [List.dropLast_cons_cons, wt] at this ⊢
   omega
theorem pieces_wt : ∀ (l : List UInt8), wt (piecesF l) = l.length + 1
 | [] => by simp [piecesF, wt]
 | c :: r => by
   have ih := pieces_wt r
   unfold piecesF
   split
   · simp [wt, ih]; omega
   · split
     · rename_i p ps h
       rw [h] at ih
       simp [wt] at ih ⊢; omega
     · rename_i h
       rw [h] at ih; simp [wt] at ih
theorem step_wt {acc ns : List (List UInt8)} {p : List UInt8} (h : stepN acc p = some ns) : wt ns ≤ wt acc + p.length + 1 := by
 unfold stepN at h
 split at h
 · cases h; omega
 · split at h
   · cases h; have := wt_dropLast acc; omega
   · split at h
     · cases h; rw [wt_append]; simp [wt]; omega
     · cases h
theorem splitN_wt : ∀ (P acc ns : List (List UInt8)), splitN acc P = some ns → wt ns ≤ wt acc + wt P
 | [], acc, ns, h => by cases h; simp [wt]
 | p :: ps, acc, ns, h => by
   unfold splitN at h
   cases hs : stepN acc p with
   | none => rw [hs] at h; cases h
   | some a =>
     rw [hs] at h
     have h1 := splitN_wt ps a ns h
     have h2 := step_wt hs
     simp only [wt]; omega
theorem split_slashed {l : List UInt8} {ns : List (List UInt8)} (h : splitF l = some ns) : ∃ r, l = 47 :: r ∧ l.length ≤ 120 ∧ splitN [] (piecesF r) = some ns := by
 unfold splitF at h
 split at h
 · rename_i hc
   cases l with
   | nil => simp at hc
   | cons c r =>
     simp at hc
     obtain ⟨h1, rfl⟩ := hc
     refine ⟨r, rfl, by simp; omega, ?_⟩
     have e : piecesF (47 :: r) = [] :: piecesF r := by simp [piecesF]
     rw [e] at h
     exact h
 · cases h
theorem split_wt {l : List UInt8} {ns : List (List UInt8)} (h : splitF l = some ns) : wt ns ≤ l.length := by
 obtain ⟨r, rfl, _, h1⟩ := split_slashed h
 have := splitN_wt _ _ _ h1
 rw [pieces_wt] at this
 simp [wt] at this ⊢; omega
def flat : List (List UInt8) → List UInt8
 | [] => []
 | n :: ns => 47 :: (n ++ flat ns)
theorem name_noslash {n : List UInt8} (h : nameB n = true) : 47 ∉ n := by
 intro hm
 simp only [nameB, Bool.and_eq_true, List.all_eq_true] at h
 exact absurd (h.2 47 hm) (by decide)
theorem pieces_flat : ∀ (ns : List (List UInt8)) (n : List UInt8), (∀ m ∈ ns, nameB m = true) → 47 ∉ n → piecesF (n ++ flat ns) = n :: ns
 | [], n, _, hn => by simp only [flat, List.append_nil]; exact pieces_none n hn
 | m :: ms, n, hm, hn => by
   simp only [flat]
   rw [pieces_cut _ _ hn, pieces_flat ms m (fun k hk => hm k (List.mem_cons_of_mem _ hk)) (name_noslash (hm m List.mem_cons_self))]
theorem splitN_all : ∀ (ns acc : List (List UInt8)), (∀ m ∈ ns, nameB m = true) → splitN acc ns = some (acc ++ ns)
 | [], acc, _ => by simp [splitN]
 | n :: ns, acc, h => by
   unfold splitN
   rw [step_name acc n (h n List.mem_cons_self)]
   show splitN (acc ++ [n]) ns = _
   rw [splitN_all ns _ (fun k hk => h k (List.mem_cons_of_mem _ hk))]; simp
theorem split_flat (ns : List (List UInt8)) (hne : ns ≠ []) (hn : ∀ m ∈ ns, nameB m = true) (hl : (flat ns).length ≤ 120) : splitF (flat ns) = some ns := by
 cases ns with
 | nil => exact absurd rfl hne
 | cons n ns =>
   unfold splitF
   rw [if_pos ⟨hl, rfl⟩]
   have e : piecesF (flat (n :: ns)) = [] :: n :: ns := by
     simp only [flat]
     have h1 : piecesF (47 :: (n ++ flat ns)) = [] :: piecesF (n ++ flat ns) := by simp [piecesF]
     rw [h1, pieces_flat ns n (fun k hk => hn k (List.mem_cons_of_mem _ hk)) (name_noslash (hn n List.mem_cons_self))]
   rw [e]
   show splitN [] (n :: ns) = _
   rw [splitN_all _ _ hn]; simp
theorem names_few {l : List UInt8} {ns : List (List UInt8)} (h : splitF l = some ns) : ns.length ≤ 120 := by
 have hwl : ∀ a : List (List UInt8), a.length ≤ wt a := fun a => by
   induction a with
   | nil => simp
   | cons x a ih => simp [wt]; omega
 obtain ⟨r, hr, hl, _⟩ := split_slashed h
 have h1 := split_wt h
 have h2 := hwl ns
 omega
/-! ### Down and up -/
/-! ### A name with one more letter -/
end Go.Proofs.YtkokjkaclcjnjaaGreatDoor.Pa
namespace Go.Proofs.YtkokjkaclcjnjaaGreatDoor
open Go.RowKit Go.ChangeShapes Go.WideShapes Go.ChangeAt
set_option linter.unusedVariables false
set_option linter.unusedSimpArgs false
theorem ret_bool' {a b : Bool} (h : a = b) : Ending.returned (.bool a) = .returned (.bool b) := by rw [h]
theorem hid' {p : Prop} (h : p) : Hid p := h
set_option maxHeartbeats 1000000 in
theorem inName_c (r : Int) (w : World) :
   Calls Tryz.prog 79 #[.int .i32 r] w fun e w' => e = .returned (.bool (Pa.okR r)) ∧ w' = w := by
 go_enter Tryz.func79, Tryz.ntmps79
 go_wp2
 all_goals go_ret
 all_goals exact ⟨ret_bool' (by first | rfl | (rw [Bool.eq_iff_iff]; simp [Pa.okR]; done) | (rw [Bool.eq_iff_iff]; simp [Pa.okR]; omega)), rfl⟩
set_option maxHeartbeats 1000000 in
theorem name_c (s : ByteArray) (w : World) (hs : s.size ≤ maxLen) :
   Calls Tryz.prog 65 #[.string s] w fun e w' => e = .returned (.bool (Pa.nameB s.data.toList)) ∧ Below w.heap.size w w' := by
 have hlen : s.data.toList.length = s.size := rfl
 unfold maxLen at hs
 by_cases h1 : s.size < 1
 · have N := hid' (Pa.nameB_short s.data.toList (by omega))
   go_enter Tryz.func65, Tryz.ntmps65
   go_wp2
   go_ret
   exact ⟨ret_bool' N.out.symm, Below.refl _ _⟩
 · by_cases h2 : 12 < s.size
   · have N := hid' (Pa.nameB_long s.data.toList (by omega))
     go_enter Tryz.func65, Tryz.ntmps65
     go_wp2
     go_ret
     exact ⟨ret_bool' N.out.symm, Below.refl _ _⟩
   · cases h3 : (s.toList == [46]) with
     | true =>
       have N : Hid (Pa.nameB s.data.toList = false) := by
         have : s.data.toList = [46] := by rw [← Lib.toList_data]; exact beq_iff_eq.1 h3
         show _ = _
         rw [this]; exact Pa.nameB_dot
       go_enter Tryz.func65, Tryz.ntmps65
       go_wp2
       go_ret
       exact ⟨ret_bool' N.out.symm, Below.refl _ _⟩
     | false =>
       cases h4 : (s.toList == [46, 46]) with
       | true =>
         have N : Hid (Pa.nameB s.data.toList = false) := by
           have : s.data.toList = [46, 46] := by rw [← Lib.toList_data]; exact beq_iff_eq.1 h4
           show _ = _
           rw [this]; exact Pa.nameB_dots
         go_enter Tryz.func65, Tryz.ntmps65
         go_wp2
         go_ret
         exact ⟨ret_bool' N.out.symm, Below.refl _ _⟩
       | false =>
         have N : Hid (Pa.nameB s.data.toList = s.data.toList.all Pa.okC) := Pa.nameB_mid _ (by omega) (by omega) (by rw [← Lib.toList_data]; exact h3) (by rw [← Lib.toList_data]; exact h4)
         have g1 : decide ((s.size : Int) < 1) = false := by simp; omega
         have g2 : decide ((12 : Int) < (s.size : Int)) = false := by simp; omega
         have HL := hid' hlen
         clear hlen
         go_enter Tryz.func65, Tryz.ntmps65
         go_wp2
         go_loopw [4] (fun r wr => ∃ j : Nat, wr = w.iter s j ∧ j ≤ s.size ∧ Hid ((s.data.toList.take j).all Pa.okC = true)) (fun _ wr => s.size - wr.iterPos w.heap.size)
         case atStart => exact ⟨0, rfl, by omega, by simp [Hid]⟩
         case round =>
           obtain ⟨j, rfl, hj, HA⟩ := hrel
           have hpos := World.iterPos_iter w s j
           by_cases hp : j < s.size
           · by_cases ha : (s[j]'hp).toNat < 128
             · have hnx := fun ty => run_next_ascii (P := Tryz.prog) w s j ty hp ha
               cases hc : Pa.okR ((s[j]'hp).toNat : Int) with
               | true =>
                 have HB : Hid ((s.data.toList.take (j + 1)).all Pa.okC = true) := Pa.all_take_succ s.data.toList j (by have := HL.out; omega) HA.out (by unfold Pa.okC; exact hc)
                 go_wp2_with (go_at_call 79; refine (inName_c _ _).mono ?_; rintro e w' ⟨rfl, rfl⟩)
                 go_roundw
                 case rel => exact ⟨j + 1, rfl, by omega, HB⟩
                 case measure => rw [World.iterPos_iter, World.iterPos_iter]; omega
               | false =>
                 have HB : Hid (s.data.toList.all Pa.okC = false) := Pa.all_bad s.data.toList j (by have := HL.out; omega) (by unfold Pa.okC; exact hc)
                 go_wp2_with (go_at_call 79; refine (inName_c _ _).mono ?_; rintro e w' ⟨rfl, rfl⟩)
                 go_ret
                 exact ⟨ret_bool' (by rw [N.out, HB.out]), (Below.refl _ _).alloc (Nat.le_refl _) _⟩
             · have hnx := fun ty => run_next_any (P := Tryz.prog) w s j ty hp
               have hd := decode_high s j hp (by omega)
               have hc : Pa.okR ((Utf8.decode s j).1 : Int) = false := Pa.okR_high _ (by omega)
               have HB : Hid (s.data.toList.all Pa.okC = false) := Pa.all_bad s.data.toList j (by have := HL.out; omega) (by unfold Pa.okC; exact Pa.okR_high _ (by have h' : (s.data.toList[j]'(by have := HL.out; omega)) = s[j]'hp := rfl; rw [h']; omega))
               go_wp2_with (go_at_call 79; refine (inName_c _ _).mono ?_; rintro e w' ⟨rfl, rfl⟩)
               go_ret
               exact ⟨ret_bool' (by rw [N.out, HB.out]), (Below.refl _ _).alloc (Nat.le_refl _) _⟩
           · have hnx := fun ty => run_next_end (P := Tryz.prog) w s j ty hp
             go_wp2
             go_ret
             exact ⟨ret_bool' (by rw [N.out]; have := HA.out; rw [List.take_of_length_le (by have := HL.out; omega)] at this; exact this.symm), (Below.refl _ _).alloc (Nat.le_refl _) _⟩
end Go.Proofs.YtkokjkaclcjnjaaGreatDoor
