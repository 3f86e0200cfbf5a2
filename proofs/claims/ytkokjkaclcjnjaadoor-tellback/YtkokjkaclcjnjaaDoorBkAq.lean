/-
  Nodes without where they lie: which nodes are a tree does not hang on that. (Written by nodebase.py out of SnapMath.)
  lineOf of the package tell, and what it calls; Tree of a new tree; live.
-/
import Derived.Test.YtkokjkaclcjnjaaDoorBkAp
import Derived.Test.YtkokjkaclcjnjaaDoorBkAi
namespace Go.Proofs.YtkokjkaclcjnjaaDoor
open Go.RowKit Go.ChangeShapes Go.WideShapes Go.ChangeAt Go.Maps
set_option linter.unusedVariables false
set_option linter.unusedSimpArgs false
set_option maxRecDepth 100000
def Nd.er (x : Nd) : Nd := x.lie none 0 none 0
theorem er_no : Nd.no.er = Nd.no := rfl
theorem getD_er (l : List Nd) (i : Nat) : (l.map Nd.er).getD i Nd.no = (l.getD i Nd.no).er := by
 rcases Nat.lt_or_ge i l.length with h | h
 · simp [List.getD, h]
 · simp [List.getD, h, er_no]
theorem plTo_er (l : List Nd) : ∀ m, plTo (l.map Nd.er) m = plTo l m
 | 0 => rfl
 | m + 1 => by
   funext f
   show updF (plTo (l.map Nd.er) m) ((l.map Nd.er).getD m Nd.no).fid (some m) f = updF (plTo l m) (l.getD m Nd.no).fid (some m) f
   rw [plTo_er l m, getD_er]; rfl
theorem N0_er (l : List Nd) (f : Int) : N0 (l.map Nd.er) f = (N0 l f).map fun p => (p.1, p.2.er) := by
 unfold N0 ndF
 rw [List.length_map, plTo_er]
 cases plTo l l.length f with
 | none => rfl
 | some i => simp only [Option.map_some, getD_er]
theorem isDir_er (l : List Nd) (g : Int) : isDirT (N0 (l.map Nd.er)) g = isDirT (N0 l) g := by
 unfold isDirT
 rw [N0_er]
 cases N0 l g with
 | none => rfl
 | some p => rfl
theorem edge_er (l : List Nd) (f g : Int) : Edge (N0 (l.map Nd.er)) f g ↔ Edge (N0 l) f g := by
 constructor
 · rintro ⟨p, x, i, h1, h2, h3, h4⟩
   rw [N0_er] at h1
   cases hN : N0 l f with
   | none => rw [hN] at h1; cases h1
   | some q =>
     rw [hN] at h1
     cases h1
     exact ⟨q.1, q.2, i, hN, h2, h3, by rw [isDir_er] at h4; exact h4⟩
 · rintro ⟨p, x, i, h1, h2, h3, h4⟩
   exact ⟨p, x.er, i, by rw [N0_er, h1]; rfl, h2, h3, by rw [isDir_er]; exact h4⟩
theorem ring_er (l : List Nd) : RingN (N0 (l.map Nd.er)) ↔ RingN (N0 l) := by
 have e : ∀ G, IsPar (N0 (l.map Nd.er)) G ↔ IsPar (N0 l) G := fun G => by
   unfold IsPar
   constructor
   · intro h f g; rw [h f g, edge_er]
   · intro h f g; rw [h f g, edge_er]
 unfold RingN
 simp only [e]
theorem haveTo_er (l : List Nd) (ks : List Kd) : ∀ n, haveTo (N0 (l.map Nd.er)) ks n = haveTo (N0 l) ks n
 | 0 => rfl
 | n + 1 => by
   simp only [haveTo, haveTo_er l ks n, N0_er]
   cases N0 l (ks.getD n Kd.no).fid <;> rfl
theorem upTo_er (l : List Nd) : ∀ m, upTo (l.map Nd.er) m = upTo l m
 | 0 => rfl
 | m + 1 => by
   simp only [upTo, upTo_er l m, getD_er, lastFd]
   rfl
theorem kfs_er (l : List Nd) : kfs (l.map Nd.er) = kfs l := by
 unfold kfs
 rw [List.flatMap_map]
 rfl
theorem linksTo_er (P : List Int) (l : List Nd) : ∀ m, linksTo P (l.map Nd.er) m = linksTo P l m
 | 0 => rfl
 | m + 1 => by
   simp only [linksTo, linksTo_er P l m, getD_er]
   rfl
theorem right_er (l : List Nd) : RightP (l.map Nd.er) ↔ RightP l := by
 unfold RightP fidsUp linksB
 simp only [List.length_map, upTo_er, isDir_er, ring_er, kfs_er, linksTo_er]
 have e : (∀ x ∈ l.map Nd.er, aloneB x = true ∧ haveB (N0 (l.map Nd.er)) x.ks = true) ↔ (∀ x ∈ l, aloneB x = true ∧ haveB (N0 l) x.ks = true) := by
   constructor
   · intro h x hx
     have := h x.er (List.mem_map.2 ⟨x, hx, rfl⟩)
     unfold haveB at this ⊢
     rw [haveTo_er] at this
     exact this
   · intro h x hx
     obtain ⟨y, hy, rfl⟩ := List.mem_map.1 hx
     have := h y hy
     unfold haveB at this ⊢
     rw [haveTo_er]
     exact this
 rw [e]
theorem upTo_pos {l : List Nd} : ∀ {m : Nat}, upTo l m = true → ∀ i, i < m → lastFd l i < (l.getD i Nd.no).fid
 | 0, _, i, hi => by omega
 | m + 1, h, i, hi => by
   unfold upTo at h
   rw [Bool.and_eq_true] at h
   by_cases e : i = m
   · subst e; exact of_decide_eq_true h.2
   · exact upTo_pos h.1 i (by omega)
theorem upTo_pos2 {l : List Nd} {m : Nat} (h : upTo l m = true) : ∀ i, i < m → 0 < (l.getD i Nd.no).fid
 | 0, hi => by have := upTo_pos h 0 hi; simpa [lastFd] using this
 | i + 1, hi => by
   have h1 := upTo_pos h (i + 1) hi
   have h2 := upTo_pos2 h i (by omega)
   rw [lastFd_next] at h1
   omega
theorem kidsTo_of {N : Tab} {l : List Kd} (hp : ∀ f p, N f = some p → f ≠ 0) : ∀ {m : Nat}, namesTo l m = true → haveTo N l m = true → kidsTo l m = true
 | 0, _, _ => rfl
 | m + 1, h, h2 => by
   unfold namesTo at h
   unfold haveTo at h2
   rw [Bool.and_eq_true] at h h2
   unfold kidsTo
   rw [kidsTo_of hp h.1 h2.1, Bool.true_and]
   unfold kOk
   have h3 := h.2
   unfold nmK at h3
   rw [h3, Bool.true_and]
   have h4 := h2.2
   rw [Bool.and_eq_true] at h4
   cases hN : N (l.getD m Kd.no).fid with
   | none => rw [hN] at h4; simp at h4
   | some p => have := hp _ _ hN; simpa using this
end Go.Proofs.YtkokjkaclcjnjaaDoor
namespace Go.Proofs.YtkokjkaclcjnjaaDoor
open Go.RowKit Go.ChangeShapes Go.WideShapes Go.ChangeAt
set_option linter.unusedVariables false
set_option linter.unusedSimpArgs false
set_option maxRecDepth 100000
def nwNd : Nd := ⟨1, 2, 0, 0, none, 0, [], none, 0, []⟩
def decB (n : Nat) : ByteArray := ⟨(Lib.decDigits n).toArray⟩
set_option maxHeartbeats 1000000 in
theorem digS_c (n : Nat) (hn : n < 100) (w : World) : Calls Tryd.prog 53 #[.int .u32 (n : Int)] w fun e w' => e = .returned (.string (decB n)) ∧ w' = w := by
 have h1 : (n : Int) < 100 := by omega
 have S1 := hid (fun W => Tryd.internal_strconv_small n hn W)
 have F1 : Hid (∀ W, Calls Tryd.prog 58 #[.int .u64 (n : Int), .int .i64 10] W fun e w' => e = .returned (.string (decB n)) ∧ w' = W) := hid (fun W => by
   go_enter Tryd.func58, Tryd.ntmps58
   go_wp2_with (go_at_call 86; refine (S1.out _).mono ?_; rintro _ w3 ⟨rfl, h3⟩; rw [h3]; clear h3)
   go_ret
   exact ⟨rfl, rfl⟩)
 have F2 : Hid (∀ W, Calls Tryd.prog 35 #[.int .u64 (n : Int), .int .i64 10] W fun e w' => e = .returned (.string (decB n)) ∧ w' = W) := hid (fun W => by
   go_enter Tryd.func35, Tryd.ntmps35
   go_wp2_with (go_at_call 58; refine (F1.out _).mono ?_; rintro _ w3 ⟨rfl, h3⟩; rw [h3]; clear h3)
   go_ret
   exact ⟨rfl, rfl⟩)
 go_enter Tryd.func53, Tryd.ntmps53
 go_wp2_with (go_at_call 35; refine (F2.out _).mono ?_; rintro _ w3 ⟨rfl, h3⟩; rw [h3]; clear h3)
 go_ret
 exact ⟨rfl, rfl⟩
def wordB (k : Int) : ByteArray := if k = 1 then ⟨#[102, 105, 108, 101]⟩ else if k = 2 then ⟨#[100, 105, 114]⟩ else if k = 3 then ⟨#[108, 105, 110, 107]⟩ else ⟨#[]⟩
set_option maxHeartbeats 1000000 in
theorem word_c (k : Int) (w : World) : Calls Tryd.prog 54 #[.int .u8 k] w fun e w' => e = .returned (.string (wordB k)) ∧ w' = w := by
 obtain ⟨r, hr⟩ : ∃ r, Hid (r = wordB k) := ⟨_, hid rfl⟩
 rw [← hr.out]
 by_cases h1 : k = 1
 · have e1 : (k == 1) = true := by simp [h1]
   have RE : Hid (r = ⟨#[102, 105, 108, 101]⟩) := hid (by rw [hr.out]; unfold wordB; rw [if_pos h1])
   clear hr h1
   go_enter Tryd.func54, Tryd.ntmps54
   go_wp2
   go_ret
   exact ⟨by rw [RE.out]; rfl, rfl⟩
 · have e1 : (k == 1) = false := by simp [h1]
   by_cases h2 : k = 2
   · have e2 : (k == 2) = true := by simp [h2]
     have RE : Hid (r = ⟨#[100, 105, 114]⟩) := hid (by rw [hr.out]; unfold wordB; rw [if_neg h1, if_pos h2])
     clear hr h1 h2
     go_enter Tryd.func54, Tryd.ntmps54
     go_wp2
     go_ret
     exact ⟨by rw [RE.out]; rfl, rfl⟩
   · have e2 : (k == 2) = false := by simp [h2]
     by_cases h3 : k = 3
     · have e3 : (k == 3) = true := by simp [h3]
       have RE : Hid (r = ⟨#[108, 105, 110, 107]⟩) := hid (by rw [hr.out]; unfold wordB; rw [if_neg h1, if_neg h2, if_pos h3])
       clear hr h1 h2 h3
       go_enter Tryd.func54, Tryd.ntmps54
       go_wp2
       go_ret
       exact ⟨by rw [RE.out]; rfl, rfl⟩
     · have e3 : (k == 3) = false := by simp [h3]
       have RE : Hid (r = ⟨#[]⟩) := hid (by rw [hr.out]; unfold wordB; rw [if_neg h1, if_neg h2, if_neg h3])
       clear hr h1 h2 h3
       go_enter Tryd.func54, Tryd.ntmps54
       go_wp2
       go_ret
       exact ⟨by rw [RE.out]; rfl, rfl⟩
set_option maxHeartbeats 1000000 in
theorem inside0_c (f m l : Int) (da ka : Option Addr) (dn dc kc : Nat) (w : World) : Calls Tryd.prog 55 #[.agg #[.int .u32 f, .int .u8 2, .int .u16 m, .int .u16 l, .slice da dn dc, .slice ka 0 kc]] w fun e w' => e = .returned (.string ⟨#[45]⟩) ∧ Below w.heap.size w w' := by
 have hb := below_1 w (.cells #[.int .u32 f, .int .u8 2, .int .u16 m, .int .u16 l, .slice da dn dc, .slice ka 0 kc] 35)
 have hB := heap_alloc_new w (.cells #[.int .u32 f, .int .u8 2, .int .u16 m, .int .u16 l, .slice da dn dc, .slice ka 0 kc] 35)
 have k1 : (w.alloc (.cells #[.int .u32 f, .int .u8 2, .int .u16 m, .int .u16 l, .slice da dn dc, .slice ka 0 kc] 35)).cell? ⟨w.heap.size, 1, none⟩ = some (.int .u8 2) := cell_of_row2 hB 1 rfl
 have k5 : (w.alloc (.cells #[.int .u32 f, .int .u8 2, .int .u16 m, .int .u16 l, .slice da dn dc, .slice ka 0 kc] 35)).cell? ⟨w.heap.size, 5, none⟩ = some (.slice ka 0 kc) := cell_of_row2 hB 5 rfl
 have B0 := hid hb
 clear hb hB
 go_enter Tryd.func55, Tryd.ntmps55
 go_wp2
 go_ret
 exact ⟨rfl, B0.out⟩
end Go.Proofs.YtkokjkaclcjnjaaDoor
