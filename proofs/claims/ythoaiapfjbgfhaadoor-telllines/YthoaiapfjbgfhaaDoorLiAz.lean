/-
  lineOf of the package tell, and what it calls; Tree of a new tree; live.
-/
import Derived.Test.YthoaiapfjbgfhaaDoorLiAo
import Derived.Test.YthoaiapfjbgfhaaDoorLiAx
import Derived.Test.YthoaiapfjbgfhaaDoorLiAy
namespace Go.Proofs.YthoaiapfjbgfhaaDoor
open Go.RowKit Go.ChangeShapes Go.WideShapes Go.ChangeAt
set_option linter.unusedVariables false
set_option linter.unusedSimpArgs false
set_option maxRecDepth 100000
def nwNd : Nd := ⟨1, 2, 0, 0, none, 0, [], none, 0, []⟩
def decB (n : Nat) : ByteArray := ⟨(Lib.decDigits n).toArray⟩
set_option maxHeartbeats 1000000 in
theorem digS_c (n : Nat) (hn : n < 100) (w : World) : Calls Tryd.prog 53 #[.int .u32 (n : Int)] w fun e w' => e = .returned (.string (decB n)) ∧ w' = w := by
 have h1 : (n : Int) < 100 := by omega
 have S1 := hid (fun W => Tryd.internal_strconv_small n hn W)
 have F1 : Hid (∀ W, Calls Tryd.prog 58 #[.int .u64 (n : Int), .int .i64 10] W fun e w' => e = .returned (.string (decB n)) ∧ w' = W) := hid (fun W => by
   go_enter Tryd.func58, Tryd.ntmps58
   go_wp2_with (go_at_call 86; refine (S1.out _).mono ?_; rintro _ w3 ⟨rfl, h3⟩; rw [h3]; clear h3)
   go_ret
   exact ⟨rfl, rfl⟩)
 have F2 : Hid (∀ W, Calls Tryd.prog 35 #[.int .u64 (n : Int), .int .i64 10] W fun e w' => e = .returned (.string (decB n)) ∧ w' = W) := hid (fun W => by
   go_enter Tryd.func35, Tryd.ntmps35
   go_wp2_with (go_at_call 58; refine (F1.out _).mono ?_; rintro _ w3 ⟨rfl, h3⟩; rw [h3]; clear h3)
   go_ret
   exact ⟨rfl, rfl⟩)
 go_enter Tryd.func53, Tryd.ntmps53
 go_wp2_with (go_at_call 35; refine (F2.out _).mono ?_; rintro _ w3 ⟨rfl, h3⟩; rw [h3]; clear h3)
 go_ret
 exact ⟨rfl, rfl⟩
def wordB (k : Int) : ByteArray := if k = 1 then ⟨#[102, 105, 108, 101]⟩ else if k = 2 then ⟨#[100, 105, 114]⟩ else if k = 3 then ⟨#[108, 105, 110, 107]⟩ else ⟨#[]⟩
set_option maxHeartbeats 1000000 in
theorem word_c (k : Int) (w : World) : Calls Tryd.prog 54 #[.int .u8 k] w fun e w' => e = .returned (.string (wordB k)) ∧ w' = w := by
 obtain ⟨r, hr⟩ : ∃ r, Hid (r = wordB k) := ⟨_, hid rfl⟩
 rw [← hr.out]
 by_cases h1 : k = 1
 · have e1 : (k == 1) = true := by simp [h1]
   have RE : Hid (r = ⟨#[102, 105, 108, 101]⟩) := hid (by rw [hr.out]; unfold wordB; rw [if_pos h1])
   clear hr h1
   go_enter Tryd.func54, Tryd.ntmps54
   go_wp2
   go_ret
   exact ⟨by rw [RE.out]; rfl, rfl⟩
 · have e1 : (k == 1) = false := by simp [h1]
   by_cases h2 : k = 2
   · have e2 : (k == 2) = true := by simp [h2]
     have RE : Hid (r = ⟨#[100, 105, 114]⟩) := hid (by rw [hr.out]; unfold wordB; rw [if_neg h1, if_pos h2])
     clear hr h1 h2
     go_enter Tryd.func54, Tryd.ntmps54
     go_wp2
     go_ret
     exact ⟨by rw [RE.out]; rfl, rfl⟩
   · have e2 : (k == 2) = false := by simp [h2]
     by_cases h3 : k = 3
     · have e3 : (k == 3) = true := by simp [h3]
       have RE : Hid (r = ⟨#[108, 105, 110, 107]⟩) := hid (by rw [hr.out]; unfold wordB; rw [if_neg h1, if_neg h2, if_pos h3])
       clear hr h1 h2 h3
       go_enter Tryd.func54, Tryd.ntmps54
       go_wp2
       go_ret
       exact ⟨by rw [RE.out]; rfl, rfl⟩
     · have e3 : (k == 3) = false := by simp [h3]
       have RE : Hid (r = ⟨#[]⟩) := hid (by rw [hr.out]; unfold wordB; rw [if_neg h1, if_neg h2, if_neg h3])
       clear hr h1 h2 h3
       go_enter Tryd.func54, Tryd.ntmps54
       go_wp2
       go_ret
       exact ⟨by rw [RE.out]; rfl, rfl⟩
set_option maxHeartbeats 1000000 in
theorem inside0_c (f m l : Int) (da ka : Option Addr) (dn dc kc : Nat) (w : World) : Calls Tryd.prog 55 #[.agg #[.int .u32 f, .int .u8 2, .int .u16 m, .int .u16 l, .slice da dn dc, .slice ka 0 kc]] w fun e w' => e = .returned (.string ⟨#[45]⟩) ∧ Below w.heap.size w w' := by
 have hb := below_1 w (.cells #[.int .u32 f, .int .u8 2, .int .u16 m, .int .u16 l, .slice da dn dc, .slice ka 0 kc] 35)
 have hB := heap_alloc_new w (.cells #[.int .u32 f, .int .u8 2, .int .u16 m, .int .u16 l, .slice da dn dc, .slice ka 0 kc] 35)
 have k1 : (w.alloc (.cells #[.int .u32 f, .int .u8 2, .int .u16 m, .int .u16 l, .slice da dn dc, .slice ka 0 kc] 35)).cell? ⟨w.heap.size, 1, none⟩ = some (.int .u8 2) := cell_of_row2 hB 1 rfl
 have k5 : (w.alloc (.cells #[.int .u32 f, .int .u8 2, .int .u16 m, .int .u16 l, .slice da dn dc, .slice ka 0 kc] 35)).cell? ⟨w.heap.size, 5, none⟩ = some (.slice ka 0 kc) := cell_of_row2 hB 5 rfl
 have B0 := hid hb
 clear hb hB
 go_enter Tryd.func55, Tryd.ntmps55
 go_wp2
 go_ret
 exact ⟨rfl, B0.out⟩
end Go.Proofs.YthoaiapfjbgfhaaDoor
