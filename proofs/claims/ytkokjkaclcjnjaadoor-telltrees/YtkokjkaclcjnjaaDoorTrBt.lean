/-
  The package tell: Paths.
-/
import Derived.Test.YtkokjkaclcjnjaaDoorTrBn
import Derived.Test.YtkokjkaclcjnjaaDoorTrBp
import Derived.Test.YtkokjkaclcjnjaaDoorTrBs
namespace Go.Proofs.YtkokjkaclcjnjaaDoor
open Go.RowKit Go.ChangeShapes Go.WideShapes Go.ChangeAt Go.Maps Go.Shelf
set_option linter.unusedVariables false
set_option linter.unusedSimpArgs false
set_option maxRecDepth 100000
theorem rt_tr {w : World} {a : Option Addr} {L : List Nd} (h : IsNs w a L) (hn : ∀ x ∈ L, x.Nil) (R : Rt L) : Tr w a L :=
 ⟨h, fun x hx => by obtain ⟨s1, s2, s3⟩ := node_small (R.ok x hx).1; exact ⟨hn x hx, by omega, by omega⟩⟩
theorem kidsF_small {L : List Nd} (R : Rt L) (f : Int) : (kidsF L f).length ≤ 12 ∧ ∀ y ∈ kidsF L f, y.nm.size ≤ 1000 := by
 by_cases e : kidsF L f = []
 · rw [e]; exact ⟨by simp, fun y hy => by cases hy⟩
 · obtain ⟨x, hx, hk⟩ := kidsF_in e
   obtain ⟨s1, s2, s3⟩ := node_small (R.ok x (getF_mem hx).1).1
   rw [hk]
   exact ⟨s2, fun y hy => by have := s3 y hy; omega⟩
theorem ppaths_no {a : Option Addr} {L : List Nd} (cap : Nat) {w : World} (h : IsNs w a L) (hm : L.length ≤ 100000) (hr : ¬ RightP L) : Calls Tryd.prog 20 #[.slice a L.length cap] w (ColS [] w) := by
 have RC := hid (right_c a cap L w h hm)
 go_enter Tryd.func20, Tryd.ntmps20
 go_wp2_with (go_at_call 37; refine RC.out.mono ?_; rintro _ w1 ⟨b, rfl, hb, hb1⟩; obtain rfl : b = false := by { cases b with | false => rfl | true => exact absurd (hb.1 rfl) hr }; have B1 := hid hb1; clear hb hb1)
 refine bodyPost_ret (v := .slice none 0 0) (by simp [results, Tryd.results20, go_sem]) rfl ⟨_, rfl, OwS.nil _ _, B1.out⟩
set_option maxHeartbeats 4000000 in
theorem ppaths_c {a : Option Addr} {L : List Nd} (cap : Nat) {w : World} (h : Tr w a L) (R : Rt L) : Calls Tryd.prog 20 #[.slice a L.length cap] w (ColS (belF L (L.length + 1) 1 ⟨#[]⟩) w) := by
 have h40 := R.few
 have hr : RightP L := (rightD_iff L).2 (rightD_rt.2 R)
 have RC := hid (right_c a cap L w h.1 (by omega))
 have EC := hid (ent_c a L.length cap 1 ⟨#[]⟩)
 obtain ⟨P, hP⟩ : ∃ P, P = belF L (L.length + 1) 1 ⟨#[]⟩ := ⟨_, rfl⟩
 have hPl : P.length ≤ 1000 := by rw [hP, bel_len]; have := cn_few R (L.length + 1); omega
 have HC : Hid (∀ w1, Below w.heap.size w w1 → Calls Tryd.prog 40 #[.func (.func 69) #[] #[.pointer (some ⟨w1.heap.size, 0, none⟩), .pointer (some ⟨w1.heap.size + 1, 0, none⟩), .pointer (some ⟨w1.heap.size + 2, 0, none⟩)]] (((w1.alloc (.cells #[.slice a L.length cap] 38)).alloc (.cells #[.int .u32 1] 29)).alloc (.cells #[.string ⟨#[]⟩] 9)) fun e w' => ∃ v : Value, e = .returned v ∧ OwS w' w.heap.size v P ∧ Below w.heap.size w w') := hid (fun w1 hb => by
   have hb3 : Below w1.heap.size w1 (((w1.alloc (.cells #[.slice a L.length cap] 38)).alloc (.cells #[.int .u32 1] 29)).alloc (.cells #[.string ⟨#[]⟩] 9)) := ((below_1 w1 _).trans ((below_1 _ _).mono (by simp))).trans ((below_1 _ _).mono (by simp; omega))
   have hE : EntC L a cap w1 1 ⟨#[]⟩ P := by
     rw [hP]
     exact ent_all (h.later hb) (by omega) (fun f x hx => (kidsF_small R f).2 x hx) (fun f => by have := (kidsF_small R f).1; omega) (L.length + 1) 1 ⟨#[]⟩ (low_root R) (by show 0 + _ ≤ _; have : (L.length + 1) * 1001 ≤ 41 * 1001 := Nat.mul_le_mul_right _ (by omega); omega)
   refine (collectS_c L a cap w1 1 ⟨#[]⟩ P hPl hE _ hb3 w1.heap.size (w1.heap.size + 1) (w1.heap.size + 2) ?_ ?_ ?_).mono ?_
   · rw [Below.heap_alloc _ _ _ (by simp; omega), Below.heap_alloc _ _ _ (by simp)]; exact heap_alloc_new w1 _
   · rw [Below.heap_alloc _ _ _ (by simp)]; have := heap_alloc_new (w1.alloc (.cells #[.slice a L.length cap] 38)) (.cells #[.int .u32 1] 29); rwa [World.size_alloc] at this
   · have := heap_alloc_new ((w1.alloc (.cells #[.slice a L.length cap] 38)).alloc (.cells #[.int .u32 1] 29)) (.cells #[.string ⟨#[]⟩] 9); simpa using this
   · rintro e w' ⟨v, rfl, hO, hB⟩
     have hz := hb.size
     have hz3 := hb3.size
     refine ⟨v, rfl, ⟨hO.1, ?_⟩, hb.trans ((hb3.mono hz).trans (hB.mono (Nat.le_trans hz hz3)))⟩
     rcases hO.2 with q | ⟨g, c, cur, q1, q2, q3⟩
     · exact .inl q
     · exact .inr ⟨g, c, cur, q1, by omega, q3⟩)
 rw [← hP]
 clear h hP
 go_enter Tryd.func20, Tryd.ntmps20
 go_wp2_with (first
   | (go_at_call 40; refine (HC.out _ B1.out).mono ?_; rintro _ w3 ⟨v3, rfl, hO3, hB3⟩; obtain ⟨a3, c3, rfl⟩ := hO3.shape; have O3 := hid hO3; have B3 := hid hB3; clear hO3 hB3)
   | (go_at_call 41; refine (EC.out _).mono ?_; rintro _ w2 ⟨rfl, rfl⟩)
   | (go_at_call 37; refine RC.out.mono ?_; rintro _ w1 ⟨b, rfl, hb, hb1⟩; obtain rfl : b = true := hb.2 hr; have B1 := hid hb1; clear hb hb1))
 refine bodyPost_ret (v := .slice a3 P.length c3) (by simp [results, Tryd.results20, go_sem]) rfl ⟨_, rfl, O3.out, B3.out⟩
end Go.Proofs.YtkokjkaclcjnjaaDoor
