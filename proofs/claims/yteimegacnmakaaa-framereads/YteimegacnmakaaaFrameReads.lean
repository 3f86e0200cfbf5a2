/-
  For every bytes (of which the first 40000 are looked at), Decode and Cut answer what the document's definition answers, the bytes stay, and live holds.
-/
import Derived.Test.YteimegacnmakaaaFRDec
namespace Go.Proofs.Yteimegacnmakaaa
open Go.ChangeShapes Go.WideShapes Go.ChangeAt Go.RowKit
open Go.ChangeMaps (open_string shut_string)
open Go.BigFrame
set_option linter.unusedVariables false
set_option linter.unusedSimpArgs false
set_option maxRecDepth 100000 in
set_option maxHeartbeats 4000000 in
theorem reads_whole (ab ao : Nat) (len cap : Nat) (zs : List Int) (hlc : len ≤ cap) (w : World) (hb : IsB w (some ⟨ab, ao, none⟩) len zs) (m : Nat) (hm : fewN len = m) (R : List Int) (hR : zs.take m = R) (k f t e s : Int) (b : ByteArray) (hBg : Fr.Begins ⟨k, f, t, e, s, b⟩ R) (hWh : Whole ⟨k, f, t, e, s, b⟩ R) :
    Calls Try.prog 4 #[.slice (some ⟨ab, ao, none⟩) len cap] w fun e w' => e = .returned (.bool true) ∧ Below w.heap.size w w' := by
  have hf := fewN_le len
  rw [hm] at hf
  have HM := hid hm
  have KF6of : Hid (∀ U, IsB U (some ⟨ab, ao, none⟩) len zs → IsB U (some ⟨ab, ao, none⟩) m R) := fun U h => by have := few_isB h; rw [hm, hR] at this; exact this
  have HA := hid hb
  have HRB := hid (KF6of.out w hb)
  have HYB : Hid (∀ x ∈ R, 0 ≤ x ∧ x ≤ 255) := fun x hx => Fr.mem_getD HRB.out.2.2.2 x hx
  have HRL := hid HRB.out.1
  have HBg := hid hBg
  obtain ⟨RD, hRD⟩ : ∃ RD, RD = R.drop (19 + b.size) := ⟨_, rfl⟩
  have HRD := hid hRD
  clear hRD
  have HWh := hid hWh
  clear hBg hWh
  obtain ⟨i0, hi, hz0, hz1, hz2⟩ := info_parts8
  clear hb hm hR
  go_enter Try.func4, Try.ntmps4
  go_wp2_with fail
  have hBa : Below w.heap.size w (w.alloc (.cells #[] 5)) := (Below.refl _ _).alloc (Nat.le_refl _) _
  refine (few_c _ _ _ _ _ (HA.out.later hBa) hlc).mono ?_
  rintro _ wa ⟨rfl, rfl⟩
  rw [HM.out]
  have HFa := hid (KF6of.out _ (HA.out.later hBa))
  go_wp2_with (at_builtin; refine wpList_append_own _ rfl _ _ 26 rfl w.heap.size 5 i0 (.int .u8 0) 1 1 Try.underlying26 hi hz0 hz1 hz2 rfl (by decide) _ _ _ rfl (own_empty8 w) ⟨ab, ao, none⟩ m cap (R.map u8V) rfl (by rw [List.length_map, HRL.out]; omega) (isB_cells HFa.out) (fun y hy => by obtain ⟨x, _, rfl⟩ := List.mem_map.1 hy; rfl) (by unfold maxLen; omega) (by omega) (by simp) ?_; intro v5 u5 hown5 hgrow5 hnil5; (rw [Nat.zero_add, List.nil_append] at hown5); (have hb5 : Below w.heap.size w u5 := Below.grown ((Below.refl _ _).alloc (Nat.le_refl _) _) hgrow5 (by simp) (fun k hk => by cases hk; exact Nat.le_refl _)); clear hgrow5 hnil5)
  have hBu5 : Below w.heap.size w u5 := hb5
  have HA5 := hid (HA.out.later hBu5)
  rw [← HRL.out] at hown5
  obtain ⟨a5, cap5, rfl, hI5, hc5⟩ := isB_pile (T := 0) (g := 0) HYB.out hown5
  rw [HRL.out] at hI5 hc5 ⊢
  have HO5 := hid hI5
  clear hown5 hI5
  go_wp2_with fail
  refine (decode_c _ _ _ _ _ HO5.out hc5).mono ?_
  rintro e9 w6 ⟨hor, hb6⟩
  have he : e9 = Ending.returned (.tuple #[.agg #[.int .u8 k, .int .u8 f, .int .u8 t, .int .u32 e, .int .u32 s, .string b], .int .i64 0]) := by
    rcases hor with ⟨q, hq, h9⟩ | ⟨h9, _⟩
    · have e8 := Fr.begins_one (whole_begins hq) HBg.out
      subst e8; exact h9
    · exact absurd HWh.out (h9 _)
  subst he
  clear hor
  have hB6 := hBu5.trans (hb6.mono hBu5.size)
  have hbu6 := hb6.alloc hb6.size (.cells #[.int .u8 k, .int .u8 f, .int .u8 t, .int .u32 e, .int .u32 s, .string b] 25)
  have hBu6 := hB6.alloc hB6.size (.cells #[.int .u8 k, .int .u8 f, .int .u8 t, .int .u32 e, .int .u32 s, .string b] 25)
  have hP6 : PB (w6.alloc (.cells #[.int .u8 k, .int .u8 f, .int .u8 t, .int .u32 e, .int .u32 s, .string b] 25)) w6.heap.size ⟨k, f, t, e, s, b⟩ := heap_alloc_new w6 _
  have KA6 := hid (HA5.out.later hbu6)
  have KO6 := hid (HO5.out.later hbu6)
  go_wp2_with fail
  generalize (w6.alloc (.cells #[.int .u8 k, .int .u8 f, .int .u8 t, .int .u32 e, .int .u32 s, .string b] 25)) = u6 at *
  refine (few_c _ _ _ _ _ KA6.out hlc).mono ?_
  rintro _ u6 ⟨rfl, rfl⟩
  rw [HM.out]
  have KF6 := hid (KF6of.out u6 KA6.out)
  go_wp2_with fail
  refine (rdecode_c _ _ _ _ _ KF6.out (by omega) (by omega)).mono ?_
  rintro e9 w7 ⟨hor, hb7⟩
  have he : e9 = Ending.returned (.tuple #[.agg #[.int .u8 k, .int .u8 f, .int .u8 t, .int .u32 e, .int .u32 s, .string b], .int .i64 0]) := by
    rcases hor with ⟨q, hq, h9⟩ | ⟨h9, _⟩
    · have e8 := Fr.begins_one (whole_begins hq) HBg.out
      subst e8; exact h9
    · exact absurd HWh.out (h9 _)
  subst he
  clear hor
  have hB7 := hBu6.trans (hb7.mono hBu6.size)
  have hbu7 := hb7.alloc hb7.size (.cells #[.int .u8 k, .int .u8 f, .int .u8 t, .int .u32 e, .int .u32 s, .string b] 25)
  have hBu7 := hB7.alloc hB7.size (.cells #[.int .u8 k, .int .u8 f, .int .u8 t, .int .u32 e, .int .u32 s, .string b] 25)
  have hP7 : PB (w7.alloc (.cells #[.int .u8 k, .int .u8 f, .int .u8 t, .int .u32 e, .int .u32 s, .string b] 25)) w7.heap.size ⟨k, f, t, e, s, b⟩ := heap_alloc_new w7 _
  have KA7 := hid (KA6.out.later hbu7)
  have KO7 := hid (KO6.out.later hbu7)
  have Q17 := PB.later hP6 hbu7
  go_wp2_with fail
  generalize (w7.alloc (.cells #[.int .u8 k, .int .u8 f, .int .u8 t, .int .u32 e, .int .u32 s, .string b] 25)) = u7 at *
  refine (cut_c _ _ _ _ _ KO7.out hc5 (by omega)).mono ?_
  rintro e9 w8 ⟨hor, hb8⟩
  obtain ⟨v8, he, hown8⟩ : ∃ v, e9 = Ending.returned (.tuple #[.agg #[.int .u8 k, .int .u8 f, .int .u8 t, .int .u32 e, .int .u32 s, .string b], v, .int .i64 0]) ∧ w8.ownsRow u7.heap.size 5 1 v RD.length (RD.map u8V) := by
    rcases hor with ⟨q, v, hq, h1, h2⟩ | ⟨h9, _⟩
    · have e8 := Fr.begins_one hq HBg.out
      subst e8; exact ⟨v, h1, by rw [HRD.out]; exact h2⟩
    · exact absurd HBg.out (h9 _)
  subst he
  obtain ⟨a8, cap8, rfl, hI8, _⟩ := isB_pile (T := 0) (g := 0) (fun x hx => HYB.out x (by rw [HRD.out] at hx; exact List.mem_of_mem_drop hx)) hown8
  have HX8 := hid hI8
  clear hor hown8 hI8
  have hB8 := hBu7.trans (hb8.mono hBu7.size)
  have hbu8 := hb8.alloc hb8.size (.cells #[.int .u8 k, .int .u8 f, .int .u8 t, .int .u32 e, .int .u32 s, .string b] 25)
  have hBu8 := hB8.alloc hB8.size (.cells #[.int .u8 k, .int .u8 f, .int .u8 t, .int .u32 e, .int .u32 s, .string b] 25)
  have hP8 : PB (w8.alloc (.cells #[.int .u8 k, .int .u8 f, .int .u8 t, .int .u32 e, .int .u32 s, .string b] 25)) w8.heap.size ⟨k, f, t, e, s, b⟩ := heap_alloc_new w8 _
  have KX8 := hid (HX8.out.later ((Below.refl _ _).alloc (Nat.le_refl _) (.cells #[.int .u8 k, .int .u8 f, .int .u8 t, .int .u32 e, .int .u32 s, .string b] 25)))
  have KA8 := hid (KA7.out.later hbu8)
  have KO8 := hid (KO7.out.later hbu8)
  have Q18 := PB.later Q17 hbu8
  have Q28 := PB.later hP7 hbu8
  go_wp2_with fail
  generalize (w8.alloc (.cells #[.int .u8 k, .int .u8 f, .int .u8 t, .int .u32 e, .int .u32 s, .string b] 25)) = u8 at *
  refine (few_c _ _ _ _ _ KA8.out hlc).mono ?_
  rintro _ u8 ⟨rfl, rfl⟩
  rw [HM.out]
  have KF8 := hid (KF6of.out u8 KA8.out)
  go_wp2_with fail
  refine (rcut_c _ _ _ _ _ KF8.out (by omega) (by omega)).mono ?_
  rintro e9 w9 ⟨hor, hb9⟩
  obtain ⟨v9, he, hown9⟩ : ∃ v, e9 = Ending.returned (.tuple #[.agg #[.int .u8 k, .int .u8 f, .int .u8 t, .int .u32 e, .int .u32 s, .string b], v, .int .i64 0]) ∧ w9.ownsRow u8.heap.size 5 1 v RD.length (RD.map u8V) := by
    rcases hor with ⟨q, v, hq, h1, h2⟩ | ⟨h9, _⟩
    · have e8 := Fr.begins_one hq HBg.out
      subst e8; exact ⟨v, h1, by rw [HRD.out]; exact h2⟩
    · exact absurd HBg.out (h9 _)
  subst he
  obtain ⟨a9, cap9, rfl, hI9, _⟩ := isB_pile (T := 0) (g := 0) (fun x hx => HYB.out x (by rw [HRD.out] at hx; exact List.mem_of_mem_drop hx)) hown9
  have HX9 := hid hI9
  clear hor hown9 hI9
  have hB9 := hBu8.trans (hb9.mono hBu8.size)
  have hbu9 := hb9.alloc hb9.size (.cells #[.int .u8 k, .int .u8 f, .int .u8 t, .int .u32 e, .int .u32 s, .string b] 25)
  have hBu9 := hB9.alloc hB9.size (.cells #[.int .u8 k, .int .u8 f, .int .u8 t, .int .u32 e, .int .u32 s, .string b] 25)
  have hP9 : PB (w9.alloc (.cells #[.int .u8 k, .int .u8 f, .int .u8 t, .int .u32 e, .int .u32 s, .string b] 25)) w9.heap.size ⟨k, f, t, e, s, b⟩ := heap_alloc_new w9 _
  have KY9 := hid (HX9.out.later ((Below.refl _ _).alloc (Nat.le_refl _) (.cells #[.int .u8 k, .int .u8 f, .int .u8 t, .int .u32 e, .int .u32 s, .string b] 25)))
  have KA9 := hid (KA8.out.later hbu9)
  have KO9 := hid (KO8.out.later hbu9)
  have KX9 := hid (KX8.out.later hbu9)
  have Q19 := PB.later Q18 hbu9
  have Q29 := PB.later Q28 hbu9
  have Q39 := PB.later hP8 hbu9
  go_wp2_with fail
  generalize (w9.alloc (.cells #[.int .u8 k, .int .u8 f, .int .u8 t, .int .u32 e, .int .u32 s, .string b] 25)) = u9 at *
  have l10 : ∀ w1, Below u9.heap.size u9 w1 → w1.cell? ⟨w6.heap.size, 0, none⟩ = some (.int .u8 k) := fun w1 h1 => (PB.later Q19 h1).cells.1
  have l11 : ∀ w1, Below u9.heap.size u9 w1 → w1.cell? ⟨w6.heap.size, 1, none⟩ = some (.int .u8 f) := fun w1 h1 => (PB.later Q19 h1).cells.2.1
  have l12 : ∀ w1, Below u9.heap.size u9 w1 → w1.cell? ⟨w6.heap.size, 2, none⟩ = some (.int .u8 t) := fun w1 h1 => (PB.later Q19 h1).cells.2.2.1
  have l13 : ∀ w1, Below u9.heap.size u9 w1 → w1.cell? ⟨w6.heap.size, 3, none⟩ = some (.int .u32 e) := fun w1 h1 => (PB.later Q19 h1).cells.2.2.2.1
  have l14 : ∀ w1, Below u9.heap.size u9 w1 → w1.cell? ⟨w6.heap.size, 4, none⟩ = some (.int .u32 s) := fun w1 h1 => (PB.later Q19 h1).cells.2.2.2.2.1
  have l15 : ∀ w1, Below u9.heap.size u9 w1 → w1.cell? ⟨w6.heap.size, 5, none⟩ = some (.string b) := fun w1 h1 => (PB.later Q19 h1).cells.2.2.2.2.2
  have l20 : ∀ w1, Below u9.heap.size u9 w1 → w1.cell? ⟨w7.heap.size, 0, none⟩ = some (.int .u8 k) := fun w1 h1 => (PB.later Q29 h1).cells.1
  have l21 : ∀ w1, Below u9.heap.size u9 w1 → w1.cell? ⟨w7.heap.size, 1, none⟩ = some (.int .u8 f) := fun w1 h1 => (PB.later Q29 h1).cells.2.1
  have l22 : ∀ w1, Below u9.heap.size u9 w1 → w1.cell? ⟨w7.heap.size, 2, none⟩ = some (.int .u8 t) := fun w1 h1 => (PB.later Q29 h1).cells.2.2.1
  have l23 : ∀ w1, Below u9.heap.size u9 w1 → w1.cell? ⟨w7.heap.size, 3, none⟩ = some (.int .u32 e) := fun w1 h1 => (PB.later Q29 h1).cells.2.2.2.1
  have l24 : ∀ w1, Below u9.heap.size u9 w1 → w1.cell? ⟨w7.heap.size, 4, none⟩ = some (.int .u32 s) := fun w1 h1 => (PB.later Q29 h1).cells.2.2.2.2.1
  have l25 : ∀ w1, Below u9.heap.size u9 w1 → w1.cell? ⟨w7.heap.size, 5, none⟩ = some (.string b) := fun w1 h1 => (PB.later Q29 h1).cells.2.2.2.2.2
  have l30 : ∀ w1, Below u9.heap.size u9 w1 → w1.cell? ⟨w8.heap.size, 0, none⟩ = some (.int .u8 k) := fun w1 h1 => (PB.later Q39 h1).cells.1
  have l31 : ∀ w1, Below u9.heap.size u9 w1 → w1.cell? ⟨w8.heap.size, 1, none⟩ = some (.int .u8 f) := fun w1 h1 => (PB.later Q39 h1).cells.2.1
  have l32 : ∀ w1, Below u9.heap.size u9 w1 → w1.cell? ⟨w8.heap.size, 2, none⟩ = some (.int .u8 t) := fun w1 h1 => (PB.later Q39 h1).cells.2.2.1
  have l33 : ∀ w1, Below u9.heap.size u9 w1 → w1.cell? ⟨w8.heap.size, 3, none⟩ = some (.int .u32 e) := fun w1 h1 => (PB.later Q39 h1).cells.2.2.2.1
  have l34 : ∀ w1, Below u9.heap.size u9 w1 → w1.cell? ⟨w8.heap.size, 4, none⟩ = some (.int .u32 s) := fun w1 h1 => (PB.later Q39 h1).cells.2.2.2.2.1
  have l35 : ∀ w1, Below u9.heap.size u9 w1 → w1.cell? ⟨w8.heap.size, 5, none⟩ = some (.string b) := fun w1 h1 => (PB.later Q39 h1).cells.2.2.2.2.2
  have l40 : ∀ w1, Below u9.heap.size u9 w1 → w1.cell? ⟨w9.heap.size, 0, none⟩ = some (.int .u8 k) := fun w1 h1 => (PB.later hP9 h1).cells.1
  have l41 : ∀ w1, Below u9.heap.size u9 w1 → w1.cell? ⟨w9.heap.size, 1, none⟩ = some (.int .u8 f) := fun w1 h1 => (PB.later hP9 h1).cells.2.1
  have l42 : ∀ w1, Below u9.heap.size u9 w1 → w1.cell? ⟨w9.heap.size, 2, none⟩ = some (.int .u8 t) := fun w1 h1 => (PB.later hP9 h1).cells.2.2.1
  have l43 : ∀ w1, Below u9.heap.size u9 w1 → w1.cell? ⟨w9.heap.size, 3, none⟩ = some (.int .u32 e) := fun w1 h1 => (PB.later hP9 h1).cells.2.2.2.1
  have l44 : ∀ w1, Below u9.heap.size u9 w1 → w1.cell? ⟨w9.heap.size, 4, none⟩ = some (.int .u32 s) := fun w1 h1 => (PB.later hP9 h1).cells.2.2.2.2.1
  have l45 : ∀ w1, Below u9.heap.size u9 w1 → w1.cell? ⟨w9.heap.size, 5, none⟩ = some (.string b) := fun w1 h1 => (PB.later hP9 h1).cells.2.2.2.2.2
  have kx : ∀ w1, Below u9.heap.size u9 w1 → (convert 26 9 (.slice a8 RD.length cap8)).run Try.prog w1 = .ok (.string (Fr.tx RD)) w1 := fun w1 h1 => (KX9.out.later h1).conv'
  have ky : ∀ w1, Below u9.heap.size u9 w1 → (convert 26 9 (.slice a9 RD.length cap9)).run Try.prog w1 = .ok (.string (Fr.tx RD)) w1 := fun w1 h1 => (KY9.out.later h1).conv'
  generalize RD.length = LR at *
  generalize Fr.tx RD = TR at *
  have ko : ∀ w1, Below u9.heap.size u9 w1 → (convert 26 9 (.slice a5 m cap5)).run Try.prog w1 = .ok (.string (Fr.tx R)) w1 := fun w1 h1 => (KO9.out.later h1).conv'
  have kf : ∀ w1, Below u9.heap.size u9 w1 → (convert 26 9 (.slice (some ⟨ab, ao, none⟩) m cap)).run Try.prog w1 = .ok (.string (Fr.tx R)) w1 := fun w1 h1 => (KF6of.out w1 (KA9.out.later h1)).conv'
  have KW : Hid (∀ w1, Below u9.heap.size u9 w1 → Calls Try.prog 14 #[.slice (some ⟨ab, ao, none⟩) len cap] w1 fun e w' => e = .returned (.slice (some ⟨ab, ao, none⟩) m cap) ∧ w' = w1) := fun w1 h1 => by have := few_c _ _ _ _ _ (KA9.out.later h1) hlc; rw [HM.out] at this; exact this
  generalize Fr.tx R = TR0 at *
  go_wp2_with fail
  refine wp_region_class (by kernel_rfl) (by kernel_rfl) ?_
  repeat (first
    | go_big_quiet_skip
    | (go_big_quiet_want
       apply quiet_by
       · intro w1 hw1
         go_simp
         first
           | rfl
           | exact kx _ hw1
           | exact ky _ hw1
           | exact ko _ hw1
           | exact kf _ hw1
           | (go_at_call 11; exact class_of hw1 (live_c _))
           | (go_at_call 14; exact class_same hw1 (KW.out _ hw1))
       · go_simp; rfl
       go_big_quiet_on))
  refine wpQuiet_nil ?_
  intro w10 hw10
  go_wp2
  go_ret
  exact ⟨rfl, hBu9.trans (hw10.mono hBu9.size)⟩
set_option maxRecDepth 100000 in
set_option maxHeartbeats 4000000 in
theorem reads_more (ab ao : Nat) (len cap : Nat) (zs : List Int) (hlc : len ≤ cap) (w : World) (hb : IsB w (some ⟨ab, ao, none⟩) len zs) (m : Nat) (hm : fewN len = m) (R : List Int) (hR : zs.take m = R) (k f t e s : Int) (b : ByteArray) (hBg : Fr.Begins ⟨k, f, t, e, s, b⟩ R) (hNW : ∀ p, ¬ Whole p R) :
    Calls Try.prog 4 #[.slice (some ⟨ab, ao, none⟩) len cap] w fun e w' => e = .returned (.bool true) ∧ Below w.heap.size w w' := by
  have hf := fewN_le len
  rw [hm] at hf
  have HM := hid hm
  have KF6of : Hid (∀ U, IsB U (some ⟨ab, ao, none⟩) len zs → IsB U (some ⟨ab, ao, none⟩) m R) := fun U h => by have := few_isB h; rw [hm, hR] at this; exact this
  have HA := hid hb
  have HRB := hid (KF6of.out w hb)
  have HYB : Hid (∀ x ∈ R, 0 ≤ x ∧ x ≤ 255) := fun x hx => Fr.mem_getD HRB.out.2.2.2 x hx
  have HRL := hid HRB.out.1
  have HBg := hid hBg
  obtain ⟨RD, hRD⟩ : ∃ RD, RD = R.drop (19 + b.size) := ⟨_, rfl⟩
  have HRD := hid hRD
  clear hRD
  have HNW := hid hNW
  clear hBg hNW
  obtain ⟨i0, hi, hz0, hz1, hz2⟩ := info_parts8
  clear hb hm hR
  go_enter Try.func4, Try.ntmps4
  go_wp2_with fail
  have hBa : Below w.heap.size w (w.alloc (.cells #[] 5)) := (Below.refl _ _).alloc (Nat.le_refl _) _
  refine (few_c _ _ _ _ _ (HA.out.later hBa) hlc).mono ?_
  rintro _ wa ⟨rfl, rfl⟩
  rw [HM.out]
  have HFa := hid (KF6of.out _ (HA.out.later hBa))
  go_wp2_with (at_builtin; refine wpList_append_own _ rfl _ _ 26 rfl w.heap.size 5 i0 (.int .u8 0) 1 1 Try.underlying26 hi hz0 hz1 hz2 rfl (by decide) _ _ _ rfl (own_empty8 w) ⟨ab, ao, none⟩ m cap (R.map u8V) rfl (by rw [List.length_map, HRL.out]; omega) (isB_cells HFa.out) (fun y hy => by obtain ⟨x, _, rfl⟩ := List.mem_map.1 hy; rfl) (by unfold maxLen; omega) (by omega) (by simp) ?_; intro v5 u5 hown5 hgrow5 hnil5; (rw [Nat.zero_add, List.nil_append] at hown5); (have hb5 : Below w.heap.size w u5 := Below.grown ((Below.refl _ _).alloc (Nat.le_refl _) _) hgrow5 (by simp) (fun k hk => by cases hk; exact Nat.le_refl _)); clear hgrow5 hnil5)
  have hBu5 : Below w.heap.size w u5 := hb5
  have HA5 := hid (HA.out.later hBu5)
  rw [← HRL.out] at hown5
  obtain ⟨a5, cap5, rfl, hI5, hc5⟩ := isB_pile (T := 0) (g := 0) HYB.out hown5
  rw [HRL.out] at hI5 hc5 ⊢
  have HO5 := hid hI5
  clear hown5 hI5
  go_wp2_with fail
  refine (decode_c _ _ _ _ _ HO5.out hc5).mono ?_
  rintro e9 w6 ⟨hor, hb6⟩
  have he : e9 = Ending.returned (.tuple #[.agg #[.int .u8 0, .int .u8 0, .int .u8 0, .int .u32 0, .int .u32 0, .string ⟨#[]⟩], .int .i64 3]) := by
    rcases hor with ⟨q, hq, _⟩ | ⟨_, h9⟩
    · exact absurd hq (HNW.out q)
    · exact h9
  subst he
  clear hor
  have hB6 := hBu5.trans (hb6.mono hBu5.size)
  have hbu6 := hb6.alloc hb6.size (.cells #[.int .u8 0, .int .u8 0, .int .u8 0, .int .u32 0, .int .u32 0, .string ⟨#[]⟩] 25)
  have hBu6 := hB6.alloc hB6.size (.cells #[.int .u8 0, .int .u8 0, .int .u8 0, .int .u32 0, .int .u32 0, .string ⟨#[]⟩] 25)
  have hP6 : PB (w6.alloc (.cells #[.int .u8 0, .int .u8 0, .int .u8 0, .int .u32 0, .int .u32 0, .string ⟨#[]⟩] 25)) w6.heap.size ⟨0, 0, 0, 0, 0, ⟨#[]⟩⟩ := heap_alloc_new w6 _
  have KA6 := hid (HA5.out.later hbu6)
  have KO6 := hid (HO5.out.later hbu6)
  go_wp2_with fail
  generalize (w6.alloc (.cells #[.int .u8 0, .int .u8 0, .int .u8 0, .int .u32 0, .int .u32 0, .string ⟨#[]⟩] 25)) = u6 at *
  refine (few_c _ _ _ _ _ KA6.out hlc).mono ?_
  rintro _ u6 ⟨rfl, rfl⟩
  rw [HM.out]
  have KF6 := hid (KF6of.out u6 KA6.out)
  go_wp2_with fail
  refine (rdecode_c _ _ _ _ _ KF6.out (by omega) (by omega)).mono ?_
  rintro e9 w7 ⟨hor, hb7⟩
  have he : e9 = Ending.returned (.tuple #[.agg #[.int .u8 0, .int .u8 0, .int .u8 0, .int .u32 0, .int .u32 0, .string ⟨#[]⟩], .int .i64 3]) := by
    rcases hor with ⟨q, hq, _⟩ | ⟨_, h9⟩
    · exact absurd hq (HNW.out q)
    · exact h9
  subst he
  clear hor
  have hB7 := hBu6.trans (hb7.mono hBu6.size)
  have hbu7 := hb7.alloc hb7.size (.cells #[.int .u8 0, .int .u8 0, .int .u8 0, .int .u32 0, .int .u32 0, .string ⟨#[]⟩] 25)
  have hBu7 := hB7.alloc hB7.size (.cells #[.int .u8 0, .int .u8 0, .int .u8 0, .int .u32 0, .int .u32 0, .string ⟨#[]⟩] 25)
  have hP7 : PB (w7.alloc (.cells #[.int .u8 0, .int .u8 0, .int .u8 0, .int .u32 0, .int .u32 0, .string ⟨#[]⟩] 25)) w7.heap.size ⟨0, 0, 0, 0, 0, ⟨#[]⟩⟩ := heap_alloc_new w7 _
  have KA7 := hid (KA6.out.later hbu7)
  have KO7 := hid (KO6.out.later hbu7)
  have Q17 := PB.later hP6 hbu7
  go_wp2_with fail
  generalize (w7.alloc (.cells #[.int .u8 0, .int .u8 0, .int .u8 0, .int .u32 0, .int .u32 0, .string ⟨#[]⟩] 25)) = u7 at *
  refine (cut_c _ _ _ _ _ KO7.out hc5 (by omega)).mono ?_
  rintro e9 w8 ⟨hor, hb8⟩
  obtain ⟨v8, he, hown8⟩ : ∃ v, e9 = Ending.returned (.tuple #[.agg #[.int .u8 k, .int .u8 f, .int .u8 t, .int .u32 e, .int .u32 s, .string b], v, .int .i64 0]) ∧ w8.ownsRow u7.heap.size 5 1 v RD.length (RD.map u8V) := by
    rcases hor with ⟨q, v, hq, h1, h2⟩ | ⟨h9, _⟩
    · have e8 := Fr.begins_one hq HBg.out
      subst e8; exact ⟨v, h1, by rw [HRD.out]; exact h2⟩
    · exact absurd HBg.out (h9 _)
  subst he
  obtain ⟨a8, cap8, rfl, hI8, _⟩ := isB_pile (T := 0) (g := 0) (fun x hx => HYB.out x (by rw [HRD.out] at hx; exact List.mem_of_mem_drop hx)) hown8
  have HX8 := hid hI8
  clear hor hown8 hI8
  have hB8 := hBu7.trans (hb8.mono hBu7.size)
  have hbu8 := hb8.alloc hb8.size (.cells #[.int .u8 k, .int .u8 f, .int .u8 t, .int .u32 e, .int .u32 s, .string b] 25)
  have hBu8 := hB8.alloc hB8.size (.cells #[.int .u8 k, .int .u8 f, .int .u8 t, .int .u32 e, .int .u32 s, .string b] 25)
  have hP8 : PB (w8.alloc (.cells #[.int .u8 k, .int .u8 f, .int .u8 t, .int .u32 e, .int .u32 s, .string b] 25)) w8.heap.size ⟨k, f, t, e, s, b⟩ := heap_alloc_new w8 _
  have KX8 := hid (HX8.out.later ((Below.refl _ _).alloc (Nat.le_refl _) (.cells #[.int .u8 k, .int .u8 f, .int .u8 t, .int .u32 e, .int .u32 s, .string b] 25)))
  have KA8 := hid (KA7.out.later hbu8)
  have KO8 := hid (KO7.out.later hbu8)
  have Q18 := PB.later Q17 hbu8
  have Q28 := PB.later hP7 hbu8
  go_wp2_with fail
  generalize (w8.alloc (.cells #[.int .u8 k, .int .u8 f, .int .u8 t, .int .u32 e, .int .u32 s, .string b] 25)) = u8 at *
  refine (few_c _ _ _ _ _ KA8.out hlc).mono ?_
  rintro _ u8 ⟨rfl, rfl⟩
  rw [HM.out]
  have KF8 := hid (KF6of.out u8 KA8.out)
  go_wp2_with fail
  refine (rcut_c _ _ _ _ _ KF8.out (by omega) (by omega)).mono ?_
  rintro e9 w9 ⟨hor, hb9⟩
  obtain ⟨v9, he, hown9⟩ : ∃ v, e9 = Ending.returned (.tuple #[.agg #[.int .u8 k, .int .u8 f, .int .u8 t, .int .u32 e, .int .u32 s, .string b], v, .int .i64 0]) ∧ w9.ownsRow u8.heap.size 5 1 v RD.length (RD.map u8V) := by
    rcases hor with ⟨q, v, hq, h1, h2⟩ | ⟨h9, _⟩
    · have e8 := Fr.begins_one hq HBg.out
      subst e8; exact ⟨v, h1, by rw [HRD.out]; exact h2⟩
    · exact absurd HBg.out (h9 _)
  subst he
  obtain ⟨a9, cap9, rfl, hI9, _⟩ := isB_pile (T := 0) (g := 0) (fun x hx => HYB.out x (by rw [HRD.out] at hx; exact List.mem_of_mem_drop hx)) hown9
  have HX9 := hid hI9
  clear hor hown9 hI9
  have hB9 := hBu8.trans (hb9.mono hBu8.size)
  have hbu9 := hb9.alloc hb9.size (.cells #[.int .u8 k, .int .u8 f, .int .u8 t, .int .u32 e, .int .u32 s, .string b] 25)
  have hBu9 := hB9.alloc hB9.size (.cells #[.int .u8 k, .int .u8 f, .int .u8 t, .int .u32 e, .int .u32 s, .string b] 25)
  have hP9 : PB (w9.alloc (.cells #[.int .u8 k, .int .u8 f, .int .u8 t, .int .u32 e, .int .u32 s, .string b] 25)) w9.heap.size ⟨k, f, t, e, s, b⟩ := heap_alloc_new w9 _
  have KY9 := hid (HX9.out.later ((Below.refl _ _).alloc (Nat.le_refl _) (.cells #[.int .u8 k, .int .u8 f, .int .u8 t, .int .u32 e, .int .u32 s, .string b] 25)))
  have KA9 := hid (KA8.out.later hbu9)
  have KO9 := hid (KO8.out.later hbu9)
  have KX9 := hid (KX8.out.later hbu9)
  have Q19 := PB.later Q18 hbu9
  have Q29 := PB.later Q28 hbu9
  have Q39 := PB.later hP8 hbu9
  go_wp2_with fail
  generalize (w9.alloc (.cells #[.int .u8 k, .int .u8 f, .int .u8 t, .int .u32 e, .int .u32 s, .string b] 25)) = u9 at *
  have l10 : ∀ w1, Below u9.heap.size u9 w1 → w1.cell? ⟨w6.heap.size, 0, none⟩ = some (.int .u8 0) := fun w1 h1 => (PB.later Q19 h1).cells.1
  have l11 : ∀ w1, Below u9.heap.size u9 w1 → w1.cell? ⟨w6.heap.size, 1, none⟩ = some (.int .u8 0) := fun w1 h1 => (PB.later Q19 h1).cells.2.1
  have l12 : ∀ w1, Below u9.heap.size u9 w1 → w1.cell? ⟨w6.heap.size, 2, none⟩ = some (.int .u8 0) := fun w1 h1 => (PB.later Q19 h1).cells.2.2.1
  have l13 : ∀ w1, Below u9.heap.size u9 w1 → w1.cell? ⟨w6.heap.size, 3, none⟩ = some (.int .u32 0) := fun w1 h1 => (PB.later Q19 h1).cells.2.2.2.1
  have l14 : ∀ w1, Below u9.heap.size u9 w1 → w1.cell? ⟨w6.heap.size, 4, none⟩ = some (.int .u32 0) := fun w1 h1 => (PB.later Q19 h1).cells.2.2.2.2.1
  have l15 : ∀ w1, Below u9.heap.size u9 w1 → w1.cell? ⟨w6.heap.size, 5, none⟩ = some (.string ⟨#[]⟩) := fun w1 h1 => (PB.later Q19 h1).cells.2.2.2.2.2
  have l20 : ∀ w1, Below u9.heap.size u9 w1 → w1.cell? ⟨w7.heap.size, 0, none⟩ = some (.int .u8 0) := fun w1 h1 => (PB.later Q29 h1).cells.1
  have l21 : ∀ w1, Below u9.heap.size u9 w1 → w1.cell? ⟨w7.heap.size, 1, none⟩ = some (.int .u8 0) := fun w1 h1 => (PB.later Q29 h1).cells.2.1
  have l22 : ∀ w1, Below u9.heap.size u9 w1 → w1.cell? ⟨w7.heap.size, 2, none⟩ = some (.int .u8 0) := fun w1 h1 => (PB.later Q29 h1).cells.2.2.1
  have l23 : ∀ w1, Below u9.heap.size u9 w1 → w1.cell? ⟨w7.heap.size, 3, none⟩ = some (.int .u32 0) := fun w1 h1 => (PB.later Q29 h1).cells.2.2.2.1
  have l24 : ∀ w1, Below u9.heap.size u9 w1 → w1.cell? ⟨w7.heap.size, 4, none⟩ = some (.int .u32 0) := fun w1 h1 => (PB.later Q29 h1).cells.2.2.2.2.1
  have l25 : ∀ w1, Below u9.heap.size u9 w1 → w1.cell? ⟨w7.heap.size, 5, none⟩ = some (.string ⟨#[]⟩) := fun w1 h1 => (PB.later Q29 h1).cells.2.2.2.2.2
  have l30 : ∀ w1, Below u9.heap.size u9 w1 → w1.cell? ⟨w8.heap.size, 0, none⟩ = some (.int .u8 k) := fun w1 h1 => (PB.later Q39 h1).cells.1
  have l31 : ∀ w1, Below u9.heap.size u9 w1 → w1.cell? ⟨w8.heap.size, 1, none⟩ = some (.int .u8 f) := fun w1 h1 => (PB.later Q39 h1).cells.2.1
  have l32 : ∀ w1, Below u9.heap.size u9 w1 → w1.cell? ⟨w8.heap.size, 2, none⟩ = some (.int .u8 t) := fun w1 h1 => (PB.later Q39 h1).cells.2.2.1
  have l33 : ∀ w1, Below u9.heap.size u9 w1 → w1.cell? ⟨w8.heap.size, 3, none⟩ = some (.int .u32 e) := fun w1 h1 => (PB.later Q39 h1).cells.2.2.2.1
  have l34 : ∀ w1, Below u9.heap.size u9 w1 → w1.cell? ⟨w8.heap.size, 4, none⟩ = some (.int .u32 s) := fun w1 h1 => (PB.later Q39 h1).cells.2.2.2.2.1
  have l35 : ∀ w1, Below u9.heap.size u9 w1 → w1.cell? ⟨w8.heap.size, 5, none⟩ = some (.string b) := fun w1 h1 => (PB.later Q39 h1).cells.2.2.2.2.2
  have l40 : ∀ w1, Below u9.heap.size u9 w1 → w1.cell? ⟨w9.heap.size, 0, none⟩ = some (.int .u8 k) := fun w1 h1 => (PB.later hP9 h1).cells.1
  have l41 : ∀ w1, Below u9.heap.size u9 w1 → w1.cell? ⟨w9.heap.size, 1, none⟩ = some (.int .u8 f) := fun w1 h1 => (PB.later hP9 h1).cells.2.1
  have l42 : ∀ w1, Below u9.heap.size u9 w1 → w1.cell? ⟨w9.heap.size, 2, none⟩ = some (.int .u8 t) := fun w1 h1 => (PB.later hP9 h1).cells.2.2.1
  have l43 : ∀ w1, Below u9.heap.size u9 w1 → w1.cell? ⟨w9.heap.size, 3, none⟩ = some (.int .u32 e) := fun w1 h1 => (PB.later hP9 h1).cells.2.2.2.1
  have l44 : ∀ w1, Below u9.heap.size u9 w1 → w1.cell? ⟨w9.heap.size, 4, none⟩ = some (.int .u32 s) := fun w1 h1 => (PB.later hP9 h1).cells.2.2.2.2.1
  have l45 : ∀ w1, Below u9.heap.size u9 w1 → w1.cell? ⟨w9.heap.size, 5, none⟩ = some (.string b) := fun w1 h1 => (PB.later hP9 h1).cells.2.2.2.2.2
  have kx : ∀ w1, Below u9.heap.size u9 w1 → (convert 26 9 (.slice a8 RD.length cap8)).run Try.prog w1 = .ok (.string (Fr.tx RD)) w1 := fun w1 h1 => (KX9.out.later h1).conv'
  have ky : ∀ w1, Below u9.heap.size u9 w1 → (convert 26 9 (.slice a9 RD.length cap9)).run Try.prog w1 = .ok (.string (Fr.tx RD)) w1 := fun w1 h1 => (KY9.out.later h1).conv'
  generalize RD.length = LR at *
  generalize Fr.tx RD = TR at *
  have ko : ∀ w1, Below u9.heap.size u9 w1 → (convert 26 9 (.slice a5 m cap5)).run Try.prog w1 = .ok (.string (Fr.tx R)) w1 := fun w1 h1 => (KO9.out.later h1).conv'
  have kf : ∀ w1, Below u9.heap.size u9 w1 → (convert 26 9 (.slice (some ⟨ab, ao, none⟩) m cap)).run Try.prog w1 = .ok (.string (Fr.tx R)) w1 := fun w1 h1 => (KF6of.out w1 (KA9.out.later h1)).conv'
  have KW : Hid (∀ w1, Below u9.heap.size u9 w1 → Calls Try.prog 14 #[.slice (some ⟨ab, ao, none⟩) len cap] w1 fun e w' => e = .returned (.slice (some ⟨ab, ao, none⟩) m cap) ∧ w' = w1) := fun w1 h1 => by have := few_c _ _ _ _ _ (KA9.out.later h1) hlc; rw [HM.out] at this; exact this
  generalize Fr.tx R = TR0 at *
  go_wp2_with fail
  refine wp_region_class (by kernel_rfl) (by kernel_rfl) ?_
  repeat (first
    | go_big_quiet_skip
    | (go_big_quiet_want
       apply quiet_by
       · intro w1 hw1
         go_simp
         first
           | rfl
           | exact kx _ hw1
           | exact ky _ hw1
           | exact ko _ hw1
           | exact kf _ hw1
           | (go_at_call 11; exact class_of hw1 (live_c _))
           | (go_at_call 14; exact class_same hw1 (KW.out _ hw1))
       · go_simp; rfl
       go_big_quiet_on))
  refine wpQuiet_nil ?_
  intro w10 hw10
  go_wp2
  go_ret
  exact ⟨rfl, hBu9.trans (hw10.mono hBu9.size)⟩
set_option maxRecDepth 100000 in
set_option maxHeartbeats 4000000 in
theorem reads_none (ab ao : Nat) (len cap : Nat) (zs : List Int) (hlc : len ≤ cap) (w : World) (hb : IsB w (some ⟨ab, ao, none⟩) len zs) (m : Nat) (hm : fewN len = m) (R : List Int) (hR : zs.take m = R) (hNB : ∀ p, ¬ Fr.Begins p R) (hNW : ∀ p, ¬ Whole p R) :
    Calls Try.prog 4 #[.slice (some ⟨ab, ao, none⟩) len cap] w fun e w' => e = .returned (.bool true) ∧ Below w.heap.size w w' := by
  have hf := fewN_le len
  rw [hm] at hf
  have HM := hid hm
  have KF6of : Hid (∀ U, IsB U (some ⟨ab, ao, none⟩) len zs → IsB U (some ⟨ab, ao, none⟩) m R) := fun U h => by have := few_isB h; rw [hm, hR] at this; exact this
  have HA := hid hb
  have HRB := hid (KF6of.out w hb)
  have HYB : Hid (∀ x ∈ R, 0 ≤ x ∧ x ≤ 255) := fun x hx => Fr.mem_getD HRB.out.2.2.2 x hx
  have HRL := hid HRB.out.1
  have HNB := hid hNB
  have HNW := hid hNW
  clear hNB hNW
  obtain ⟨i0, hi, hz0, hz1, hz2⟩ := info_parts8
  clear hb hm hR
  go_enter Try.func4, Try.ntmps4
  go_wp2_with fail
  have hBa : Below w.heap.size w (w.alloc (.cells #[] 5)) := (Below.refl _ _).alloc (Nat.le_refl _) _
  refine (few_c _ _ _ _ _ (HA.out.later hBa) hlc).mono ?_
  rintro _ wa ⟨rfl, rfl⟩
  rw [HM.out]
  have HFa := hid (KF6of.out _ (HA.out.later hBa))
  go_wp2_with (at_builtin; refine wpList_append_own _ rfl _ _ 26 rfl w.heap.size 5 i0 (.int .u8 0) 1 1 Try.underlying26 hi hz0 hz1 hz2 rfl (by decide) _ _ _ rfl (own_empty8 w) ⟨ab, ao, none⟩ m cap (R.map u8V) rfl (by rw [List.length_map, HRL.out]; omega) (isB_cells HFa.out) (fun y hy => by obtain ⟨x, _, rfl⟩ := List.mem_map.1 hy; rfl) (by unfold maxLen; omega) (by omega) (by simp) ?_; intro v5 u5 hown5 hgrow5 hnil5; (rw [Nat.zero_add, List.nil_append] at hown5); (have hb5 : Below w.heap.size w u5 := Below.grown ((Below.refl _ _).alloc (Nat.le_refl _) _) hgrow5 (by simp) (fun k hk => by cases hk; exact Nat.le_refl _)); clear hgrow5 hnil5)
  have hBu5 : Below w.heap.size w u5 := hb5
  have HA5 := hid (HA.out.later hBu5)
  rw [← HRL.out] at hown5
  obtain ⟨a5, cap5, rfl, hI5, hc5⟩ := isB_pile (T := 0) (g := 0) HYB.out hown5
  rw [HRL.out] at hI5 hc5 ⊢
  have HO5 := hid hI5
  clear hown5 hI5
  go_wp2_with fail
  refine (decode_c _ _ _ _ _ HO5.out hc5).mono ?_
  rintro e9 w6 ⟨hor, hb6⟩
  have he : e9 = Ending.returned (.tuple #[.agg #[.int .u8 0, .int .u8 0, .int .u8 0, .int .u32 0, .int .u32 0, .string ⟨#[]⟩], .int .i64 3]) := by
    rcases hor with ⟨q, hq, _⟩ | ⟨_, h9⟩
    · exact absurd hq (HNW.out q)
    · exact h9
  subst he
  clear hor
  have hB6 := hBu5.trans (hb6.mono hBu5.size)
  have hbu6 := hb6.alloc hb6.size (.cells #[.int .u8 0, .int .u8 0, .int .u8 0, .int .u32 0, .int .u32 0, .string ⟨#[]⟩] 25)
  have hBu6 := hB6.alloc hB6.size (.cells #[.int .u8 0, .int .u8 0, .int .u8 0, .int .u32 0, .int .u32 0, .string ⟨#[]⟩] 25)
  have hP6 : PB (w6.alloc (.cells #[.int .u8 0, .int .u8 0, .int .u8 0, .int .u32 0, .int .u32 0, .string ⟨#[]⟩] 25)) w6.heap.size ⟨0, 0, 0, 0, 0, ⟨#[]⟩⟩ := heap_alloc_new w6 _
  have KA6 := hid (HA5.out.later hbu6)
  have KO6 := hid (HO5.out.later hbu6)
  go_wp2_with fail
  generalize (w6.alloc (.cells #[.int .u8 0, .int .u8 0, .int .u8 0, .int .u32 0, .int .u32 0, .string ⟨#[]⟩] 25)) = u6 at *
  refine (few_c _ _ _ _ _ KA6.out hlc).mono ?_
  rintro _ u6 ⟨rfl, rfl⟩
  rw [HM.out]
  have KF6 := hid (KF6of.out u6 KA6.out)
  go_wp2_with fail
  refine (rdecode_c _ _ _ _ _ KF6.out (by omega) (by omega)).mono ?_
  rintro e9 w7 ⟨hor, hb7⟩
  have he : e9 = Ending.returned (.tuple #[.agg #[.int .u8 0, .int .u8 0, .int .u8 0, .int .u32 0, .int .u32 0, .string ⟨#[]⟩], .int .i64 3]) := by
    rcases hor with ⟨q, hq, _⟩ | ⟨_, h9⟩
    · exact absurd hq (HNW.out q)
    · exact h9
  subst he
  clear hor
  have hB7 := hBu6.trans (hb7.mono hBu6.size)
  have hbu7 := hb7.alloc hb7.size (.cells #[.int .u8 0, .int .u8 0, .int .u8 0, .int .u32 0, .int .u32 0, .string ⟨#[]⟩] 25)
  have hBu7 := hB7.alloc hB7.size (.cells #[.int .u8 0, .int .u8 0, .int .u8 0, .int .u32 0, .int .u32 0, .string ⟨#[]⟩] 25)
  have hP7 : PB (w7.alloc (.cells #[.int .u8 0, .int .u8 0, .int .u8 0, .int .u32 0, .int .u32 0, .string ⟨#[]⟩] 25)) w7.heap.size ⟨0, 0, 0, 0, 0, ⟨#[]⟩⟩ := heap_alloc_new w7 _
  have KA7 := hid (KA6.out.later hbu7)
  have KO7 := hid (KO6.out.later hbu7)
  have Q17 := PB.later hP6 hbu7
  go_wp2_with fail
  generalize (w7.alloc (.cells #[.int .u8 0, .int .u8 0, .int .u8 0, .int .u32 0, .int .u32 0, .string ⟨#[]⟩] 25)) = u7 at *
  refine (cut_c _ _ _ _ _ KO7.out hc5 (by omega)).mono ?_
  rintro e9 w8 ⟨hor, hb8⟩
  have he : e9 = Ending.returned (.tuple #[.agg #[.int .u8 0, .int .u8 0, .int .u8 0, .int .u32 0, .int .u32 0, .string ⟨#[]⟩], .slice none 0 0, .int .i64 3]) := by
    rcases hor with ⟨q, v, hq, _⟩ | ⟨_, h9⟩
    · exact absurd hq (HNB.out q)
    · exact h9
  subst he
  clear hor
  have hB8 := hBu7.trans (hb8.mono hBu7.size)
  have hbu8 := hb8.alloc hb8.size (.cells #[.int .u8 0, .int .u8 0, .int .u8 0, .int .u32 0, .int .u32 0, .string ⟨#[]⟩] 25)
  have hBu8 := hB8.alloc hB8.size (.cells #[.int .u8 0, .int .u8 0, .int .u8 0, .int .u32 0, .int .u32 0, .string ⟨#[]⟩] 25)
  have hP8 : PB (w8.alloc (.cells #[.int .u8 0, .int .u8 0, .int .u8 0, .int .u32 0, .int .u32 0, .string ⟨#[]⟩] 25)) w8.heap.size ⟨0, 0, 0, 0, 0, ⟨#[]⟩⟩ := heap_alloc_new w8 _
  have KA8 := hid (KA7.out.later hbu8)
  have KO8 := hid (KO7.out.later hbu8)
  have Q18 := PB.later Q17 hbu8
  have Q28 := PB.later hP7 hbu8
  go_wp2_with fail
  generalize (w8.alloc (.cells #[.int .u8 0, .int .u8 0, .int .u8 0, .int .u32 0, .int .u32 0, .string ⟨#[]⟩] 25)) = u8 at *
  refine (few_c _ _ _ _ _ KA8.out hlc).mono ?_
  rintro _ u8 ⟨rfl, rfl⟩
  rw [HM.out]
  have KF8 := hid (KF6of.out u8 KA8.out)
  go_wp2_with fail
  refine (rcut_c _ _ _ _ _ KF8.out (by omega) (by omega)).mono ?_
  rintro e9 w9 ⟨hor, hb9⟩
  have he : e9 = Ending.returned (.tuple #[.agg #[.int .u8 0, .int .u8 0, .int .u8 0, .int .u32 0, .int .u32 0, .string ⟨#[]⟩], .slice none 0 0, .int .i64 3]) := by
    rcases hor with ⟨q, v, hq, _⟩ | ⟨_, h9⟩
    · exact absurd hq (HNB.out q)
    · exact h9
  subst he
  clear hor
  have hB9 := hBu8.trans (hb9.mono hBu8.size)
  have hbu9 := hb9.alloc hb9.size (.cells #[.int .u8 0, .int .u8 0, .int .u8 0, .int .u32 0, .int .u32 0, .string ⟨#[]⟩] 25)
  have hBu9 := hB9.alloc hB9.size (.cells #[.int .u8 0, .int .u8 0, .int .u8 0, .int .u32 0, .int .u32 0, .string ⟨#[]⟩] 25)
  have hP9 : PB (w9.alloc (.cells #[.int .u8 0, .int .u8 0, .int .u8 0, .int .u32 0, .int .u32 0, .string ⟨#[]⟩] 25)) w9.heap.size ⟨0, 0, 0, 0, 0, ⟨#[]⟩⟩ := heap_alloc_new w9 _
  have KA9 := hid (KA8.out.later hbu9)
  have KO9 := hid (KO8.out.later hbu9)
  have Q19 := PB.later Q18 hbu9
  have Q29 := PB.later Q28 hbu9
  have Q39 := PB.later hP8 hbu9
  go_wp2_with fail
  generalize (w9.alloc (.cells #[.int .u8 0, .int .u8 0, .int .u8 0, .int .u32 0, .int .u32 0, .string ⟨#[]⟩] 25)) = u9 at *
  have l10 : ∀ w1, Below u9.heap.size u9 w1 → w1.cell? ⟨w6.heap.size, 0, none⟩ = some (.int .u8 0) := fun w1 h1 => (PB.later Q19 h1).cells.1
  have l11 : ∀ w1, Below u9.heap.size u9 w1 → w1.cell? ⟨w6.heap.size, 1, none⟩ = some (.int .u8 0) := fun w1 h1 => (PB.later Q19 h1).cells.2.1
  have l12 : ∀ w1, Below u9.heap.size u9 w1 → w1.cell? ⟨w6.heap.size, 2, none⟩ = some (.int .u8 0) := fun w1 h1 => (PB.later Q19 h1).cells.2.2.1
  have l13 : ∀ w1, Below u9.heap.size u9 w1 → w1.cell? ⟨w6.heap.size, 3, none⟩ = some (.int .u32 0) := fun w1 h1 => (PB.later Q19 h1).cells.2.2.2.1
  have l14 : ∀ w1, Below u9.heap.size u9 w1 → w1.cell? ⟨w6.heap.size, 4, none⟩ = some (.int .u32 0) := fun w1 h1 => (PB.later Q19 h1).cells.2.2.2.2.1
  have l15 : ∀ w1, Below u9.heap.size u9 w1 → w1.cell? ⟨w6.heap.size, 5, none⟩ = some (.string ⟨#[]⟩) := fun w1 h1 => (PB.later Q19 h1).cells.2.2.2.2.2
  have l20 : ∀ w1, Below u9.heap.size u9 w1 → w1.cell? ⟨w7.heap.size, 0, none⟩ = some (.int .u8 0) := fun w1 h1 => (PB.later Q29 h1).cells.1
  have l21 : ∀ w1, Below u9.heap.size u9 w1 → w1.cell? ⟨w7.heap.size, 1, none⟩ = some (.int .u8 0) := fun w1 h1 => (PB.later Q29 h1).cells.2.1
  have l22 : ∀ w1, Below u9.heap.size u9 w1 → w1.cell? ⟨w7.heap.size, 2, none⟩ = some (.int .u8 0) := fun w1 h1 => (PB.later Q29 h1).cells.2.2.1
  have l23 : ∀ w1, Below u9.heap.size u9 w1 → w1.cell? ⟨w7.heap.size, 3, none⟩ = some (.int .u32 0) := fun w1 h1 => (PB.later Q29 h1).cells.2.2.2.1
  have l24 : ∀ w1, Below u9.heap.size u9 w1 → w1.cell? ⟨w7.heap.size, 4, none⟩ = some (.int .u32 0) := fun w1 h1 => (PB.later Q29 h1).cells.2.2.2.2.1
  have l25 : ∀ w1, Below u9.heap.size u9 w1 → w1.cell? ⟨w7.heap.size, 5, none⟩ = some (.string ⟨#[]⟩) := fun w1 h1 => (PB.later Q29 h1).cells.2.2.2.2.2
  have l30 : ∀ w1, Below u9.heap.size u9 w1 → w1.cell? ⟨w8.heap.size, 0, none⟩ = some (.int .u8 0) := fun w1 h1 => (PB.later Q39 h1).cells.1
  have l31 : ∀ w1, Below u9.heap.size u9 w1 → w1.cell? ⟨w8.heap.size, 1, none⟩ = some (.int .u8 0) := fun w1 h1 => (PB.later Q39 h1).cells.2.1
  have l32 : ∀ w1, Below u9.heap.size u9 w1 → w1.cell? ⟨w8.heap.size, 2, none⟩ = some (.int .u8 0) := fun w1 h1 => (PB.later Q39 h1).cells.2.2.1
  have l33 : ∀ w1, Below u9.heap.size u9 w1 → w1.cell? ⟨w8.heap.size, 3, none⟩ = some (.int .u32 0) := fun w1 h1 => (PB.later Q39 h1).cells.2.2.2.1
  have l34 : ∀ w1, Below u9.heap.size u9 w1 → w1.cell? ⟨w8.heap.size, 4, none⟩ = some (.int .u32 0) := fun w1 h1 => (PB.later Q39 h1).cells.2.2.2.2.1
  have l35 : ∀ w1, Below u9.heap.size u9 w1 → w1.cell? ⟨w8.heap.size, 5, none⟩ = some (.string ⟨#[]⟩) := fun w1 h1 => (PB.later Q39 h1).cells.2.2.2.2.2
  have l40 : ∀ w1, Below u9.heap.size u9 w1 → w1.cell? ⟨w9.heap.size, 0, none⟩ = some (.int .u8 0) := fun w1 h1 => (PB.later hP9 h1).cells.1
  have l41 : ∀ w1, Below u9.heap.size u9 w1 → w1.cell? ⟨w9.heap.size, 1, none⟩ = some (.int .u8 0) := fun w1 h1 => (PB.later hP9 h1).cells.2.1
  have l42 : ∀ w1, Below u9.heap.size u9 w1 → w1.cell? ⟨w9.heap.size, 2, none⟩ = some (.int .u8 0) := fun w1 h1 => (PB.later hP9 h1).cells.2.2.1
  have l43 : ∀ w1, Below u9.heap.size u9 w1 → w1.cell? ⟨w9.heap.size, 3, none⟩ = some (.int .u32 0) := fun w1 h1 => (PB.later hP9 h1).cells.2.2.2.1
  have l44 : ∀ w1, Below u9.heap.size u9 w1 → w1.cell? ⟨w9.heap.size, 4, none⟩ = some (.int .u32 0) := fun w1 h1 => (PB.later hP9 h1).cells.2.2.2.2.1
  have l45 : ∀ w1, Below u9.heap.size u9 w1 → w1.cell? ⟨w9.heap.size, 5, none⟩ = some (.string ⟨#[]⟩) := fun w1 h1 => (PB.later hP9 h1).cells.2.2.2.2.2
  have kx : ∀ w1, Below u9.heap.size u9 w1 → (convert 26 9 (.slice none 0 0)).run Try.prog w1 = .ok (.string (Fr.tx [])) w1 := fun w1 h1 => conv_zero w1 none 0
  have ky := kx
  have ko : ∀ w1, Below u9.heap.size u9 w1 → (convert 26 9 (.slice a5 m cap5)).run Try.prog w1 = .ok (.string (Fr.tx R)) w1 := fun w1 h1 => (KO9.out.later h1).conv'
  have kf : ∀ w1, Below u9.heap.size u9 w1 → (convert 26 9 (.slice (some ⟨ab, ao, none⟩) m cap)).run Try.prog w1 = .ok (.string (Fr.tx R)) w1 := fun w1 h1 => (KF6of.out w1 (KA9.out.later h1)).conv'
  have KW : Hid (∀ w1, Below u9.heap.size u9 w1 → Calls Try.prog 14 #[.slice (some ⟨ab, ao, none⟩) len cap] w1 fun e w' => e = .returned (.slice (some ⟨ab, ao, none⟩) m cap) ∧ w' = w1) := fun w1 h1 => by have := few_c _ _ _ _ _ (KA9.out.later h1) hlc; rw [HM.out] at this; exact this
  generalize Fr.tx R = TR0 at *
  go_wp2_with fail
  refine wp_region_class (by kernel_rfl) (by kernel_rfl) ?_
  repeat (first
    | go_big_quiet_skip
    | (go_big_quiet_want
       apply quiet_by
       · intro w1 hw1
         go_simp
         first
           | rfl
           | exact kx _ hw1
           | exact ky _ hw1
           | exact ko _ hw1
           | exact kf _ hw1
           | (go_at_call 11; exact class_of hw1 (live_c _))
           | (go_at_call 14; exact class_same hw1 (KW.out _ hw1))
       · go_simp; rfl
       go_big_quiet_on))
  refine wpQuiet_nil ?_
  intro w10 hw10
  go_wp2
  go_ret
  exact ⟨rfl, hBu9.trans (hw10.mono hBu9.size)⟩
set_option maxRecDepth 100000 in
set_option maxHeartbeats 4000000 in
theorem reads_zero (ad : Addr) (len cap : Nat) (zs : List Int) (hlc : len ≤ cap) (w : World) (hb : IsB w (some ad) len zs) (m : Nat) (hm : fewN len = m) (R : List Int) (hR : zs.take m = R) (hR0 : R = []) (hNB : ∀ p, ¬ Fr.Begins p R) (hNW : ∀ p, ¬ Whole p R) :
    Calls Try.prog 4 #[.slice (some ad) len cap] w fun e w' => e = .returned (.bool true) ∧ Below w.heap.size w w' := by
  have hf := fewN_le len
  rw [hm] at hf
  have HM := hid hm
  have KF6of : Hid (∀ U, IsB U (some ad) len zs → IsB U (some ad) m R) := fun U h => by have := few_isB h; rw [hm, hR] at this; exact this
  have HA := hid hb
  have HRB := hid (KF6of.out w hb)
  have HYB : Hid (∀ x ∈ R, 0 ≤ x ∧ x ≤ 255) := fun x hx => Fr.mem_getD HRB.out.2.2.2 x hx
  have HRL := hid HRB.out.1
  have HNB := hid hNB
  have HNW := hid hNW
  have HR0 := hid hR0
  clear hNB hNW hR0
  obtain ⟨i0, hi, hz0, hz1, hz2⟩ := info_parts8
  clear hb hm hR
  go_enter Try.func4, Try.ntmps4
  go_wp2_with fail
  have hBa : Below w.heap.size w (w.alloc (.cells #[] 5)) := (Below.refl _ _).alloc (Nat.le_refl _) _
  refine (few_c _ _ _ _ _ (HA.out.later hBa) hlc).mono ?_
  rintro _ wa ⟨rfl, rfl⟩
  rw [HM.out]
  have HFa := hid (KF6of.out _ (HA.out.later hBa))
  go_wp2_with (at_builtin; refine wpList_append_own _ rfl _ _ 26 rfl w.heap.size 5 i0 (.int .u8 0) 1 1 Try.underlying26 hi hz0 hz1 hz2 rfl (by decide) _ _ _ rfl (own_empty8 w) ad m cap (R.map u8V) rfl (by rw [List.length_map, HRL.out]; omega) (fun j u h => by rw [HR0.out] at h; cases h) (fun y hy => by obtain ⟨x, _, rfl⟩ := List.mem_map.1 hy; rfl) (by unfold maxLen; omega) (by omega) (by simp) ?_; intro v5 u5 hown5 hgrow5 hnil5; (rw [Nat.zero_add, List.nil_append] at hown5); (have hb5 : Below w.heap.size w u5 := Below.grown ((Below.refl _ _).alloc (Nat.le_refl _) _) hgrow5 (by simp) (fun k hk => by cases hk; exact Nat.le_refl _)); clear hgrow5 hnil5)
  have hBu5 : Below w.heap.size w u5 := hb5
  have HA5 := hid (HA.out.later hBu5)
  rw [← HRL.out] at hown5
  obtain ⟨a5, cap5, rfl, hI5, hc5⟩ := isB_pile (T := 0) (g := 0) HYB.out hown5
  rw [HRL.out] at hI5 hc5 ⊢
  have HO5 := hid hI5
  clear hown5 hI5
  go_wp2_with fail
  refine (decode_c _ _ _ _ _ HO5.out hc5).mono ?_
  rintro e9 w6 ⟨hor, hb6⟩
  have he : e9 = Ending.returned (.tuple #[.agg #[.int .u8 0, .int .u8 0, .int .u8 0, .int .u32 0, .int .u32 0, .string ⟨#[]⟩], .int .i64 3]) := by
    rcases hor with ⟨q, hq, _⟩ | ⟨_, h9⟩
    · exact absurd hq (HNW.out q)
    · exact h9
  subst he
  clear hor
  have hB6 := hBu5.trans (hb6.mono hBu5.size)
  have hbu6 := hb6.alloc hb6.size (.cells #[.int .u8 0, .int .u8 0, .int .u8 0, .int .u32 0, .int .u32 0, .string ⟨#[]⟩] 25)
  have hBu6 := hB6.alloc hB6.size (.cells #[.int .u8 0, .int .u8 0, .int .u8 0, .int .u32 0, .int .u32 0, .string ⟨#[]⟩] 25)
  have hP6 : PB (w6.alloc (.cells #[.int .u8 0, .int .u8 0, .int .u8 0, .int .u32 0, .int .u32 0, .string ⟨#[]⟩] 25)) w6.heap.size ⟨0, 0, 0, 0, 0, ⟨#[]⟩⟩ := heap_alloc_new w6 _
  have KA6 := hid (HA5.out.later hbu6)
  have KO6 := hid (HO5.out.later hbu6)
  go_wp2_with fail
  generalize (w6.alloc (.cells #[.int .u8 0, .int .u8 0, .int .u8 0, .int .u32 0, .int .u32 0, .string ⟨#[]⟩] 25)) = u6 at *
  refine (few_c _ _ _ _ _ KA6.out hlc).mono ?_
  rintro _ u6 ⟨rfl, rfl⟩
  rw [HM.out]
  have KF6 := hid (KF6of.out u6 KA6.out)
  go_wp2_with fail
  refine (rdecode_c _ _ _ _ _ KF6.out (by omega) (by omega)).mono ?_
  rintro e9 w7 ⟨hor, hb7⟩
  have he : e9 = Ending.returned (.tuple #[.agg #[.int .u8 0, .int .u8 0, .int .u8 0, .int .u32 0, .int .u32 0, .string ⟨#[]⟩], .int .i64 3]) := by
    rcases hor with ⟨q, hq, _⟩ | ⟨_, h9⟩
    · exact absurd hq (HNW.out q)
    · exact h9
  subst he
  clear hor
  have hB7 := hBu6.trans (hb7.mono hBu6.size)
  have hbu7 := hb7.alloc hb7.size (.cells #[.int .u8 0, .int .u8 0, .int .u8 0, .int .u32 0, .int .u32 0, .string ⟨#[]⟩] 25)
  have hBu7 := hB7.alloc hB7.size (.cells #[.int .u8 0, .int .u8 0, .int .u8 0, .int .u32 0, .int .u32 0, .string ⟨#[]⟩] 25)
  have hP7 : PB (w7.alloc (.cells #[.int .u8 0, .int .u8 0, .int .u8 0, .int .u32 0, .int .u32 0, .string ⟨#[]⟩] 25)) w7.heap.size ⟨0, 0, 0, 0, 0, ⟨#[]⟩⟩ := heap_alloc_new w7 _
  have KA7 := hid (KA6.out.later hbu7)
  have KO7 := hid (KO6.out.later hbu7)
  have Q17 := PB.later hP6 hbu7
  go_wp2_with fail
  generalize (w7.alloc (.cells #[.int .u8 0, .int .u8 0, .int .u8 0, .int .u32 0, .int .u32 0, .string ⟨#[]⟩] 25)) = u7 at *
  refine (cut_c _ _ _ _ _ KO7.out hc5 (by omega)).mono ?_
  rintro e9 w8 ⟨hor, hb8⟩
  have he : e9 = Ending.returned (.tuple #[.agg #[.int .u8 0, .int .u8 0, .int .u8 0, .int .u32 0, .int .u32 0, .string ⟨#[]⟩], .slice none 0 0, .int .i64 3]) := by
    rcases hor with ⟨q, v, hq, _⟩ | ⟨_, h9⟩
    · exact absurd hq (HNB.out q)
    · exact h9
  subst he
  clear hor
  have hB8 := hBu7.trans (hb8.mono hBu7.size)
  have hbu8 := hb8.alloc hb8.size (.cells #[.int .u8 0, .int .u8 0, .int .u8 0, .int .u32 0, .int .u32 0, .string ⟨#[]⟩] 25)
  have hBu8 := hB8.alloc hB8.size (.cells #[.int .u8 0, .int .u8 0, .int .u8 0, .int .u32 0, .int .u32 0, .string ⟨#[]⟩] 25)
  have hP8 : PB (w8.alloc (.cells #[.int .u8 0, .int .u8 0, .int .u8 0, .int .u32 0, .int .u32 0, .string ⟨#[]⟩] 25)) w8.heap.size ⟨0, 0, 0, 0, 0, ⟨#[]⟩⟩ := heap_alloc_new w8 _
  have KA8 := hid (KA7.out.later hbu8)
  have KO8 := hid (KO7.out.later hbu8)
  have Q18 := PB.later Q17 hbu8
  have Q28 := PB.later hP7 hbu8
  go_wp2_with fail
  generalize (w8.alloc (.cells #[.int .u8 0, .int .u8 0, .int .u8 0, .int .u32 0, .int .u32 0, .string ⟨#[]⟩] 25)) = u8 at *
  refine (few_c _ _ _ _ _ KA8.out hlc).mono ?_
  rintro _ u8 ⟨rfl, rfl⟩
  rw [HM.out]
  have KF8 := hid (KF6of.out u8 KA8.out)
  go_wp2_with fail
  refine (rcut_c _ _ _ _ _ KF8.out (by omega) (by omega)).mono ?_
  rintro e9 w9 ⟨hor, hb9⟩
  have he : e9 = Ending.returned (.tuple #[.agg #[.int .u8 0, .int .u8 0, .int .u8 0, .int .u32 0, .int .u32 0, .string ⟨#[]⟩], .slice none 0 0, .int .i64 3]) := by
    rcases hor with ⟨q, v, hq, _⟩ | ⟨_, h9⟩
    · exact absurd hq (HNB.out q)
    · exact h9
  subst he
  clear hor
  have hB9 := hBu8.trans (hb9.mono hBu8.size)
  have hbu9 := hb9.alloc hb9.size (.cells #[.int .u8 0, .int .u8 0, .int .u8 0, .int .u32 0, .int .u32 0, .string ⟨#[]⟩] 25)
  have hBu9 := hB9.alloc hB9.size (.cells #[.int .u8 0, .int .u8 0, .int .u8 0, .int .u32 0, .int .u32 0, .string ⟨#[]⟩] 25)
  have hP9 : PB (w9.alloc (.cells #[.int .u8 0, .int .u8 0, .int .u8 0, .int .u32 0, .int .u32 0, .string ⟨#[]⟩] 25)) w9.heap.size ⟨0, 0, 0, 0, 0, ⟨#[]⟩⟩ := heap_alloc_new w9 _
  have KA9 := hid (KA8.out.later hbu9)
  have KO9 := hid (KO8.out.later hbu9)
  have Q19 := PB.later Q18 hbu9
  have Q29 := PB.later Q28 hbu9
  have Q39 := PB.later hP8 hbu9
  go_wp2_with fail
  generalize (w9.alloc (.cells #[.int .u8 0, .int .u8 0, .int .u8 0, .int .u32 0, .int .u32 0, .string ⟨#[]⟩] 25)) = u9 at *
  have l10 : ∀ w1, Below u9.heap.size u9 w1 → w1.cell? ⟨w6.heap.size, 0, none⟩ = some (.int .u8 0) := fun w1 h1 => (PB.later Q19 h1).cells.1
  have l11 : ∀ w1, Below u9.heap.size u9 w1 → w1.cell? ⟨w6.heap.size, 1, none⟩ = some (.int .u8 0) := fun w1 h1 => (PB.later Q19 h1).cells.2.1
  have l12 : ∀ w1, Below u9.heap.size u9 w1 → w1.cell? ⟨w6.heap.size, 2, none⟩ = some (.int .u8 0) := fun w1 h1 => (PB.later Q19 h1).cells.2.2.1
  have l13 : ∀ w1, Below u9.heap.size u9 w1 → w1.cell? ⟨w6.heap.size, 3, none⟩ = some (.int .u32 0) := fun w1 h1 => (PB.later Q19 h1).cells.2.2.2.1
  have l14 : ∀ w1, Below u9.heap.size u9 w1 → w1.cell? ⟨w6.heap.size, 4, none⟩ = some (.int .u32 0) := fun w1 h1 => (PB.later Q19 h1).cells.2.2.2.2.1
  have l15 : ∀ w1, Below u9.heap.size u9 w1 → w1.cell? ⟨w6.heap.size, 5, none⟩ = some (.string ⟨#[]⟩) := fun w1 h1 => (PB.later Q19 h1).cells.2.2.2.2.2
  have l20 : ∀ w1, Below u9.heap.size u9 w1 → w1.cell? ⟨w7.heap.size, 0, none⟩ = some (.int .u8 0) := fun w1 h1 => (PB.later Q29 h1).cells.1
  have l21 : ∀ w1, Below u9.heap.size u9 w1 → w1.cell? ⟨w7.heap.size, 1, none⟩ = some (.int .u8 0) := fun w1 h1 => (PB.later Q29 h1).cells.2.1
  have l22 : ∀ w1, Below u9.heap.size u9 w1 → w1.cell? ⟨w7.heap.size, 2, none⟩ = some (.int .u8 0) := fun w1 h1 => (PB.later Q29 h1).cells.2.2.1
  have l23 : ∀ w1, Below u9.heap.size u9 w1 → w1.cell? ⟨w7.heap.size, 3, none⟩ = some (.int .u32 0) := fun w1 h1 => (PB.later Q29 h1).cells.2.2.2.1
  have l24 : ∀ w1, Below u9.heap.size u9 w1 → w1.cell? ⟨w7.heap.size, 4, none⟩ = some (.int .u32 0) := fun w1 h1 => (PB.later Q29 h1).cells.2.2.2.2.1
  have l25 : ∀ w1, Below u9.heap.size u9 w1 → w1.cell? ⟨w7.heap.size, 5, none⟩ = some (.string ⟨#[]⟩) := fun w1 h1 => (PB.later Q29 h1).cells.2.2.2.2.2
  have l30 : ∀ w1, Below u9.heap.size u9 w1 → w1.cell? ⟨w8.heap.size, 0, none⟩ = some (.int .u8 0) := fun w1 h1 => (PB.later Q39 h1).cells.1
  have l31 : ∀ w1, Below u9.heap.size u9 w1 → w1.cell? ⟨w8.heap.size, 1, none⟩ = some (.int .u8 0) := fun w1 h1 => (PB.later Q39 h1).cells.2.1
  have l32 : ∀ w1, Below u9.heap.size u9 w1 → w1.cell? ⟨w8.heap.size, 2, none⟩ = some (.int .u8 0) := fun w1 h1 => (PB.later Q39 h1).cells.2.2.1
  have l33 : ∀ w1, Below u9.heap.size u9 w1 → w1.cell? ⟨w8.heap.size, 3, none⟩ = some (.int .u32 0) := fun w1 h1 => (PB.later Q39 h1).cells.2.2.2.1
  have l34 : ∀ w1, Below u9.heap.size u9 w1 → w1.cell? ⟨w8.heap.size, 4, none⟩ = some (.int .u32 0) := fun w1 h1 => (PB.later Q39 h1).cells.2.2.2.2.1
  have l35 : ∀ w1, Below u9.heap.size u9 w1 → w1.cell? ⟨w8.heap.size, 5, none⟩ = some (.string ⟨#[]⟩) := fun w1 h1 => (PB.later Q39 h1).cells.2.2.2.2.2
  have l40 : ∀ w1, Below u9.heap.size u9 w1 → w1.cell? ⟨w9.heap.size, 0, none⟩ = some (.int .u8 0) := fun w1 h1 => (PB.later hP9 h1).cells.1
  have l41 : ∀ w1, Below u9.heap.size u9 w1 → w1.cell? ⟨w9.heap.size, 1, none⟩ = some (.int .u8 0) := fun w1 h1 => (PB.later hP9 h1).cells.2.1
  have l42 : ∀ w1, Below u9.heap.size u9 w1 → w1.cell? ⟨w9.heap.size, 2, none⟩ = some (.int .u8 0) := fun w1 h1 => (PB.later hP9 h1).cells.2.2.1
  have l43 : ∀ w1, Below u9.heap.size u9 w1 → w1.cell? ⟨w9.heap.size, 3, none⟩ = some (.int .u32 0) := fun w1 h1 => (PB.later hP9 h1).cells.2.2.2.1
  have l44 : ∀ w1, Below u9.heap.size u9 w1 → w1.cell? ⟨w9.heap.size, 4, none⟩ = some (.int .u32 0) := fun w1 h1 => (PB.later hP9 h1).cells.2.2.2.2.1
  have l45 : ∀ w1, Below u9.heap.size u9 w1 → w1.cell? ⟨w9.heap.size, 5, none⟩ = some (.string ⟨#[]⟩) := fun w1 h1 => (PB.later hP9 h1).cells.2.2.2.2.2
  have kx : ∀ w1, Below u9.heap.size u9 w1 → (convert 26 9 (.slice none 0 0)).run Try.prog w1 = .ok (.string (Fr.tx [])) w1 := fun w1 h1 => conv_zero w1 none 0
  have ky := kx
  have ko : ∀ w1, Below u9.heap.size u9 w1 → (convert 26 9 (.slice a5 m cap5)).run Try.prog w1 = .ok (.string (Fr.tx R)) w1 := fun w1 h1 => (KO9.out.later h1).conv'
  have kf : ∀ w1, Below u9.heap.size u9 w1 → (convert 26 9 (.slice (some ad) m cap)).run Try.prog w1 = .ok (.string (Fr.tx R)) w1 := fun w1 h1 => (KF6of.out w1 (KA9.out.later h1)).conv'
  have KW : Hid (∀ w1, Below u9.heap.size u9 w1 → Calls Try.prog 14 #[.slice (some ad) len cap] w1 fun e w' => e = .returned (.slice (some ad) m cap) ∧ w' = w1) := fun w1 h1 => by have := few_c _ _ _ _ _ (KA9.out.later h1) hlc; rw [HM.out] at this; exact this
  generalize Fr.tx R = TR0 at *
  go_wp2_with fail
  refine wp_region_class (by kernel_rfl) (by kernel_rfl) ?_
  repeat (first
    | go_big_quiet_skip
    | (go_big_quiet_want
       apply quiet_by
       · intro w1 hw1
         go_simp
         first
           | rfl
           | exact kx _ hw1
           | exact ky _ hw1
           | exact ko _ hw1
           | exact kf _ hw1
           | (go_at_call 11; exact class_of hw1 (live_c _))
           | (go_at_call 14; exact class_same hw1 (KW.out _ hw1))
       · go_simp; rfl
       go_big_quiet_on))
  refine wpQuiet_nil ?_
  intro w10 hw10
  go_wp2
  go_ret
  exact ⟨rfl, hBu9.trans (hw10.mono hBu9.size)⟩
set_option maxRecDepth 100000 in
set_option maxHeartbeats 4000000 in
theorem reads_nil  (len : Nat) (zs : List Int) (hlc : len ≤ 0) (w : World) (hb : IsB w none len zs) (hm : fewN len = 0) (R : List Int) (hR : zs.take 0 = R) (hR0 : R = []) (hNB : ∀ p, ¬ Fr.Begins p R) (hNW : ∀ p, ¬ Whole p R) :
    Calls Try.prog 4 #[.slice none len 0] w fun e w' => e = .returned (.bool true) ∧ Below w.heap.size w w' := by
  have hf := fewN_le len
  rw [hm] at hf
  have HM := hid hm
  have KF6of : Hid (∀ U, IsB U none len zs → IsB U none 0 R) := fun U h => by have := few_isB h; rw [hm, hR] at this; exact this
  have HA := hid hb
  have HRB := hid (KF6of.out w hb)
  have HYB : Hid (∀ x ∈ R, 0 ≤ x ∧ x ≤ 255) := fun x hx => Fr.mem_getD HRB.out.2.2.2 x hx
  have HRL := hid HRB.out.1
  have HNB := hid hNB
  have HNW := hid hNW
  have HR0 := hid hR0
  clear hNB hNW hR0
  obtain ⟨i0, hi, hz0, hz1, hz2⟩ := info_parts8
  clear hb hm hR
  go_enter Try.func4, Try.ntmps4
  go_wp2_with fail
  have hBa : Below w.heap.size w (w.alloc (.cells #[] 5)) := (Below.refl _ _).alloc (Nat.le_refl _) _
  refine (few_c _ _ _ _ _ (HA.out.later hBa) hlc).mono ?_
  rintro _ wa ⟨rfl, rfl⟩
  rw [HM.out]
  have HFa := hid (KF6of.out _ (HA.out.later hBa))
  go_wp2_with (at_builtin; refine wpList_append_own_none rfl _ _ 26 rfl w.heap.size 5 i0 1 Try.underlying26 hi _ _ _ rfl (own_empty8 w) rfl ?_; (have hown5 : (w.alloc (.cells #[] 5)).ownsRow w.heap.size 5 1 (.slice (some ⟨w.heap.size, 0, none⟩) 0 0) 0 (R.map u8V) := (by rw [HR0.out]; exact own_empty8 w)); (have hb5 := hBa); (generalize (w.alloc (.cells #[] 5)) = u5 at *))
  have hBu5 : Below w.heap.size w u5 := hb5
  have HA5 := hid (HA.out.later hBu5)
  have hc5 : 0 ≤ 0 := Nat.le_refl 0
  have HO5 : Hid (IsB u5 (some ⟨w.heap.size, 0, none⟩) 0 R) := by rw [HR0.out]; exact ⟨rfl, Nat.zero_le _, fun h => absurd h (by omega), fun i => by simp⟩
  clear hown5
  go_wp2_with fail
  refine (decode_c _ _ _ _ _ HO5.out hc5).mono ?_
  rintro e9 w6 ⟨hor, hb6⟩
  have he : e9 = Ending.returned (.tuple #[.agg #[.int .u8 0, .int .u8 0, .int .u8 0, .int .u32 0, .int .u32 0, .string ⟨#[]⟩], .int .i64 3]) := by
    rcases hor with ⟨q, hq, _⟩ | ⟨_, h9⟩
    · exact absurd hq (HNW.out q)
    · exact h9
  subst he
  clear hor
  have hB6 := hBu5.trans (hb6.mono hBu5.size)
  have hbu6 := hb6.alloc hb6.size (.cells #[.int .u8 0, .int .u8 0, .int .u8 0, .int .u32 0, .int .u32 0, .string ⟨#[]⟩] 25)
  have hBu6 := hB6.alloc hB6.size (.cells #[.int .u8 0, .int .u8 0, .int .u8 0, .int .u32 0, .int .u32 0, .string ⟨#[]⟩] 25)
  have hP6 : PB (w6.alloc (.cells #[.int .u8 0, .int .u8 0, .int .u8 0, .int .u32 0, .int .u32 0, .string ⟨#[]⟩] 25)) w6.heap.size ⟨0, 0, 0, 0, 0, ⟨#[]⟩⟩ := heap_alloc_new w6 _
  have KA6 := hid (HA5.out.later hbu6)
  have KO6 := hid (HO5.out.later hbu6)
  go_wp2_with fail
  generalize (w6.alloc (.cells #[.int .u8 0, .int .u8 0, .int .u8 0, .int .u32 0, .int .u32 0, .string ⟨#[]⟩] 25)) = u6 at *
  refine (few_c _ _ _ _ _ KA6.out hlc).mono ?_
  rintro _ u6 ⟨rfl, rfl⟩
  rw [HM.out]
  have KF6 := hid (KF6of.out u6 KA6.out)
  go_wp2_with fail
  refine (rdecode_c _ _ _ _ _ KF6.out (by omega) (by omega)).mono ?_
  rintro e9 w7 ⟨hor, hb7⟩
  have he : e9 = Ending.returned (.tuple #[.agg #[.int .u8 0, .int .u8 0, .int .u8 0, .int .u32 0, .int .u32 0, .string ⟨#[]⟩], .int .i64 3]) := by
    rcases hor with ⟨q, hq, _⟩ | ⟨_, h9⟩
    · exact absurd hq (HNW.out q)
    · exact h9
  subst he
  clear hor
  have hB7 := hBu6.trans (hb7.mono hBu6.size)
  have hbu7 := hb7.alloc hb7.size (.cells #[.int .u8 0, .int .u8 0, .int .u8 0, .int .u32 0, .int .u32 0, .string ⟨#[]⟩] 25)
  have hBu7 := hB7.alloc hB7.size (.cells #[.int .u8 0, .int .u8 0, .int .u8 0, .int .u32 0, .int .u32 0, .string ⟨#[]⟩] 25)
  have hP7 : PB (w7.alloc (.cells #[.int .u8 0, .int .u8 0, .int .u8 0, .int .u32 0, .int .u32 0, .string ⟨#[]⟩] 25)) w7.heap.size ⟨0, 0, 0, 0, 0, ⟨#[]⟩⟩ := heap_alloc_new w7 _
  have KA7 := hid (KA6.out.later hbu7)
  have KO7 := hid (KO6.out.later hbu7)
  have Q17 := PB.later hP6 hbu7
  go_wp2_with fail
  generalize (w7.alloc (.cells #[.int .u8 0, .int .u8 0, .int .u8 0, .int .u32 0, .int .u32 0, .string ⟨#[]⟩] 25)) = u7 at *
  refine (cut_c _ _ _ _ _ KO7.out hc5 (by omega)).mono ?_
  rintro e9 w8 ⟨hor, hb8⟩
  have he : e9 = Ending.returned (.tuple #[.agg #[.int .u8 0, .int .u8 0, .int .u8 0, .int .u32 0, .int .u32 0, .string ⟨#[]⟩], .slice none 0 0, .int .i64 3]) := by
    rcases hor with ⟨q, v, hq, _⟩ | ⟨_, h9⟩
    · exact absurd hq (HNB.out q)
    · exact h9
  subst he
  clear hor
  have hB8 := hBu7.trans (hb8.mono hBu7.size)
  have hbu8 := hb8.alloc hb8.size (.cells #[.int .u8 0, .int .u8 0, .int .u8 0, .int .u32 0, .int .u32 0, .string ⟨#[]⟩] 25)
  have hBu8 := hB8.alloc hB8.size (.cells #[.int .u8 0, .int .u8 0, .int .u8 0, .int .u32 0, .int .u32 0, .string ⟨#[]⟩] 25)
  have hP8 : PB (w8.alloc (.cells #[.int .u8 0, .int .u8 0, .int .u8 0, .int .u32 0, .int .u32 0, .string ⟨#[]⟩] 25)) w8.heap.size ⟨0, 0, 0, 0, 0, ⟨#[]⟩⟩ := heap_alloc_new w8 _
  have KA8 := hid (KA7.out.later hbu8)
  have KO8 := hid (KO7.out.later hbu8)
  have Q18 := PB.later Q17 hbu8
  have Q28 := PB.later hP7 hbu8
  go_wp2_with fail
  generalize (w8.alloc (.cells #[.int .u8 0, .int .u8 0, .int .u8 0, .int .u32 0, .int .u32 0, .string ⟨#[]⟩] 25)) = u8 at *
  refine (few_c _ _ _ _ _ KA8.out hlc).mono ?_
  rintro _ u8 ⟨rfl, rfl⟩
  rw [HM.out]
  have KF8 := hid (KF6of.out u8 KA8.out)
  go_wp2_with fail
  refine (rcut_c _ _ _ _ _ KF8.out (by omega) (by omega)).mono ?_
  rintro e9 w9 ⟨hor, hb9⟩
  have he : e9 = Ending.returned (.tuple #[.agg #[.int .u8 0, .int .u8 0, .int .u8 0, .int .u32 0, .int .u32 0, .string ⟨#[]⟩], .slice none 0 0, .int .i64 3]) := by
    rcases hor with ⟨q, v, hq, _⟩ | ⟨_, h9⟩
    · exact absurd hq (HNB.out q)
    · exact h9
  subst he
  clear hor
  have hB9 := hBu8.trans (hb9.mono hBu8.size)
  have hbu9 := hb9.alloc hb9.size (.cells #[.int .u8 0, .int .u8 0, .int .u8 0, .int .u32 0, .int .u32 0, .string ⟨#[]⟩] 25)
  have hBu9 := hB9.alloc hB9.size (.cells #[.int .u8 0, .int .u8 0, .int .u8 0, .int .u32 0, .int .u32 0, .string ⟨#[]⟩] 25)
  have hP9 : PB (w9.alloc (.cells #[.int .u8 0, .int .u8 0, .int .u8 0, .int .u32 0, .int .u32 0, .string ⟨#[]⟩] 25)) w9.heap.size ⟨0, 0, 0, 0, 0, ⟨#[]⟩⟩ := heap_alloc_new w9 _
  have KA9 := hid (KA8.out.later hbu9)
  have KO9 := hid (KO8.out.later hbu9)
  have Q19 := PB.later Q18 hbu9
  have Q29 := PB.later Q28 hbu9
  have Q39 := PB.later hP8 hbu9
  go_wp2_with fail
  generalize (w9.alloc (.cells #[.int .u8 0, .int .u8 0, .int .u8 0, .int .u32 0, .int .u32 0, .string ⟨#[]⟩] 25)) = u9 at *
  have l10 : ∀ w1, Below u9.heap.size u9 w1 → w1.cell? ⟨w6.heap.size, 0, none⟩ = some (.int .u8 0) := fun w1 h1 => (PB.later Q19 h1).cells.1
  have l11 : ∀ w1, Below u9.heap.size u9 w1 → w1.cell? ⟨w6.heap.size, 1, none⟩ = some (.int .u8 0) := fun w1 h1 => (PB.later Q19 h1).cells.2.1
  have l12 : ∀ w1, Below u9.heap.size u9 w1 → w1.cell? ⟨w6.heap.size, 2, none⟩ = some (.int .u8 0) := fun w1 h1 => (PB.later Q19 h1).cells.2.2.1
  have l13 : ∀ w1, Below u9.heap.size u9 w1 → w1.cell? ⟨w6.heap.size, 3, none⟩ = some (.int .u32 0) := fun w1 h1 => (PB.later Q19 h1).cells.2.2.2.1
  have l14 : ∀ w1, Below u9.heap.size u9 w1 → w1.cell? ⟨w6.heap.size, 4, none⟩ = some (.int .u32 0) := fun w1 h1 => (PB.later Q19 h1).cells.2.2.2.2.1
  have l15 : ∀ w1, Below u9.heap.size u9 w1 → w1.cell? ⟨w6.heap.size, 5, none⟩ = some (.string ⟨#[]⟩) := fun w1 h1 => (PB.later Q19 h1).cells.2.2.2.2.2
  have l20 : ∀ w1, Below u9.heap.size u9 w1 → w1.cell? ⟨w7.heap.size, 0, none⟩ = some (.int .u8 0) := fun w1 h1 => (PB.later Q29 h1).cells.1
  have l21 : ∀ w1, Below u9.heap.size u9 w1 → w1.cell? ⟨w7.heap.size, 1, none⟩ = some (.int .u8 0) := fun w1 h1 => (PB.later Q29 h1).cells.2.1
  have l22 : ∀ w1, Below u9.heap.size u9 w1 → w1.cell? ⟨w7.heap.size, 2, none⟩ = some (.int .u8 0) := fun w1 h1 => (PB.later Q29 h1).cells.2.2.1
  have l23 : ∀ w1, Below u9.heap.size u9 w1 → w1.cell? ⟨w7.heap.size, 3, none⟩ = some (.int .u32 0) := fun w1 h1 => (PB.later Q29 h1).cells.2.2.2.1
  have l24 : ∀ w1, Below u9.heap.size u9 w1 → w1.cell? ⟨w7.heap.size, 4, none⟩ = some (.int .u32 0) := fun w1 h1 => (PB.later Q29 h1).cells.2.2.2.2.1
  have l25 : ∀ w1, Below u9.heap.size u9 w1 → w1.cell? ⟨w7.heap.size, 5, none⟩ = some (.string ⟨#[]⟩) := fun w1 h1 => (PB.later Q29 h1).cells.2.2.2.2.2
  have l30 : ∀ w1, Below u9.heap.size u9 w1 → w1.cell? ⟨w8.heap.size, 0, none⟩ = some (.int .u8 0) := fun w1 h1 => (PB.later Q39 h1).cells.1
  have l31 : ∀ w1, Below u9.heap.size u9 w1 → w1.cell? ⟨w8.heap.size, 1, none⟩ = some (.int .u8 0) := fun w1 h1 => (PB.later Q39 h1).cells.2.1
  have l32 : ∀ w1, Below u9.heap.size u9 w1 → w1.cell? ⟨w8.heap.size, 2, none⟩ = some (.int .u8 0) := fun w1 h1 => (PB.later Q39 h1).cells.2.2.1
  have l33 : ∀ w1, Below u9.heap.size u9 w1 → w1.cell? ⟨w8.heap.size, 3, none⟩ = some (.int .u32 0) := fun w1 h1 => (PB.later Q39 h1).cells.2.2.2.1
  have l34 : ∀ w1, Below u9.heap.size u9 w1 → w1.cell? ⟨w8.heap.size, 4, none⟩ = some (.int .u32 0) := fun w1 h1 => (PB.later Q39 h1).cells.2.2.2.2.1
  have l35 : ∀ w1, Below u9.heap.size u9 w1 → w1.cell? ⟨w8.heap.size, 5, none⟩ = some (.string ⟨#[]⟩) := fun w1 h1 => (PB.later Q39 h1).cells.2.2.2.2.2
  have l40 : ∀ w1, Below u9.heap.size u9 w1 → w1.cell? ⟨w9.heap.size, 0, none⟩ = some (.int .u8 0) := fun w1 h1 => (PB.later hP9 h1).cells.1
  have l41 : ∀ w1, Below u9.heap.size u9 w1 → w1.cell? ⟨w9.heap.size, 1, none⟩ = some (.int .u8 0) := fun w1 h1 => (PB.later hP9 h1).cells.2.1
  have l42 : ∀ w1, Below u9.heap.size u9 w1 → w1.cell? ⟨w9.heap.size, 2, none⟩ = some (.int .u8 0) := fun w1 h1 => (PB.later hP9 h1).cells.2.2.1
  have l43 : ∀ w1, Below u9.heap.size u9 w1 → w1.cell? ⟨w9.heap.size, 3, none⟩ = some (.int .u32 0) := fun w1 h1 => (PB.later hP9 h1).cells.2.2.2.1
  have l44 : ∀ w1, Below u9.heap.size u9 w1 → w1.cell? ⟨w9.heap.size, 4, none⟩ = some (.int .u32 0) := fun w1 h1 => (PB.later hP9 h1).cells.2.2.2.2.1
  have l45 : ∀ w1, Below u9.heap.size u9 w1 → w1.cell? ⟨w9.heap.size, 5, none⟩ = some (.string ⟨#[]⟩) := fun w1 h1 => (PB.later hP9 h1).cells.2.2.2.2.2
  have kx : ∀ w1, Below u9.heap.size u9 w1 → (convert 26 9 (.slice none 0 0)).run Try.prog w1 = .ok (.string (Fr.tx [])) w1 := fun w1 h1 => conv_zero w1 none 0
  have ky := kx
  have ko : ∀ w1, Below u9.heap.size u9 w1 → (convert 26 9 (.slice (some ⟨w.heap.size, 0, none⟩) 0 0)).run Try.prog w1 = .ok (.string (Fr.tx R)) w1 := fun w1 h1 => (KO9.out.later h1).conv'
  have kf : ∀ w1, Below u9.heap.size u9 w1 → (convert 26 9 (.slice none 0 0)).run Try.prog w1 = .ok (.string (Fr.tx R)) w1 := fun w1 h1 => (KF6of.out w1 (KA9.out.later h1)).conv'
  have KW : Hid (∀ w1, Below u9.heap.size u9 w1 → Calls Try.prog 14 #[.slice none len 0] w1 fun e w' => e = .returned (.slice none 0 0) ∧ w' = w1) := fun w1 h1 => by have := few_c _ _ _ _ _ (KA9.out.later h1) hlc; rw [HM.out] at this; exact this
  simp only [HR0.out] at ko kf
  generalize Fr.tx ([] : List Int) = TR0 at *
  go_wp2_with fail
  refine wp_region_class (by kernel_rfl) (by kernel_rfl) ?_
  repeat (first
    | go_big_quiet_skip
    | (go_big_quiet_want
       apply quiet_by
       · intro w1 hw1
         go_simp
         first
           | rfl
           | exact kx _ hw1
           | exact ky _ hw1
           | exact ko _ hw1
           | exact kf _ hw1
           | (go_at_call 11; exact class_of hw1 (live_c _))
           | (go_at_call 14; exact class_same hw1 (KW.out _ hw1))
       · go_simp; rfl
       go_big_quiet_on))
  refine wpQuiet_nil ?_
  intro w10 hw10
  go_wp2
  go_ret
  exact ⟨rfl, hBu9.trans (hw10.mono hBu9.size)⟩
theorem frameReads_walk (a : Option Addr) (len cap : Nat) (zs : List Int) (hlc : len ≤ cap) (hnc : a = none → cap = 0) (w : World) (hb : IsB w a len zs) :
    Calls Try.prog 4 #[.slice a len cap] w fun e w' => e = .returned (.bool true) ∧ Below w.heap.size w w' := by
  by_cases h0 : fewN len = 0
  · have n1 : ∀ p, ¬ Fr.Begins p ([] : List Int) := fun p h => by have := (begins_long h).1; simp at this
    have n2 : ∀ p, ¬ Whole p ([] : List Int) := fun p h => n1 p (whole_begins h)
    cases a with
    | none =>
      obtain rfl := hnc rfl
      exact reads_nil len zs hlc w hb h0 [] (List.take_zero) rfl n1 n2
    | some ad => exact reads_zero ad len cap zs hlc w hb 0 h0 [] (List.take_zero) rfl n1 n2
  · have h1 : 0 < len := by have := (fewN_le len).1; omega
    obtain ⟨ab, ao, rfl, _⟩ := hb.2.2.1 h1
    by_cases hB : ∃ p, Fr.Begins p (zs.take (fewN len))
    · obtain ⟨p, hp⟩ := hB
      obtain ⟨k, f, t, e, s, b⟩ := p
      by_cases hW : ∃ q, Whole q (zs.take (fewN len))
      · obtain ⟨q, hq⟩ := hW
        have e8 := Fr.begins_one (whole_begins hq) hp
        subst e8
        exact reads_whole ab ao len cap zs hlc w hb _ rfl _ rfl k f t e s b hp hq
      · exact reads_more ab ao len cap zs hlc w hb _ rfl _ rfl k f t e s b hp (fun q hq => hW ⟨q, hq⟩)
    · exact reads_none ab ao len cap zs hlc w hb _ rfl _ rfl (fun q hq => hB ⟨q, hq⟩) (fun q hq => hB ⟨q, whole_begins hq⟩)
/-! ### The row of FrameReads -/
theorem frameReads_own : ownKnob Try.prog.godebug = none := by kernel_rfl
theorem frameReads_laidOut : laidOutB Try.prog = true := by kernel_rfl
set_option maxRecDepth 100000 in
theorem frameReads_lifted (os : Os) (started : os.Started) (H : Type) (enc : TypeId × Value → H) :
    ReturnsInHanded {} Try.checked os 4 .any (Rows.frameReadsSpec.pre6 enc Try.prog Try.f4 Rows.frameReadsRow.domain false) (Rows.frameReadsSpec.post enc Try.prog Try.f4 false true false false) := by
  refine returnsInHanded_of_change (C := Try.checked) frameReads_own started (by kernel_rfl) Try.func4
    (ChangeSpec.witness6 (enc := enc) (C := Try.checked) false ⟨#[], #[.slice none 0 0], []⟩ 8 (by kernel_rfl) (by kernel_rfl) (by kernel_rfl) (by kernel_rfl)) ?_
  intro W base args ds gs before hval0 hW hcnd _
  have hval : ∀ (j : Nat) t v, Try.f4.params[j]? = some t → args[j]? = some v → Value.okWide Try.prog W .any base t v := hval0
  have hW' := hW
  obtain ⟨p, q, hA0, hV, rfl, hfz, hnd⟩ := hW
  have hA : DataW.TrodAll enc Try.prog W 0 (fun _ => true) true Try.f4.params.toList args.toList ds p := hA0
  rw [Try.params4] at hA hval
  obtain ⟨v0, vs0, d0, ds0, p0, q0, hargs, rfl, rfl, h0, r0⟩ := trodAll_cons hA
  obtain ⟨rfl, rfl, rfl⟩ := trodAll_nil r0
  obtain rfl : args = #[v0] := by cases args; simp_all
  obtain ⟨rfl, rfl⟩ := trodVars_none hV
  have k0 := h0
  have lt0 : ∀ x ∈ p0, x.block < W.heap.size := by obtain ⟨m, hm⟩ := k0; exact DataW.trod_lt m _ _ _ hm
  obtain ⟨a0, len0, cap0, rfl⟩ := okWide_slice Try.underlying26 (hval 0 26 v0 rfl rfl)
  obtain ⟨z0, w0, lc0⟩ := isB_of Try.underlying26 Try.underlying5 (by kernel_rfl) h0
  clear hA0 hval0
  refine (frameReads_walk a0 len0 cap0 z0 lc0 (isB_cap Try.underlying26 Try.underlying5 (by kernel_rfl) h0) W w0).mono fun e W' ⟨he, bel⟩ => ?_
  subst he
  exact ⟨_, rfl, _, _, _, [], _, [], hW', trodAll_mk1 (shut_bool Try.underlying4 _), (trodAll_cons_mk (Below.trod frameReads_laidOut (by kernel_rfl) (of_decide_eq_true (by kernel_rfl)) k0 bel lt0) trodAll_mk0), rfl, bel.frame _, fun h => by cases h⟩
theorem frameReads_over : Rows.frameReadsRow.holds Try.pinned (OpenSpec.ofChange Rows.frameReadsSpec) :=
  OpenClaim.holds_of_wide 4 Try.f4 rfl rfl rfl rfl rfl rfl rfl ⟨rfl, rfl, rfl, rfl, rfl⟩ rfl rfl rfl rfl rfl (by kernel_rfl) Try.func4 (by kernel_rfl)
    (of_decide_eq_true (by kernel_rfl)) (by unfold Func.isWrapper; first | (rw [if_pos (by decide +kernel)]; kernel_rfl) | (rw [if_neg (by decide +kernel)]; exact ⟨rfl, rfl⟩))
    (fun os started H enc _ => frameReads_lifted os started H enc)
/-- The statement. -/
theorem frameReads_holds : Rows.FrameReadsSaid := frameReads_over
#print axioms frameReads_holds

end Go.Proofs.Yteimegacnmakaaa
