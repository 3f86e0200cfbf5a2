/-
  kindOf, readData, readInside of the package tell.
-/
import Derived.Test.YtkokjkaclcjnjaaDoorBkBp
import Derived.Test.YtkokjkaclcjnjaaDoorBkAi
import Derived.Test.YtkokjkaclcjnjaaDoorBkAq
namespace Go.Proofs.YtkokjkaclcjnjaaDoor
open Go.RowKit Go.ChangeShapes Go.WideShapes Go.ChangeAt
set_option linter.unusedVariables false
set_option linter.unusedSimpArgs false
set_option maxRecDepth 100000
set_option maxHeartbeats 2000000 in
theorem kindOf_c (s : ByteArray) (w : World) :
   Calls Tryd.prog 74 #[.string s] w fun e w' => e = .returned (.tuple #[.int .u8 (kindP s.data.toList), .bool (kindP s.data.toList != 0)]) ∧ w' = w := by
 have WC := hid (fun k W => word_c k W)
 have HY : Hid (∀ k : Int, (k = 1 ∨ k = 2 ∨ k = 3) → (wordB k).data.toList = s.data.toList → kindP s.data.toList = k) := hid (fun k hk e => by rw [← e]; exact kind_word hk)
 have HN : Hid ((∀ j : Int, 1 ≤ j → j < 4 → (wordB j).data.toList ≠ s.data.toList) → kindP s.data.toList = 0) := hid (fun h => Classical.byContradiction fun q => by
   obtain ⟨h1, h2⟩ := kind_back q
   exact h (kindP s.data.toList) (by omega) (by omega) h1)
 generalize kindP s.data.toList = R at *
 go_enter Tryd.func74, Tryd.ntmps74
 go_wp2
 go_loopg [4] 3 (fun gk v4 wr => ∃ k : Nat, k + gk = 4 ∧ 1 ≤ k ∧ v4 = .int .u8 (k : Int) ∧ Hid (wr = w) ∧ Hid (∀ j : Int, 1 ≤ j → j < k → (wordB j).data.toList ≠ s.data.toList))
 case atStart => exact ⟨1, by omega, by omega, rfl, hid rfl, hid (fun j h1 h2 => by omega)⟩
 case round =>
   obtain ⟨k, hk, hk1, rfl, HW, HF⟩ := hrel
   have hwr := HW.out
   subst hwr
   by_cases h3 : k ≤ 3
   · have h3I : (k : Int) ≤ 3 := by omega
     have w1 : IntKind.u8.wrap ((k : Int) + 1) = ((k + 1 : Nat) : Int) := by rw [IntKind.wrap_u8]; omega
     obtain ⟨k2, hk2⟩ : ∃ k2 : Nat, k2 = k + 1 := ⟨_, rfl⟩
     rw [← hk2] at w1
     have HK2 := hid hk2
     clear hk2
     by_cases q : (wordB k).data.toList = s.data.toList
     · have qB : ((wordB k).toList == s.toList) = true := by rw [Lib.toList_data, Lib.toList_data, q]; simp
       have ER : Hid (R = (k : Int)) := hid (HY.out k (by omega) q)
       have ER2 : Hid ((R != 0) = true) := hid (by rw [ER.out, bne_iff_ne]; omega)
       clear q
       go_wp2_with (go_at_call 54; refine (WC.out _ _).mono ?_; rintro _ w1 ⟨rfl, rfl⟩)
       refine bodyPost_ret (v := .tuple #[.int .u8 (k : Int), .bool true]) (by simp [results, Tryd.results74, go_sem]) rfl ⟨by rw [ER2.out, ER.out], rfl⟩
     · have qB : ((wordB k).toList == s.toList) = false := by rw [Lib.toList_data, Lib.toList_data, beq_eq_false_iff_ne]; exact q
       have HQ := hid q
       clear q
       go_wp2_with (go_at_call 54; refine (WC.out _ _).mono ?_; rintro _ w1 ⟨rfl, rfl⟩)
       go_roundg (gk - 1)
       case measure => omega
       case rel => exact ⟨k2, by have := HK2.out; omega, by have := HK2.out; omega, rfl, hid rfl, hid (fun j h1 h2 => by
         by_cases e : j = k
         · rw [e]; exact HQ.out
         · exact HF.out j h1 (by have := HK2.out; omega))⟩
   · have h3I : ¬ (k : Int) ≤ 3 := by omega
     have ER : Hid (R = 0) := hid (HN.out (fun j h1 h2 => HF.out j h1 (by omega)))
     go_wp2
     refine bodyPost_ret (v := .tuple #[.int .u8 0, .bool false]) (by simp [results, Tryd.results74, go_sem]) rfl ⟨by rw [ER.out]; rfl, rfl⟩
def DaP (r : Option (List UInt8)) (w : World) (e : Ending) (w' : World) : Prop := (match r with
 | none => e = .returned (.tuple #[.slice none 0 0, .bool false])
 | some o => ∃ a n c, e = .returned (.tuple #[.slice a n c, .bool true]) ∧ n = (Fr.bs ⟨o.toArray⟩).length ∧ (a = none → c = 0) ∧ RowAt w' w.heap.size 5 a ((Fr.bs ⟨o.toArray⟩).map u8V)) ∧ Below w.heap.size w w'
theorem bs_len (s : ByteArray) : (Fr.bs s).length = s.size := by unfold Fr.bs; rw [List.length_map]; rfl
set_option maxHeartbeats 2000000 in
theorem readData_c (s : ByteArray) (w : World) (hs : s.size ≤ 10000000) :
   Calls Tryd.prog 98 #[.string s] w (DaP (unqL s.data.toList) w) := by
 have UC := hid (unquote_c s w (by omega))
 have hol : ∀ o, unqL s.data.toList = some o → o.length ≤ 10000000 := fun o h => by
   have := congrArg List.length (unq_back h)
   have h2 := (quote_len o).1
   have h3 : s.data.toList.length = s.size := rfl
   omega
 generalize unqL s.data.toList = r at *
 unfold UqP at UC
 unfold DaP
 cases r with
 | none =>
   simp only at UC ⊢
   go_enter Tryd.func98, Tryd.ntmps98
   go_wp2_with (go_at_call 9; refine UC.out.mono ?_; rintro _ w1 ⟨rfl, hb1⟩; have B1 := hid hb1; clear hb1)
   refine bodyPost_ret (v := .tuple #[.slice none 0 0, .bool false]) (by simp [results, Tryd.results98, go_sem]) rfl ⟨rfl, B1.out⟩
 | some o =>
   simp only at UC ⊢
   have hl := hol o rfl
   have BC := hid (fun W => bytesOf_c ⟨o.toArray⟩ W (by rw [ba_size]; omega))
   have BL := hid (bs_len ⟨o.toArray⟩)
   generalize (⟨o.toArray⟩ : ByteArray) = t at *
   generalize Fr.bs t = z at *
   clear hol hl
   go_enter Tryd.func98, Tryd.ntmps98
   go_wp2_with (first
     | (go_at_call 119; refine (BC.out _).mono ?_; rintro _ w2 ⟨rfl, hr2, hb2⟩; have R2 := hid hr2; have B2 := hid (B1.out.trans (hb2.mono B1.out.size)); clear hr2 hb2)
     | (go_at_call 9; refine UC.out.mono ?_; rintro _ w1 ⟨rfl, hb1⟩; have B1 := hid hb1; clear hb1))
   refine bodyPost_ret (v := .tuple #[.slice (some ⟨w1.heap.size, 0, none⟩) t.size t.size, .bool true]) (by simp [results, Tryd.results98, go_sem]) rfl ⟨⟨_, _, _, rfl, BL.out.symm, (fun e => by cases e), R2.out.lowR B1.out.size⟩, B2.out⟩
def InP (r : Option (List UInt8 × List Kd)) (w : World) (e : Ending) (w' : World) : Prop := (match r with
 | none => e = .returned (.tuple #[.slice none 0 0, .slice none 0 0, .bool false])
 | some i => ∃ a n c b m d, e = .returned (.tuple #[.slice a n c, .slice b m d, .bool true]) ∧ n = (Fr.bs ⟨i.1.toArray⟩).length ∧ m = i.2.length ∧ (a = none → c = 0) ∧ (b = none → d = 0) ∧ RowAt w' w.heap.size 5 a ((Fr.bs ⟨i.1.toArray⟩).map u8V) ∧ RowAt w' w.heap.size 71 b (kcells i.2)) ∧ Below w.heap.size w w'
theorem OwK.row {w : World} {base : Nat} {v : Value} {L : List Kd} (h : OwK w base v L) : ∃ a c, v = .slice a L.length c ∧ (a = none → c = 0) ∧ RowAt w base 71 a (kcells L) := by
 obtain ⟨a, c, rfl⟩ := h.shape
 refine ⟨a, c, rfl, ?_, RowAt.own h rfl (fun e => by rw [List.eq_nil_of_length_eq_zero e]; rfl)⟩
 rintro rfl
 rcases h.2 with ⟨e, e0⟩ | ⟨g, cap, cur, e, _⟩
 · simp only [Value.slice.injEq] at e; exact e.2.2
 · simp at e
set_option maxHeartbeats 2000000 in
theorem readInside_c (k : Int) (s : ByteArray) (w : World) (hs : s.size ≤ 10000000) (hm : MxW w) :
   Calls Tryd.prog 75 #[.int .u8 k, .string s] w (InP (inP k s.data.toList) w) := by
 by_cases q : k = 2
 · have KC := hid (readKids_c s w hs hm)
   have E : inP k s.data.toList = (kidsP s.data.toList).map fun l => ([], l) := by unfold inP; rw [if_pos q]
   rw [E]
   clear E
   generalize kidsP s.data.toList = r at *
   subst q
   unfold KsP at KC
   unfold InP
   cases r with
   | none =>
     simp only [Option.map_none] at KC ⊢
     go_enter Tryd.func75, Tryd.ntmps75
     go_wp2_with (go_at_call 97; refine KC.out.mono ?_; rintro _ w1 ⟨rfl, hb1⟩; have B1 := hid hb1; clear hb1)
     refine bodyPost_ret (v := .tuple #[.slice none 0 0, .slice none 0 0, .bool false]) (by simp [results, Tryd.results75, go_sem]) rfl ⟨rfl, B1.out⟩
   | some l =>
     simp only [Option.map_some] at KC ⊢
     go_enter Tryd.func75, Tryd.ntmps75
     go_wp2_with (go_at_call 97; refine KC.out.mono ?_; rintro _ w1 ⟨⟨v, rfl, ho⟩, hb1⟩; have B1 := hid hb1; obtain ⟨a1, c1, rfl, hn1, hr1⟩ := ho.row; have R1 := hid hr1; have N1 := hid hn1; clear hb1 ho hr1 hn1)
     refine bodyPost_ret (v := .tuple #[.slice none 0 0, .slice a1 l.length c1, .bool true]) (by simp [results, Tryd.results75, go_sem]) rfl ⟨⟨_, _, _, _, _, _, rfl, rfl, rfl, (fun _ => rfl), N1.out, .inl rfl, R1.out⟩, B1.out⟩
 · have DC := hid (readData_c s w hs)
   have E : inP k s.data.toList = (unqL s.data.toList).map fun o => (o, []) := by unfold inP; rw [if_neg q]
   rw [E]
   have qB : (k == 2) = false := beq_eq_false_iff_ne.2 q
   clear E hm
   generalize unqL s.data.toList = r at *
   unfold DaP at DC
   unfold InP
   cases r with
   | none =>
     simp only [Option.map_none] at DC ⊢
     go_enter Tryd.func75, Tryd.ntmps75
     go_wp2_with (go_at_call 98; refine DC.out.mono ?_; rintro _ w1 ⟨rfl, hb1⟩; have B1 := hid hb1; clear hb1)
     refine bodyPost_ret (v := .tuple #[.slice none 0 0, .slice none 0 0, .bool false]) (by simp [results, Tryd.results75, go_sem]) rfl ⟨rfl, B1.out⟩
   | some o =>
     simp only [Option.map_some] at DC ⊢
     go_enter Tryd.func75, Tryd.ntmps75
     go_wp2_with (go_at_call 98; refine DC.out.mono ?_; rintro _ w1 ⟨⟨a1, n1, c1, rfl, hl1, hn1, hr1⟩, hb1⟩; have B1 := hid hb1; have R1 := hid hr1; have N1 := hid hn1; have L1 := hid hl1; clear hb1 hr1 hn1 hl1)
     refine bodyPost_ret (v := .tuple #[.slice a1 n1 c1, .slice none 0 0, .bool true]) (by simp [results, Tryd.results75, go_sem]) rfl ⟨⟨_, _, _, _, _, _, rfl, L1.out, rfl, N1.out, (fun _ => rfl), R1.out, .inl rfl⟩, B1.out⟩
end Go.Proofs.YtkokjkaclcjnjaaDoor
