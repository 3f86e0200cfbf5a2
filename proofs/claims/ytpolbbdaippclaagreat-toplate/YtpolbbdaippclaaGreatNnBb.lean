/-
  Rows of sectors that are read: slices.Equal, readLoad.
  readLoad, slices.Clone of bytes, partsOf of the package journal: one contract a function.
-/
import Derived.Test.YtpolbbdaippclaaGreatNnBa
import Derived.BigQuiet
import Derived.Deep.QuietTactic
import Derived.OwnWalk
import Derived.Lib.SliceRun
namespace Go.Proofs.YtpolbbdaippclaaGreat
open Go.RowKit Go.ChangeShapes Go.WideShapes Go.ChangeAt Go.Maps
set_option linter.unusedVariables false
set_option linter.unusedSimpArgs false
def IsSS (w : World) (a : Option Addr) (n : Nat) (ss : List (List Int)) : Prop :=
 ss.length = n ∧ n ≤ 100000 ∧ (∀ s ∈ ss, Jo.Sct s) ∧ (0 < n → ∃ b off, a = some ⟨b, off, none⟩ ∧ ∀ i, i < n → w.rangeAt b (off + i * 32) ((ss.getD i []).map by8))
theorem range_later {w w' : World} {b off : Nat} {l : List Value} (h : w.rangeAt b off l) (hb : Below w.heap.size w w') : w'.rangeAt b off l := fun j v hv => cell_later hb (h j v hv)
theorem IsSS.later {w w' : World} {a : Option Addr} {n : Nat} {ss : List (List Int)} (h : IsSS w a n ss) (hb : Below w.heap.size w w') : IsSS w' a n ss := by
 obtain ⟨h1, h2, h3, h4⟩ := h
 refine ⟨h1, h2, h3, fun hp => ?_⟩
 obtain ⟨b, off, e, hc⟩ := h4 hp
 exact ⟨b, off, e, fun i hi => range_later (hc i hi) hb⟩
theorem IsSS.at {w : World} {b off n : Nat} {ss : List (List Int)} (h : IsSS w (some ⟨b, off, none⟩) n ss) (i : Nat) (hi : i < n) : w.rangeAt b (off + i * 32) ((ss.getD i []).map by8) ∧ Jo.Sct (ss.getD i []) := by
 obtain ⟨h1, h2, h3, h4⟩ := h
 obtain ⟨b', off', e, hc⟩ := h4 (by omega)
 cases e
 exact ⟨hc i hi, h3 _ (by rw [List.getD, List.getElem?_eq_getElem (by omega)]; exact List.getElem_mem (by omega))⟩
theorem IsSS.sub {w : World} {b off n : Nat} {ss : List (List Int)} (h : IsSS w (some ⟨b, off, none⟩) n ss) (i m : Nat) (him : i + m ≤ n) : IsSS w (some ⟨b, off + i * 32, none⟩) m ((ss.drop i).take m) := by
 have h0 := h
 obtain ⟨h1, h2, h3, h4⟩ := h
 refine ⟨by simp; omega, by omega, fun s hs => h3 s (List.mem_of_mem_drop (List.mem_of_mem_take hs)), fun hp => ⟨b, off + i * 32, rfl, fun j hj => ?_⟩⟩
 have e : ((ss.drop i).take m).getD j [] = ss.getD (i + j) [] := by simp [List.getD, List.getElem?_take, hj, List.getElem?_drop]
 rw [e, show off + i * 32 + j * 32 = off + (i + j) * 32 by omega]
 exact (h0.at (i + j) (by omega)).1
theorem scells_get {ss : List (List Int)} (h : ∀ s ∈ ss, s.length = 32) : ∀ i, i < ss.length → ∀ j, j < 32 → (scells ss)[i * 32 + j]? = ((ss.getD i []).map by8)[j]? := by
 induction ss with
 | nil => intro i hi; simp at hi
 | cons s ss ih =>
   intro i hi j hj
   have h1 := h s (by simp)
   have e : scells (s :: ss) = s.map by8 ++ scells ss := rfl
   rw [e]
   cases i with
   | zero => rw [List.getElem?_append_left (by simp [h1]; omega)]; simp
   | succ i =>
     rw [List.getElem?_append_right (by simp [h1]; omega)]
     have := ih (fun u hu => h u (by simp [hu])) i (by simpa using hi) j hj
     simp only [List.length_map, h1]
     rw [show (i + 1) * 32 + j - 32 = i * 32 + j by omega, this]
     simp
theorem own_isSS {w : World} {base : Nat} {v : Value} {ss : List (List Int)} (h : w.ownsRow base 134 32 v ss.length (scells ss)) (hs : ∀ s ∈ ss, Jo.Sct s) (hm : ss.length ≤ 100000) : ∃ a cap, v = .slice a ss.length cap ∧ IsSS w a ss.length ss ∧ ss.length ≤ cap ∧ (∀ q, a = some q → base ≤ q.block ∧ q.block < w.heap.size) := by
 have hlt := h.lt
 rcases h with ⟨hl, ⟨rfl, hn⟩ | ⟨g, cap, cur, rfl, hg, hbk, hnc, hcm, hcs, ht⟩⟩
 · exact ⟨none, 0, by rw [hn], ⟨rfl, hm, hs, fun hp => by omega⟩, by omega, fun q e => by cases e⟩
 · refine ⟨some ⟨g, 0, none⟩, cap, rfl, ⟨rfl, hm, hs, fun hp => ⟨g, 0, rfl, fun i hi => ?_⟩⟩, hnc, fun q e => by cases e; exact hlt g rfl⟩
   intro j v hv
   have hj : j < 32 := by
     have h1 := (List.getElem?_eq_some_iff.1 hv).1
     have h2 := (hs (ss.getD i []) (by rw [List.getD, List.getElem?_eq_getElem hi]; exact List.getElem_mem hi)).1
     rw [List.length_map, h2] at h1; exact h1
   rw [cell_of_row w g _ cur 134 (0, 0) hbk]
   have e1 : (cur.toList.take (ss.length * 32))[i * 32 + j]? = (scells ss)[i * 32 + j]? := by rw [ht]
   rw [List.getElem?_take, if_pos (by omega)] at e1
   rw [Nat.zero_add, ← Array.getElem?_toList, e1, scells_get (fun s h => (hs s h).1) i hi j hj]
   exact hv
theorem secEqIn (w : World) {s u : Sec} (hs : IsSec s) (hu : IsSec u) : (Op.equalIn 10000 134 (.agg (s.map by8).toArray) (.agg (u.map by8).toArray)).run Tryz.prog w = .ok (s == u) w := by
 have e4 := secEq (P := Tryz.prog) w 134 5 Tryz.underlying134 Tryz.underlying5 size8 hs hu
 unfold secV at e4
 rw [run_eql_struct] at e4
 cases hR : (Op.equalIn 10000 134 (.agg (s.map by8).toArray) (.agg (u.map by8).toArray)).run Tryz.prog w with
 | ok b w' =>
   rw [hR] at e4
   simp [Result.andThen] at e4
   rw [e4.1, e4.2]
 | halt h w' =>
   rw [hR] at e4
   simp [Result.andThen] at e4
theorem qload {o : Oper} {a : Act} {C : World → Prop} {w : World} {v : Value} (x : Operand) (T : TypeId) (p : Value) (hop : o.op = .load T x) (hx : a.eval x = p) (hl : (Instr.loadAt T p).run Tryz.prog w = .ok v w) (hC : C w) : o.quietAt Tryz.prog a C w v := by
 unfold Oper.quietAt
 simp only [execOp, hop, hx, Sem.run_bind, hl, Result.andThen, Sem.run_pure]
 exact ⟨rfl, rfl⟩
theorem secNeq (w : World) {s u : Sec} (hs : IsSec s) (hu : IsSec u) : (binOp .neq 134 (secV s) (secV u)).run Tryz.prog w = .ok (.bool (!(s == u))) w := by
 unfold secV
 rw [run_neq_struct, secEqIn w hs hu]
 rfl
theorem qneq {o : Oper} {a : Act} {C : World → Prop} {w : World} (x y : Operand) (t : TypeId) (s u : Sec) (hop : o.op = .binOp .neq 134 x y t) (hx : a.eval x = secV s) (hy : a.eval y = secV u) (hs : IsSec s) (hu : IsSec u) (b : Bool) (hb : (s == u) = b) (hC : C w) : o.quietAt Tryz.prog a C w (.bool (!b)) := by
 have e1 := secNeq w hs hu
 have e2 : (eqGuard .neq 134 x y (secV s) (secV u)).run Tryz.prog w = .ok () w := run_eqGuard_agg w .neq 134 x y _ _ guardS
 unfold Oper.quietAt
 simp only [execOp, hop, hx, hy, Sem.run_bind, e1, e2, Result.andThen, Sem.run_pure, hb]
 exact ⟨rfl, rfl⟩
theorem qsec {w : World} {b o : Nat} {s : List Int} (h : w.rangeAt b o (s.map by8)) (hs : s.length = 32) : (Instr.loadAt 134 (.pointer (some ⟨b, o, none⟩))).run Tryz.prog w = .ok (secV s) w :=
 run_loadAt_mid w b o 134 (s.map by8) _ h Tryz.underlying134 rfl (by rw [sizeS]; simp [hs])
theorem sct_sec {s : List Int} (h : Jo.Sct s) : IsSec s := ⟨h.1, h.2⟩
theorem take_eq_snoc {A B : List (List Int)} {k : Nat} (h : A.take k = B.take k) (hA : k < A.length) (hB : k < B.length) (e : A.getD k [] = B.getD k []) : A.take (k + 1) = B.take (k + 1) := by
 rw [List.take_succ_eq_append_getElem hA, List.take_succ_eq_append_getElem hB, h]
 simp [List.getD, hA, hB] at e
 rw [e]
set_option maxRecDepth 20000 in
set_option maxHeartbeats 2000000 in
theorem equal_c (b off n cap : Nat) (b' off' n' cap' : Nat) (ss tt : List (List Int)) (w : World) (h : IsSS w (some ⟨b, off, none⟩) n ss) (h' : IsSS w (some ⟨b', off', none⟩) n' tt) :
   Calls Tryz.prog 137 #[.slice (some ⟨b, off, none⟩) n cap, .slice (some ⟨b', off', none⟩) n' cap'] w fun e w' => e = .returned (.bool (ss == tt)) ∧ Below w.heap.size w w' := by
 have l1 := h.1
 have l2 := h'.1
 have m1 := h.2.1
 have m2 := h'.2.1
 by_cases hn : n = n'
 · subst hn
   have H := hid h
   have H' := hid h'
   have L1 := hid l1
   have L2 := hid l2
   clear h h' l1 l2
   go_enter Tryz.func137, Tryz.ntmps137
   go_wp2
   go_loopw [13] (fun i wr => ∃ k : Nat, k ≤ n ∧ i = .int .i64 k ∧ ss.take k = tt.take k ∧ Below w.heap.size w wr) (fun i _ => n - (intOf i).toNat)
   case atStart => exact ⟨0, Nat.zero_le _, rfl, rfl, Below.refl _ _⟩
   case round =>
     obtain ⟨k, hk, rfl, heq, hB⟩ := hrel
     have HE := hid heq
     have HB := hid hB
     clear heq hB
     by_cases hlt : k < n
     · obtain ⟨r1, s1⟩ := (H.out.later HB.out).at k hlt
       obtain ⟨r2, s2⟩ := (H'.out.later HB.out).at k hlt
       have hsn := hid (fun e => take_eq_snoc HE.out (by rw [L1.out]; exact hlt) (by rw [L2.out]; exact hlt) e)
       have hne : Hid (ss.getD k [] ≠ tt.getD k [] → ss ≠ tt) := fun hne e => hne (by rw [e])
       have R1 := hid r1
       have R2 := hid r2
       have S1 := hid s1
       have S2 := hid s2
       clear r1 r2 s1 s2
       generalize ss.getD k [] = S at *
       generalize tt.getD k [] = T at *
       cases hST : (S == T) with
       | true =>
         have HST := hid hST
         clear hST
         go_wp2_with fail
         refine wp_region_class (by kernel_rfl) (by kernel_rfl) ?_
         repeat (first
           | go_big_quiet_skip
           | (go_big_quiet_want
              apply quiet_by
              · intro w1 hw1
                exact qload _ 134 _ rfl rfl (qsec (range_later R1.out hw1) S1.out.1) hw1
              · go_simp; rfl
              go_big_quiet_on)
           | (go_big_quiet_want
              apply quiet_by
              · intro w1 hw1
                exact qload _ 134 _ rfl rfl (qsec (range_later R2.out hw1) S2.out.1) hw1
              · go_simp; rfl
              go_big_quiet_on)
           | (go_big_quiet_want
              apply quiet_by
              · intro w1 hw1
                exact qneq _ _ _ S T rfl rfl rfl (sct_sec S1.out) (sct_sec S2.out) _ HST.out hw1
              · go_simp; rfl
              go_big_quiet_on)
           | (go_big_quiet_want
              apply quiet_by
              · intro w1 hw1
                go_simp
                rfl
              · go_simp; rfl
              go_big_quiet_on))
         refine wpQuiet_nil ?_
         intro w12 hw12
         go_wp2
         go_roundw
         case rel => exact ⟨k + 1, by omega, by go_num, hsn.out (by simpa using HST.out), HB.out.trans (hw12.mono HB.out.size)⟩
         case measure => simp [intOf]; omega
       | false =>
         have HN := hid (hne.out (by simpa using hST))
         have HST := hid hST
         clear hST
         go_wp2_with fail
         refine wp_region_class (by kernel_rfl) (by kernel_rfl) ?_
         repeat (first
           | go_big_quiet_skip
           | (go_big_quiet_want
              apply quiet_by
              · intro w1 hw1
                exact qload _ 134 _ rfl rfl (qsec (range_later R1.out hw1) S1.out.1) hw1
              · go_simp; rfl
              go_big_quiet_on)
           | (go_big_quiet_want
              apply quiet_by
              · intro w1 hw1
                exact qload _ 134 _ rfl rfl (qsec (range_later R2.out hw1) S2.out.1) hw1
              · go_simp; rfl
              go_big_quiet_on)
           | (go_big_quiet_want
              apply quiet_by
              · intro w1 hw1
                exact qneq _ _ _ S T rfl rfl rfl (sct_sec S1.out) (sct_sec S2.out) _ HST.out hw1
              · go_simp; rfl
              go_big_quiet_on)
           | (go_big_quiet_want
              apply quiet_by
              · intro w1 hw1
                go_simp
                rfl
              · go_simp; rfl
              go_big_quiet_on))
         refine wpQuiet_nil ?_
         intro w12 hw12
         go_wp2
         go_ret
         exact ⟨ret_bool (by have := HN.out; simp [this]), HB.out.trans (hw12.mono HB.out.size)⟩
     · have e : ss = tt := by
         have e1 : ss.take k = ss := List.take_of_length_le (by rw [L1.out]; omega)
         have e2 : tt.take k = tt := List.take_of_length_le (by rw [L2.out]; omega)
         rw [← e1, ← e2]; exact HE.out
       have E := hid e
       clear e
       go_wp2
       go_ret
       exact ⟨ret_bool (by rw [E.out]; simp), HB.out⟩
 · have hn' : ((n : Int) == (n' : Int)) = false := by simp; omega
   have hn2 : ¬ (n : Int) = n' := by omega
   have E : Hid ((ss == tt) = false) := by
     show _ = _
     simp only [beq_eq_false_iff_ne]
     intro e; apply hn; rw [← l1, ← l2, e]
   clear h h' l1 l2
   go_enter Tryz.func137, Tryz.ntmps137
   go_wp2
   go_ret
   exact ⟨ret_bool E.out.symm, Below.refl _ _⟩
def flatL (ss : List (List Int)) : List Int := (ss.map (List.drop 1)).flatten
theorem flatL_take {ss : List (List Int)} {k : Nat} (h : k < ss.length) : flatL (ss.take (k + 1)) = flatL (ss.take k) ++ (ss.getD k []).drop 1 := by
 unfold flatL; rw [List.take_succ_eq_append_getElem h, List.map_append, List.flatten_append]; simp [List.getD, h]
theorem flatL_len {ss : List (List Int)} (h : ∀ s ∈ ss, Jo.Sct s) : (flatL ss).length = 31 * ss.length := by
 induction ss with
 | nil => rfl
 | cons s ss ih =>
   have h1 := (h s (by simp)).1
   have h2 := ih fun u hu => h u (by simp [hu])
   unfold flatL at h2 ⊢
   simp only [List.map_cons, List.flatten_cons, List.length_append, List.length_drop, h1, h2, List.length_cons]
   omega
theorem flatL_bytes {ss : List (List Int)} (h : ∀ s ∈ ss, Jo.Sct s) : Jo.Bytes (flatL ss) := Jo.bytes_flat fun l hl => by
 obtain ⟨u, hu, rfl⟩ := List.mem_map.1 hl; exact Jo.bytes_drop (h u hu).2 _
set_option maxRecDepth 20000 in
set_option maxHeartbeats 2000000 in
theorem readLoad_c (a : Option Addr) (n cap len : Nat) (ss : List (List Int)) (w : World) (h : IsSS w a n ss) (hl : len ≤ 31 * n) (hn : n ≤ 5000) :
   Calls Tryz.prog 136 #[.slice a n cap, .int .i64 len] w fun e w' => ∃ la, e = .returned (.slice la len len) ∧ IsB w' la len (Jo.readL ss len) ∧ (la = none → len = 0) ∧ Below w.heap.size w w' := by
 have H := hid h
 have L1 := hid h.1
 have S3 := hid h.2.2.1
 obtain ⟨i0, hi, hz0, hz1, hz2⟩ := info_parts8
 clear h
 have zz := zlit
 go_enter Tryz.func136, Tryz.ntmps136
 go_wp2_with (at_make; refine wpList_make_own _ rfl _ _ 49 rfl w.heap.size 5 i0 _ 1 Tryz.underlying49 hi hz0 hz1 _ _ _ (31 * n) rfl rfl (by push_cast; omega) (by rw [hz2]; omega) (by unfold maxLen; omega) (Nat.le_refl _) ?_; intro w1 hown0 hgr0)
 have hB0 : Below w.heap.size w w1 := (Below.refl _ _).grown hgr0 (Nat.le_refl _) (fun k hk => by cases hk)
 go_loopw [5, 14] (fun v i wr => ∃ k : Nat, k ≤ n ∧ i = .int .i64 k ∧ wr.ownsRow w.heap.size 5 1 v (flatL (ss.take k)).length ((flatL (ss.take k)).map by8) ∧ Below w.heap.size w wr) (fun _ i _ => n - (intOf i).toNat)
 case atStart => exact ⟨0, Nat.zero_le _, rfl, by simpa [flatL] using hown0, hB0⟩
 case round =>
   obtain ⟨k, hk, rfl, hown, hB⟩ := hrel
   have hBz := hB.size
   have hfl := flatL_len (ss := ss.take k) (fun s hs => S3.out s (List.mem_of_mem_take hs))
   have hkl : (ss.take k).length = k := by rw [List.length_take, L1.out]; omega
   rw [hkl] at hfl
   by_cases hlt : k < n
   · obtain ⟨b, off, rfl, _⟩ := H.out.2.2.2 (by omega)
     obtain ⟨r1, s1⟩ := (H.out.later hB).at k hlt
     have HT := hid (flatL_take (ss := ss) (k := k) (by rw [L1.out]; exact hlt))
     have HO1 := hid hown
     have HB1 := hid hB
     have HF := hid hfl
     clear hown hB
     generalize ss.getD k [] = S at *
     have hi1 : (Tryz.prog.info? 134).map (·.size) = some (S.map by8).length := by rw [sizeS]; simp [s1.1]
     have hx1 : Bx (wr.alloc (.cells (S.map by8).toArray 134)) wr.heap.size 134 S := heap_alloc_new wr _
     have hIS : IsB (wr.alloc (.cells (S.map by8).toArray 134)) (some ⟨wr.heap.size, 1, none⟩) 31 (S.drop 1) := by
       have := bx_isB hx1 s1.2 1 31 (by rw [s1.1]; omega) (by decide)
       rwa [List.take_of_length_le (by simp [s1.1])] at this
     have hown1 : (wr.alloc (.cells (S.map by8).toArray 134)).ownsRow w.heap.size 5 1 u5 (flatL (ss.take k)).length ((flatL (ss.take k)).map by8) := HO1.out.alloc _
     have hB1 : Below w.heap.size w (wr.alloc (.cells (S.map by8).toArray 134)) := HB1.out.alloc hBz _
     have hz1' : w.heap.size ≤ (wr.alloc (.cells (S.map by8).toArray 134)).heap.size := hB1.size
     have hs32 := s1.1
     clear hx1
     go_wp2_with (first
       | (at_builtin; refine wpList_appendB _ rfl _ _ rfl w.heap.size _ _ _ rfl hown1 (some ⟨wr.heap.size, 1, none⟩) 31 31 (S.drop 1) rfl hIS (fun e => by cases e) (by omega) hz1' ?_; intro v6 w6 hown6 hgrow6)
       | (go_at_call 158; refine (inside_c wr.heap.size _).mono ?_; rintro e w' ⟨rfl, rfl⟩)
       | (refine wpList_load_mid rfl _ _ rfl b (off + k * 32) rfl (S.map by8) _ r1 Tryz.underlying134 rfl hi1 ?_)
       | (refine wpList_storeS _ rfl _ _ _ rfl sizeS _ rfl (by simp) S rfl hs32 _ (by simp; decide) ?_))
     have B6 : Below w.heap.size w w6 := below_grown hB1 hown1 (Nat.le_refl _) hz1' hgrow6
     obtain ⟨a6, c6, rfl⟩ := own_shape6 hown6
     go_roundw
     case rel => exact ⟨k + 1, by omega, by go_num, by rw [HT.out]; simpa [s1.1] using hown6, B6⟩
     case measure => simp [intOf]; omega
   · have ek : k = n := by omega
     have ht : ss.take k = ss := List.take_of_length_le (by rw [L1.out]; omega)
     rw [ht] at hown hfl
     obtain ⟨la, lc, rfl, hI, hlc, hnil, hin⟩ := own_isB hown (flatL_bytes S3.out)
     have hI2 := hid (hI.front len (by omega))
     have HB := hid hB
     have HN := hid hnil
     clear hown ht hnil hin hI hB
     have q0 : (len : Int) ≤ lc := by omega
     have q1 : (0 : Int) ≤ len := by omega
     have HL := hid hlc
     go_wp2
     go_ret
     exact ⟨la, rfl, hI2.out, fun e => by have h1 := HN.out e; have h2 := HL.out; omega, HB.out⟩
set_option maxRecDepth 20000 in
set_option maxHeartbeats 1000000 in
theorem clone8_c (a : Option Addr) (len cap : Nat) (zs : List Int) (w : World) (h : IsB w a len zs) (hnc : a = none → cap = 0) (hs : len ≤ 900000) :
   Calls Tryz.prog 46 #[.slice a len cap] w fun e w' => ∃ v, e = .returned v ∧ w'.ownsRow w.heap.size 5 1 v zs.length (zs.map by8) ∧ Below w.heap.size w w' := by
 cases a with
 | none =>
   have hl : len = 0 := by
     rcases Nat.eq_zero_or_pos len with h0 | h0
     · exact h0
     · obtain ⟨b, off, e, _⟩ := h.2.2.1 h0; cases e
   subst hl
   have hz : zs = [] := List.eq_nil_of_length_eq_zero h.1
   subst hz
   have hcc := hnc rfl
   subst hcc
   have hq : ∀ w, (binOp .eql 49 (.slice none 0 0) (.slice none 0 0)).run Tryz.prog w = .ok (.bool true) w := fun w => Lib.run_eql_slice_nil w _ _ _ _ _ _ _ Tryz.underlying49
   go_enter Tryz.func46, Tryz.ntmps46
   go_wp2
   go_ret
   exact ⟨_, rfl, World.ownsRow_nil w w.heap.size 5 1, Below.refl _ _⟩
 | some ad =>
   have hI1 := h.later ((Below.refl _ w).alloc (Nat.le_refl _) (.cells #[] 5))
   have hown1 : (w.alloc (.cells #[] 5)).ownsRow w.heap.size 5 1 (.slice (some ⟨w.heap.size, 0, none⟩) 0 0) 0 [] :=
     ⟨rfl, .inr ⟨w.heap.size, 0, #[], rfl, Nat.le_refl _, heap_alloc_new w _, Nat.le_refl _, by decide, rfl, rfl⟩⟩
   have hl := h.1
   have hq : ∀ w, (binOp .eql 49 (.slice (some ad) len cap) (.slice none 0 0)).run Tryz.prog w = .ok (.bool false) w := fun w => Lib.run_eql_slice_nil w _ _ _ _ _ _ _ Tryz.underlying49
   go_enter Tryz.func46, Tryz.ntmps46
   go_wp2_with (at_builtin; refine wpList_appendB _ rfl _ _ rfl w.heap.size _ _ _ rfl hown1 (some ad) len cap zs rfl hI1 (fun e => by cases e) (by omega) (by simp) ?_; intro v6 w6 hown6 hgrow6)
   have B6 : Below w.heap.size w w6 := below_grown ((Below.refl _ w).alloc (Nat.le_refl _) (.cells #[] 5)) hown1 (Nat.le_refl _) (by simp) hgrow6
   obtain ⟨a6, c6, rfl⟩ := own_shape6 hown6
   go_ret
   exact ⟨_, rfl, by simpa [hl] using hown6, B6⟩
def PG (B : Nat) (w : World) (v : Value) (gs : Jo.Gr) : Prop :=
 ∃ vals : List Value, w.ownsRow B 49 1 v gs.length vals ∧ ∀ i, i < gs.length → ∃ u, vals[i]? = some u ∧ w.ownsRow B 5 1 u (gs.getD i []).length ((gs.getD i []).map by8) ∧ Jo.Bytes (gs.getD i [])
theorem own_types {w : World} {B B' e e' sz sz' n n' : Nat} {u v : Value} {xs ys : List Value} (h : w.ownsRow B e sz u n xs) (h' : w.ownsRow B' e' sz' v n' ys) (he : e ≠ e') (q : Nat) (hu : u.ownBlock = some q) : v.ownBlock ≠ some q := by
 intro hv
 rcases h.2 with ⟨rfl, _⟩ | ⟨g, cap, cur, rfl, _, e1, _⟩
 · cases hu
 · rcases h'.2 with ⟨rfl, _⟩ | ⟨g', cap', cur', rfl, _, e2, _⟩
   · cases hv
   · cases hu; cases hv; rw [e1] at e2; cases e2; exact he rfl
theorem PG.nil (B : Nat) (w : World) : PG B w (.slice none 0 0) [] := ⟨[], World.ownsRow_nil w B 49 1, fun i hi => by simp at hi⟩
theorem PG.later {B : Nat} {w w' : World} {v : Value} {gs : Jo.Gr} (h : PG B w v gs) (hb : Below w.heap.size w w') : PG B w' v gs := by
 obtain ⟨vals, h1, h2⟩ := h
 refine ⟨vals, own_keep h1 (Out.of (S := fun _ => False) hb) (fun _ _ h => h), fun i hi => ?_⟩
 obtain ⟨u, e1, e2, e3⟩ := h2 i hi
 exact ⟨u, e1, own_keep e2 (Out.of (S := fun _ => False) hb) (fun _ _ h => h), e3⟩
theorem PG.snoc {B : Nat} {w w' : World} {v v' u : Value} {gs : Jo.Gr} {vals : List Value} {p : List Int} (hv : w.ownsRow B 49 1 v gs.length vals)
   (h2 : ∀ i, i < gs.length → ∃ u, vals[i]? = some u ∧ w.ownsRow B 5 1 u (gs.getD i []).length ((gs.getD i []).map by8) ∧ Jo.Bytes (gs.getD i []))
   (hu : w.ownsRow B 5 1 u p.length (p.map by8)) (hp : Jo.Bytes p) (hg : w.grownBy w' v.ownBlock) (hown : w'.ownsRow B 49 1 v' (gs.length + 1) (vals ++ [u])) : PG B w' v' (gs ++ [p]) := by
 have hl : vals.length = gs.length := by simpa using hv.1
 have far : ∀ {u : Value} {z : List Int}, w.ownsRow B 5 1 u z.length (z.map by8) → w'.ownsRow B 5 1 u z.length (z.map by8) := fun {u z} hz =>
   own_far hz fun k hk => hg.block k (hz.lt k hk).2 (fun e => own_types hz hv (by decide) k hk e.symm)
 refine ⟨vals ++ [u], by simpa using hown, fun i hi => ?_⟩
 by_cases hlt : i < gs.length
 · obtain ⟨x, e1, e2, e3⟩ := h2 i hlt
   have e : (gs ++ [p]).getD i [] = gs.getD i [] := by simp [List.getD, List.getElem?_append_left hlt]
   rw [e]
   exact ⟨x, by rw [List.getElem?_append_left (by omega)]; exact e1, far e2, e3⟩
 · have ei : i = gs.length := by simp at hi; omega
   subst ei
   have e : (gs ++ [p]).getD gs.length [] = p := by simp [List.getD]
   rw [e]
   exact ⟨u, by rw [← hl]; simp, far hu, hp⟩
theorem PG.isG0 {B : Nat} {w : World} {v : Value} {gs : Jo.Gr} (h : PG B w v gs) (hm : gs.length ≤ 100000) : ∃ a cap, v = .slice a gs.length cap ∧ IsG0 w a gs.length gs := by
 obtain ⟨vals, h1, h2⟩ := h
 rcases h1.2 with ⟨rfl, hn⟩ | ⟨g, cap, cur, rfl, hg, hbk, hnc, hcm, hcs, ht⟩
 · exact ⟨none, 0, by rw [hn], ⟨rfl, by unfold maxLen; omega, fun hp => by omega⟩⟩
 · refine ⟨some ⟨g, 0, none⟩, cap, rfl, ⟨rfl, by unfold maxLen; omega, fun hp => ⟨g, 0, rfl, fun i hi => ?_⟩⟩⟩
   obtain ⟨u, e1, e2, e3⟩ := h2 i hi
   obtain ⟨pa, pc, rfl, k1, k2, k3, k4⟩ := own_isB e2 e3
   refine ⟨pa, pc, ?_, k1, k2, k3⟩
   rw [cell_of_row w g _ cur 49 (0, 0) hbk]
   have e4 : (cur.toList.take (gs.length * 1))[i]? = vals[i]? := by rw [ht]
   rw [List.getElem?_take, if_pos (by omega)] at e4
   rw [Nat.zero_add, ← Array.getElem?_toList, e4, e1]
end Go.Proofs.YtpolbbdaippclaaGreat
