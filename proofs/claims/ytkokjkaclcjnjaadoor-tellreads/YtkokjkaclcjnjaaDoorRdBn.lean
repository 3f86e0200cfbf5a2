/-
  readKid, readKids of the package tell.
  kindOf, readData, readInside of the package tell.
-/
import Derived.Test.YtkokjkaclcjnjaaDoorRdBm
import Derived.Test.YtkokjkaclcjnjaaDoorRdBc
import Derived.Test.YtkokjkaclcjnjaaDoorRdAi
import Derived.Test.YtkokjkaclcjnjaaDoorRdAo
namespace Go.Proofs.YtkokjkaclcjnjaaDoor
open Go.RowKit Go.ChangeShapes Go.WideShapes Go.ChangeAt
set_option linter.unusedVariables false
set_option linter.unusedSimpArgs false
set_option maxRecDepth 100000
theorem kd_cells {w : World} {g : Nat} {x : Kd} {t : TypeId} {fr : Nat × Nat} (h : w.heap[g]? = some (.cells x.cells.toArray t fr)) : w.cell? ⟨g, 0, none⟩ = some (.string x.nm) ∧ w.cell? ⟨g, 1, none⟩ = some (.int .u32 x.fid) := by
 refine ⟨?_, ?_⟩ <;> (rw [cell_of_row w g _ _ t fr h]; rfl)
theorem kidP_isSome (e : List UInt8) : (kidP e).isSome = (readD 4294967295 ((cutL 61 e).2.getD [])).isSome := by
 unfold kidP
 cases (cutL 61 e).2 with
 | none => rfl
 | some d => simp
theorem kidP_get {e : List UInt8} {k : Kd} (h : kidP e = some k) : k = ⟨tB (cutL 61 e).1, (((readD 4294967295 ((cutL 61 e).2.getD [])).getD 0 : Nat) : Int)⟩ := by
 unfold kidP at h
 cases hc : (cutL 61 e).2 with
 | none => rw [hc] at h; cases h
 | some d =>
   rw [hc] at h
   replace h : (readD 4294967295 d).map (fun (f : Nat) => (⟨⟨(cutL 61 e).1.toArray⟩, (f : Int)⟩ : Kd)) = some k := h
   cases hr : readD 4294967295 d with
   | none => rw [hr] at h; cases h
   | some f =>
     rw [hr] at h
     cases h
     simp [hr, tB]
set_option maxHeartbeats 4000000 in
theorem readKid_c (s : ByteArray) (w : World) (hs : s.size ≤ 10000000) (hm : MxW w) :
   Calls Tryd.prog 118 #[.string s] w fun e w' => ∃ y : Kd, e = .returned (.tuple #[y.val, .bool (kidP s.data.toList).isSome]) ∧ (∀ k, kidP s.data.toList = some k → k = y) ∧ y.nm.size ≤ s.size ∧ Below w.heap.size w w' := by
 have b0 := below_1 w (.cells Kd.no.cells.toArray 71)
 have h0 := heap_alloc_new w (.cells Kd.no.cells.toArray 71)
 have hsz : w.heap.size < (w.alloc (.cells Kd.no.cells.toArray 71)).heap.size := lt_blkR h0
 have CC := hid (cut_c 61 s (w.alloc (.cells Kd.no.cells.toArray 71)) (by omega) (hm.later b0))
 have hc1 := (cut_size 61 s.data.toList).1
 have hc2 := (cut_size 61 s.data.toList).2
 have hlen : s.data.toList.length = s.size := rfl
 have KS := hid (kidP_isSome s.data.toList)
 have KG := hid (fun k h => kidP_get (e := s.data.toList) (k := k) h)
 generalize kidP s.data.toList = KP at *
 generalize (cutL 61 s.data.toList).2.isSome = cb at *
 generalize (cutL 61 s.data.toList).2.getD [] = d at *
 generalize (cutL 61 s.data.toList).1 = n at *
 have DC := hid (fun W => readD_c (tB d) 4294967295 (by omega) W (by rw [tB_size]; unfold maxLen; omega))
 have LC := hid (fun W => sclonT_c (tB n) W (by rw [tB_size]; omega))
 have hns : (tB n).size ≤ s.size := by rw [tB_size]; omega
 rw [tB_data] at DC
 unfold RdD at DC
 generalize readD 4294967295 d = r at *
 generalize tB n = N at *
 generalize tB d = D at *
 obtain ⟨f, hf⟩ : ∃ f : Int, f = ((r.getD 0 : Nat) : Int) := ⟨_, rfl⟩
 obtain ⟨b, hb⟩ : ∃ b : Bool, b = r.isSome := ⟨_, rfl⟩
 rw [← hf, ← hb] at DC
 rw [← hb] at KS
 rw [← hf] at KG
 have H0 := hid h0
 have B0 := hid b0
 clear h0 b0 hc1 hc2 hlen hm hf hb hs
 go_enter Tryd.func118, Tryd.ntmps118
 go_upto_region 1 with fail
 change Code.wp _ _ _ _ (w.alloc (.cells Kd.no.cells.toArray 71))
 generalize (w.alloc (.cells Kd.no.cells.toArray 71)) = V at *
 go_wp2_with (first
   | (go_at_call 129; refine (LC.out _).mono ?_; rintro _ w3 ⟨rfl, hb3⟩; have B3 := hid (B2.out.trans (hb3.mono B2.out.size)); have h3 := (B3.out.block _ hsz).trans H0.out; obtain ⟨q0, q1⟩ := kd_cells h3; simp only [Kd.no] at q0 q1; have fz : ∀ i, w3.frozen? ⟨w.heap.size, i, none⟩ = false := (fun i => by simp [World.frozen?, h3]); clear hb3 h3)
   | (go_at_call 73; refine (DC.out _).mono ?_; rintro _ w2 ⟨rfl, hb2⟩; have B2 := hid (B1.out.trans (hb2.mono B1.out.size)); clear hb2)
   | (go_at_call 43; refine CC.out.mono ?_; rintro _ w1 ⟨rfl, hb1⟩; have B1 := hid hb1; clear hb1))
 have B4 := B0.out.trans (B3.out.mono B0.out.size)
 refine bodyPost_ret (v := .tuple #[(⟨N, f⟩ : Kd).val, .bool b]) (by simp [results, Tryd.results118, go_sem, Kd.val, q0, q1]) rfl ⟨⟨N, f⟩, by rw [KS.out], KG.out, hns, ?_⟩
 exact (B4.setCell (p := ⟨w.heap.size, 0, none⟩) (Nat.le_refl _) _).setCell (p := ⟨w.heap.size, 1, none⟩) (Nat.le_refl _) _
theorem spl_next (c : UInt8) (s : List UInt8) : splN c s.length s = (cutL c s).1 :: (match (cutL c s).2 with
   | none => []
   | some t => splN c t.length t) := by
 cases h : (cutL c s).2 with
 | none =>
   rw [spl_none _ (cut_miss h).2, (cut_miss h).1]
 | some t =>
   have e := (cut_some h).1
   have hl : t.length < s.length := by
     have := congrArg List.length e
     rw [List.length_append, List.length_cons] at this
     omega
   obtain ⟨k, hk⟩ : ∃ k, s.length = k + 1 := ⟨s.length - 1, by omega⟩
   rw [hk, splN, h]
   simp only
   rw [spl_all c k t.length t (by omega) (Nat.le_refl _)]
theorem goK_none {r : Nat} {e : List UInt8} {t : List (List UInt8)} (h : kidP e = none) : goK r (e :: t) = none := by
 cases r with
 | zero => rfl
 | succ r =>
   show (match kidP e with
     | none => none
     | some k => (goK r t).map (k :: ·)) = none
   rw [h]
theorem goK_some {r : Nat} {e : List UInt8} {k : Kd} {t : List (List UInt8)} (h : kidP e = some k) : goK (r + 1) (e :: t) = (goK r t).map (k :: ·) := by
 show (match kidP e with
   | none => none
   | some k => (goK r t).map (k :: ·)) = _
 rw [h]
theorem map_snoc {α : Type} (o : Option (List α)) (K : List α) (k : α) : (o.map (k :: ·)).map (K ++ ·) = o.map (fun x => (K ++ [k]) ++ x) := by
 cases o with
 | none => rfl
 | some l => simp
def KsP (r : Option (List Kd)) (w : World) (e : Ending) (w' : World) : Prop := (match r with
 | none => e = .returned (.tuple #[.slice none 0 0, .bool false])
 | some l => ∃ v, e = .returned (.tuple #[v, .bool true]) ∧ OwK w' w.heap.size v l) ∧ Below w.heap.size w w'
theorem KsP.no {r : Option (List Kd)} {w w' : World} (h : r = none) (hb : Below w.heap.size w w') : KsP r w (.returned (.tuple #[.slice none 0 0, .bool false])) w' := ⟨by rw [h], hb⟩
theorem KsP.yes {r : Option (List Kd)} {l : List Kd} {v : Value} {w w' : World} (h : r = some l) (ho : OwK w' w.heap.size v l) (hb : Below w.heap.size w w') : KsP r w (.returned (.tuple #[v, .bool true])) w' := ⟨by rw [h]; exact ⟨v, rfl, ho⟩, hb⟩
def KsI (R : Option (List Kd)) (K : List Kd) (rest : List UInt8) (more : Bool) : Prop := if more = true then R = (goK (12 - K.length) (splN 44 rest.length rest)).map (K ++ ·) else R = some K
set_option maxHeartbeats 8000000 in
theorem readKids_c (s : ByteArray) (w : World) (hs : s.size ≤ 10000000) (hm : MxW w) :
   Calls Tryd.prog 97 #[.string s] w (KsP (kidsP s.data.toList) w) := by
 obtain ⟨R, hR⟩ : ∃ R, R = kidsP s.data.toList := ⟨_, rfl⟩
 rw [← hR]
 by_cases q : s.data.toList = [45]
 · have e1 : (s.toList == [45]) = true := by rw [Lib.toList_data, q]; rfl
   have N : Hid (R = some []) := hid (by rw [hR]; unfold kidsP; rw [if_pos q])
   clear hR q
   go_enter Tryd.func97, Tryd.ntmps97
   go_wp2
   refine bodyPost_ret (v := .tuple #[.slice none 0 0, .bool true]) (by simp [results, Tryd.results97, go_sem]) rfl (KsP.yes N.out (OwK.nil _ _) (Below.refl _ _))
 · have e1 : (s.toList == [45]) = false := by rw [beq_eq_false_iff_ne, Lib.toList_data]; exact q
   have N : Hid (KsI R [] s.data.toList true) := hid (by unfold KsI; rw [if_pos rfl, hR]; unfold kidsP; rw [if_neg q]; simp)
   have hlen : s.data.toList.length ≤ 10000000 := hs
   have HM := hid hm
   clear hR q hs hm
   have es : s = tB s.data.toList := (tB_of s).symm
   generalize s.data.toList = l0 at *
   subst es
   go_enter Tryd.func97, Tryd.ntmps97
   go_wp2
   go_loopg [0, 4, 5] (l0.length + 1) (fun gk v0 v4 v5 wr => ∃ (rest : List UInt8) (K : List Kd) (more : Bool), v0 = .string (tB rest) ∧ v5 = .bool more ∧ K.length ≤ 12 ∧ rest.length ≤ 10000000 ∧ gk = (if more = true then rest.length + 1 else 0) ∧ Hid (OwK wr w.heap.size v4 K) ∧ Hid (Below w.heap.size w wr) ∧ Hid (KsI R K rest more))
   case atStart => exact ⟨l0, [], true, rfl, rfl, by simp, hlen, rfl, hid (OwK.nil _ _), hid (Below.refl _ _), N⟩
   case round =>
     obtain ⟨rest, K, more, rfl, rfl, hK, hrl, hgk, HO, HB, HI⟩ := hrel
     obtain ⟨va, vc, rfl⟩ := HO.out.shape
     cases more with
     | false =>
       have HR : Hid (R = some K) := hid (by have := HI.out; unfold KsI at this; rwa [if_neg (by decide)] at this)
       clear hgk
       go_wp2
       refine bodyPost_ret (v := .tuple #[.slice va K.length vc, .bool true]) (by simp [results, Tryd.results97, go_sem]) rfl (KsP.yes HR.out HO.out HB.out)
     | true =>
       have hI := HI.out
       unfold KsI at hI
       rw [if_pos rfl, spl_next] at hI
       rw [if_pos rfl] at hgk
       have hbz := HB.out.size
       have CC := hid (cut_c 44 (tB rest) wr (by rw [tB_size]; omega) (HM.out.later HB.out))
       rw [tB_data] at CC
       have hc := cut_size 44 rest
       have hmo : (cutL 44 rest).2.isSome = true → ((cutL 44 rest).2.getD []).length < rest.length := fun h => by
         cases hq : (cutL 44 rest).2 with
         | none => rw [hq] at h; cases h
         | some t =>
           have := congrArg List.length (cut_some hq).1
           rw [List.length_append, List.length_cons] at this
           simp only [Option.getD_some]
           omega
       have hnx : ∀ (K' : List Kd), R = (goK (12 - K'.length) (match (cutL 44 rest).2 with
           | none => []
           | some t => splN 44 t.length t)).map (fun x => K' ++ x) → KsI R K' ((cutL 44 rest).2.getD []) (cutL 44 rest).2.isSome := fun K' h => by
         unfold KsI
         cases hq : (cutL 44 rest).2 with
         | none =>
           rw [hq] at h
           rw [if_neg (by decide : ¬ (none : Option (List UInt8)).isSome = true), h]
           have : goK (12 - K'.length) [] = some [] := by cases (12 - K'.length) <;> rfl
           rw [this]; simp
         | some t =>
           rw [hq] at h
           simp only [Option.isSome_some, if_true, Option.getD_some]
           exact h
       have HNX := hid hnx
       clear hnx
       generalize (cutL 44 rest).2.isSome = cb at *
       generalize (match (cutL 44 rest).2 with
           | none => []
           | some t => splN 44 t.length t) = es at *
       generalize (cutL 44 rest).2.getD [] = r2 at *
       generalize (cutL 44 rest).1 = e at *
       have RK := hid (fun W (hW : Below w.heap.size w W) => readKid_c (tB e) W (by rw [tB_size]; omega) (HM.out.later hW))
       rw [tB_data] at RK
       have HMO := hid hmo
       clear hmo
       cases hk : kidP e with
       | none =>
         have NB : Hid (R = none) := hid (by rw [hI, goK_none hk]; rfl)
         rw [hk] at RK
         simp only [Option.isSome_none] at RK
         clear HNX hI hc hgk HMO HI
         go_wp2_with (first
           | (go_at_call 118; refine (RK.out _ B1.out).mono ?_; rintro _ w2 ⟨y, rfl, _, _, hb2⟩; have B2 := hid (B1.out.trans (hb2.mono B1.out.size)); clear hb2; obtain ⟨ynm, yfid⟩ := y; simp only [Kd.val])
           | (go_at_call 43; refine CC.out.mono ?_; rintro _ w1 ⟨rfl, hb1⟩; have B1 := hid (HB.out.trans (hb1.mono hbz)); clear hb1))
         refine bodyPost_ret (v := .tuple #[.slice none 0 0, .bool false]) (by simp [results, Tryd.results97, go_sem]) rfl (KsP.no NB.out (B2.out.trans ((below_1 w2 _).mono B2.out.size)))
       | some k =>
         rw [hk] at RK
         simp only [Option.isSome_some] at RK
         by_cases q12 : K.length = 12
         · have NB : Hid (R = none) := hid (by rw [hI, q12]; rfl)
           have q12I : ((K.length : Int) == 12) = true := by rw [q12]; rfl
           clear HNX hI hc hgk HMO HI q12
           generalize K.length = n12 at *
           go_wp2_with (first
             | (go_at_call 118; refine (RK.out _ B1.out).mono ?_; rintro _ w2 ⟨y, rfl, _, _, hb2⟩; have B2 := hid (B1.out.trans (hb2.mono B1.out.size)); clear hb2; obtain ⟨ynm, yfid⟩ := y; simp only [Kd.val])
             | (go_at_call 43; refine CC.out.mono ?_; rintro _ w1 ⟨rfl, hb1⟩; have B1 := hid (HB.out.trans (hb1.mono hbz)); clear hb1))
           refine bodyPost_ret (v := .tuple #[.slice none 0 0, .bool false]) (by simp [results, Tryd.results97, go_sem]) rfl (KsP.no NB.out (B2.out.trans ((below_1 w2 _).mono B2.out.size)))
         · have q12I : ((K.length : Int) == 12) = false := by rw [beq_eq_false_iff_ne]; omega
           have HN2 : Hid (KsI R (K ++ [k]) r2 cb) := hid (HNX.out _ (by
             rw [hI]
             obtain ⟨m, hm⟩ : ∃ m, 12 - K.length = m + 1 := ⟨11 - K.length, by omega⟩
             rw [hm, goK_some hk, map_snoc, List.length_append, List.length_singleton, show 12 - (K.length + 1) = m by omega]))
           have HKL := hid hK
           have HQ12 := hid q12
           have HGK := hid hgk
           have HC := hid hc
           clear HNX hI hc hgk HI q12 hK
           have hkl : K.length ≤ 10000 := by have := HKL.out; omega
           generalize hkn : K.length = kn at *
           have HKN := hid hkn
           clear hkn
           have NW : Hid (∀ (w2 : World) (a b : Value), ((w2.alloc (.cells #[a, b] 71)).alloc (.cells #[a, b] 71)).heap[w2.heap.size + 1]? = some (.cells #[a, b] 71 (0, 0)) ∧ Below w2.heap.size w2 ((w2.alloc (.cells #[a, b] 71)).alloc (.cells #[a, b] 71))) := hid (fun w2 a b => ⟨by have := heap_alloc_new (w2.alloc (.cells #[a, b] 71)) (.cells #[a, b] 71); rwa [World.size_alloc] at this, (below_1 w2 _).trans ((below_1 _ _).mono (by simp))⟩)
           go_wp2_with (first
             | (at_builtin; refine wpList_appKd _ rfl _ _ rfl w.heap.size _ K rfl O4.out (w2.heap.size + 1) _ ⟨ynm, yfid⟩ rfl N4.out (by rw [HKN.out]; exact hkl) B4.out.size ?_; intro v9 w9 hown9 hgrow9; have B9 := hid (below_grownK B4.out O4.out (Nat.le_refl _) B4.out.size hgrow9); have O9 := hid hown9; obtain ⟨a9, c9, rfl⟩ := hown9.shape; clear hown9 hgrow9)
             | (go_at_call 118; refine (RK.out _ (HB.out.trans (C1.out.mono hbz))).mono ?_; rintro _ w2 ⟨y, rfl, hy, _, hb2⟩; have hy2 := hy k rfl; subst hy2; obtain ⟨ynm, yfid⟩ := k; obtain ⟨n4, b4⟩ := NW.out w2 (.string ynm) (.int .u32 yfid); have C4 := hid ((C1.out.trans (hb2.mono C1.out.size)).trans (b4.mono (Nat.le_trans C1.out.size hb2.size))); have N4 := hid n4; have O4 := hid (HO.out.later C4.out); have B4 := hid (HB.out.trans (C4.out.mono hbz)); clear hb2 hy n4 b4; simp only [Kd.val])
             | (go_at_call 43; refine CC.out.mono ?_; rintro _ w1 ⟨rfl, hb1⟩; have C1 := hid hb1; clear hb1))
           have hcx := HC.out
           have hgx := HGK.out
           go_roundg (if cb = true then r2.length + 1 else 0)
           case measure =>
             have := HMO.out
             cases cb with
             | true => have := this rfl; rw [if_pos rfl]; omega
             | false => rw [if_neg (by decide)]; omega
           case rel => exact ⟨r2, K ++ [⟨ynm, yfid⟩], cb, rfl, rfl, by have h1 := HKL.out; have h2 := HQ12.out; have h3 := HKN.out; rw [List.length_append, List.length_singleton]; omega, by omega, rfl, hid (by have h5 := O9.out; rw [List.length_append, List.length_singleton] at h5; exact h5), B9, HN2⟩
set_option maxHeartbeats 2000000 in
theorem kindOf_c (s : ByteArray) (w : World) :
   Calls Tryd.prog 74 #[.string s] w fun e w' => e = .returned (.tuple #[.int .u8 (kindP s.data.toList), .bool (kindP s.data.toList != 0)]) ∧ w' = w := by
 have WC := hid (fun k W => word_c k W)
 have HY : Hid (∀ k : Int, (k = 1 ∨ k = 2 ∨ k = 3) → (wordB k).data.toList = s.data.toList → kindP s.data.toList = k) := hid (fun k hk e => by rw [← e]; exact kind_word hk)
 have HN : Hid ((∀ j : Int, 1 ≤ j → j < 4 → (wordB j).data.toList ≠ s.data.toList) → kindP s.data.toList = 0) := hid (fun h => Classical.byContradiction fun q => by
   obtain ⟨h1, h2⟩ := kind_back q
   exact h (kindP s.data.toList) (by omega) (by omega) h1)
 generalize kindP s.data.toList = R at *
 go_enter Tryd.func74, Tryd.ntmps74
 go_wp2
 go_loopg [4] 3 (fun gk v4 wr => ∃ k : Nat, k + gk = 4 ∧ 1 ≤ k ∧ v4 = .int .u8 (k : Int) ∧ Hid (wr = w) ∧ Hid (∀ j : Int, 1 ≤ j → j < k → (wordB j).data.toList ≠ s.data.toList))
 case atStart => exact ⟨1, by omega, by omega, rfl, hid rfl, hid (fun j h1 h2 => by omega)⟩
 case round =>
   obtain ⟨k, hk, hk1, rfl, HW, HF⟩ := hrel
   have hwr := HW.out
   subst hwr
   by_cases h3 : k ≤ 3
   · have h3I : (k : Int) ≤ 3 := by omega
     have w1 : IntKind.u8.wrap ((k : Int) + 1) = ((k + 1 : Nat) : Int) := by rw [IntKind.wrap_u8]; omega
     obtain ⟨k2, hk2⟩ : ∃ k2 : Nat, k2 = k + 1 := ⟨_, rfl⟩
     rw [← hk2] at w1
     have HK2 := hid hk2
     clear hk2
     by_cases q : (wordB k).data.toList = s.data.toList
     · have qB : ((wordB k).toList == s.toList) = true := by rw [Lib.toList_data, Lib.toList_data, q]; simp
       have ER : Hid (R = (k : Int)) := hid (HY.out k (by omega) q)
       have ER2 : Hid ((R != 0) = true) := hid (by rw [ER.out, bne_iff_ne]; omega)
       clear q
       go_wp2_with (go_at_call 54; refine (WC.out _ _).mono ?_; rintro _ w1 ⟨rfl, rfl⟩)
       refine bodyPost_ret (v := .tuple #[.int .u8 (k : Int), .bool true]) (by simp [results, Tryd.results74, go_sem]) rfl ⟨by rw [ER2.out, ER.out], rfl⟩
     · have qB : ((wordB k).toList == s.toList) = false := by rw [Lib.toList_data, Lib.toList_data, beq_eq_false_iff_ne]; exact q
       have HQ := hid q
       clear q
       go_wp2_with (go_at_call 54; refine (WC.out _ _).mono ?_; rintro _ w1 ⟨rfl, rfl⟩)
       go_roundg (gk - 1)
       case measure => omega
       case rel => exact ⟨k2, by have := HK2.out; omega, by have := HK2.out; omega, rfl, hid rfl, hid (fun j h1 h2 => by
         by_cases e : j = k
         · rw [e]; exact HQ.out
         · exact HF.out j h1 (by have := HK2.out; omega))⟩
   · have h3I : ¬ (k : Int) ≤ 3 := by omega
     have ER : Hid (R = 0) := hid (HN.out (fun j h1 h2 => HF.out j h1 (by omega)))
     go_wp2
     refine bodyPost_ret (v := .tuple #[.int .u8 0, .bool false]) (by simp [results, Tryd.results74, go_sem]) rfl ⟨by rw [ER.out]; rfl, rfl⟩
def DaP (r : Option (List UInt8)) (w : World) (e : Ending) (w' : World) : Prop := (match r with
 | none => e = .returned (.tuple #[.slice none 0 0, .bool false])
 | some o => ∃ a n c, e = .returned (.tuple #[.slice a n c, .bool true]) ∧ n = (Fr.bs ⟨o.toArray⟩).length ∧ (a = none → c = 0) ∧ RowAt w' w.heap.size 5 a ((Fr.bs ⟨o.toArray⟩).map u8V)) ∧ Below w.heap.size w w'
theorem bs_len (s : ByteArray) : (Fr.bs s).length = s.size := by unfold Fr.bs; rw [List.length_map]; rfl
set_option maxHeartbeats 2000000 in
theorem readData_c (s : ByteArray) (w : World) (hs : s.size ≤ 10000000) :
   Calls Tryd.prog 98 #[.string s] w (DaP (unqL s.data.toList) w) := by
 have UC := hid (unquote_c s w (by omega))
 have hol : ∀ o, unqL s.data.toList = some o → o.length ≤ 10000000 := fun o h => by
   have := congrArg List.length (unq_back h)
   have h2 := (quote_len o).1
   have h3 : s.data.toList.length = s.size := rfl
   omega
 generalize unqL s.data.toList = r at *
 unfold UqP at UC
 unfold DaP
 cases r with
 | none =>
   simp only at UC ⊢
   go_enter Tryd.func98, Tryd.ntmps98
   go_wp2_with (go_at_call 9; refine UC.out.mono ?_; rintro _ w1 ⟨rfl, hb1⟩; have B1 := hid hb1; clear hb1)
   refine bodyPost_ret (v := .tuple #[.slice none 0 0, .bool false]) (by simp [results, Tryd.results98, go_sem]) rfl ⟨rfl, B1.out⟩
 | some o =>
   simp only at UC ⊢
   have hl := hol o rfl
   have BC := hid (fun W => bytesOf_c ⟨o.toArray⟩ W (by rw [ba_size]; omega))
   have BL := hid (bs_len ⟨o.toArray⟩)
   generalize (⟨o.toArray⟩ : ByteArray) = t at *
   generalize Fr.bs t = z at *
   clear hol hl
   go_enter Tryd.func98, Tryd.ntmps98
   go_wp2_with (first
     | (go_at_call 119; refine (BC.out _).mono ?_; rintro _ w2 ⟨rfl, hr2, hb2⟩; have R2 := hid hr2; have B2 := hid (B1.out.trans (hb2.mono B1.out.size)); clear hr2 hb2)
     | (go_at_call 9; refine UC.out.mono ?_; rintro _ w1 ⟨rfl, hb1⟩; have B1 := hid hb1; clear hb1))
   refine bodyPost_ret (v := .tuple #[.slice (some ⟨w1.heap.size, 0, none⟩) t.size t.size, .bool true]) (by simp [results, Tryd.results98, go_sem]) rfl ⟨⟨_, _, _, rfl, BL.out.symm, (fun e => by cases e), R2.out.lowR B1.out.size⟩, B2.out⟩
def InP (r : Option (List UInt8 × List Kd)) (w : World) (e : Ending) (w' : World) : Prop := (match r with
 | none => e = .returned (.tuple #[.slice none 0 0, .slice none 0 0, .bool false])
 | some i => ∃ a n c b m d, e = .returned (.tuple #[.slice a n c, .slice b m d, .bool true]) ∧ n = (Fr.bs ⟨i.1.toArray⟩).length ∧ m = i.2.length ∧ (a = none → c = 0) ∧ (b = none → d = 0) ∧ RowAt w' w.heap.size 5 a ((Fr.bs ⟨i.1.toArray⟩).map u8V) ∧ RowAt w' w.heap.size 71 b (kcells i.2)) ∧ Below w.heap.size w w'
theorem OwK.row {w : World} {base : Nat} {v : Value} {L : List Kd} (h : OwK w base v L) : ∃ a c, v = .slice a L.length c ∧ (a = none → c = 0) ∧ RowAt w base 71 a (kcells L) := by
 obtain ⟨a, c, rfl⟩ := h.shape
 refine ⟨a, c, rfl, ?_, RowAt.own h rfl (fun e => by rw [List.eq_nil_of_length_eq_zero e]; rfl)⟩
 rintro rfl
 rcases h.2 with ⟨e, e0⟩ | ⟨g, cap, cur, e, _⟩
 · simp only [Value.slice.injEq] at e; exact e.2.2
 · simp at e
set_option maxHeartbeats 2000000 in
theorem readInside_c (k : Int) (s : ByteArray) (w : World) (hs : s.size ≤ 10000000) (hm : MxW w) :
   Calls Tryd.prog 75 #[.int .u8 k, .string s] w (InP (inP k s.data.toList) w) := by
 by_cases q : k = 2
 · have KC := hid (readKids_c s w hs hm)
   have E : inP k s.data.toList = (kidsP s.data.toList).map fun l => ([], l) := by unfold inP; rw [if_pos q]
   rw [E]
   clear E
   generalize kidsP s.data.toList = r at *
   subst q
   unfold KsP at KC
   unfold InP
   cases r with
   | none =>
     simp only [Option.map_none] at KC ⊢
     go_enter Tryd.func75, Tryd.ntmps75
     go_wp2_with (go_at_call 97; refine KC.out.mono ?_; rintro _ w1 ⟨rfl, hb1⟩; have B1 := hid hb1; clear hb1)
     refine bodyPost_ret (v := .tuple #[.slice none 0 0, .slice none 0 0, .bool false]) (by simp [results, Tryd.results75, go_sem]) rfl ⟨rfl, B1.out⟩
   | some l =>
     simp only [Option.map_some] at KC ⊢
     go_enter Tryd.func75, Tryd.ntmps75
     go_wp2_with (go_at_call 97; refine KC.out.mono ?_; rintro _ w1 ⟨⟨v, rfl, ho⟩, hb1⟩; have B1 := hid hb1; obtain ⟨a1, c1, rfl, hn1, hr1⟩ := ho.row; have R1 := hid hr1; have N1 := hid hn1; clear hb1 ho hr1 hn1)
     refine bodyPost_ret (v := .tuple #[.slice none 0 0, .slice a1 l.length c1, .bool true]) (by simp [results, Tryd.results75, go_sem]) rfl ⟨⟨_, _, _, _, _, _, rfl, rfl, rfl, (fun _ => rfl), N1.out, .inl rfl, R1.out⟩, B1.out⟩
 · have DC := hid (readData_c s w hs)
   have E : inP k s.data.toList = (unqL s.data.toList).map fun o => (o, []) := by unfold inP; rw [if_neg q]
   rw [E]
   have qB : (k == 2) = false := beq_eq_false_iff_ne.2 q
   clear E hm
   generalize unqL s.data.toList = r at *
   unfold DaP at DC
   unfold InP
   cases r with
   | none =>
     simp only [Option.map_none] at DC ⊢
     go_enter Tryd.func75, Tryd.ntmps75
     go_wp2_with (go_at_call 98; refine DC.out.mono ?_; rintro _ w1 ⟨rfl, hb1⟩; have B1 := hid hb1; clear hb1)
     refine bodyPost_ret (v := .tuple #[.slice none 0 0, .slice none 0 0, .bool false]) (by simp [results, Tryd.results75, go_sem]) rfl ⟨rfl, B1.out⟩
   | some o =>
     simp only [Option.map_some] at DC ⊢
     go_enter Tryd.func75, Tryd.ntmps75
     go_wp2_with (go_at_call 98; refine DC.out.mono ?_; rintro _ w1 ⟨⟨a1, n1, c1, rfl, hl1, hn1, hr1⟩, hb1⟩; have B1 := hid hb1; have R1 := hid hr1; have N1 := hid hn1; have L1 := hid hl1; clear hb1 hr1 hn1 hl1)
     refine bodyPost_ret (v := .tuple #[.slice a1 n1 c1, .slice none 0 0, .bool true]) (by simp [results, Tryd.results75, go_sem]) rfl ⟨⟨_, _, _, _, _, _, rfl, L1.out, rfl, N1.out, (fun _ => rfl), R1.out, .inl rfl⟩, B1.out⟩
end Go.Proofs.YtkokjkaclcjnjaaDoor
