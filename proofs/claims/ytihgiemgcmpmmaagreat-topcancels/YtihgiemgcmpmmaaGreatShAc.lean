/-
  The PAIRs of a log, and what Optimise leaves: paired, Optimise of the package cml.
  Records compared: slices.Equal, Same, Clean of the package cml.
  live of the law on cml.
  The first records of a log and the others, as plain lists; few of the law on cml.
  The operations of a log: Ops of the package cml.
  What Optimise leaves, as plain lists: the PAIRs are taken out one by one, the first one first.
-/
import Derived.Test.YtihgiemgcmpmmaaGreatShAb
namespace Go.Proofs.YtihgiemgcmpmmaaGreat
open Go.RowKit Go.ChangeShapes Go.WideShapes Go.ChangeAt Go.Maps Go.Shelf
set_option linter.unusedVariables false
set_option linter.unusedSimpArgs false
theorem Fr.trans {B P : Nat} {o : Obj} {w w1 w2 : World} (h : Fr B P o w w1) (h' : Fr B P o w1 w2) : Fr B P o w w2 := ⟨h.1.trans h'.1, h.2.1, h'.2.2⟩
theorem scanF_ge (l : List Rec) (g : Nat → Bool) (m : Rec) : ∀ f j, j ≤ (scanF l g m f j).1 ∧ ((scanF l g m f j).2 = true → (scanF l g m f j).1 < j + f)
 | 0, j => ⟨Nat.le_refl _, fun h => by cases h⟩
 | f + 1, j => by
   have ih := scanF_ge l g m f (j + 1)
   unfold scanF
   split
   · exact ⟨by omega, fun h => by have := ih.2 h; omega⟩
   · split
     · exact ⟨Nat.le_refl _, fun _ => by simp⟩
     · split
       · exact ⟨Nat.le_refl _, fun h => by cases h⟩
       · exact ⟨by omega, fun h => by have := ih.2 h; omega⟩
theorem scanG_bd {l : List Rec} {g : Nat → Bool} {m : Rec} {j : Nat} : j ≤ (scanG l g m j).1 ∧ ((scanG l g m j).2 = true → (scanG l g m j).1 < l.length) := by
 have h := scanF_ge l g m (l.length - j) j
 refine ⟨h.1, fun e => ?_⟩
 by_cases hj : j < l.length
 · have := h.2 e; unfold scanG at *; omega
 · rw [scanG_ge hj] at e; cases e
def NxOk (nx : Nat → Nat) : Prop := ∀ k, k < nx k
theorem NxOk.set {nx : Nat → Nat} (h : NxOk nx) {i v : Nat} (hv : nx i ≤ v) : NxOk (setN nx i v) := fun k => by
 unfold setN
 by_cases q : k = i
 · subst q; simp; have := h k; omega
 · simp [q]; exact h k
theorem pairF_ok (l : List Rec) (g : Nat → Bool) : ∀ f i nx, i + f = l.length → NxOk nx → NxOk (pairF l g f i nx).2 ∧ ∀ a b, (pairF l g f i nx).1 = some (a, b) → a < b ∧ b < l.length ∧ g a = false
 | 0, i, nx, _, hn => ⟨hn, fun a b e => by cases e⟩
 | f + 1, i, nx, hi, hn => by
   have hs := scanG_bd (l := l) (g := g) (m := l.getD i Rec.no) (j := nx i)
   unfold pairF
   split
   · exact pairF_ok l g f (i + 1) nx (by omega) hn
   · rename_i hc
     split
     · rename_i hf
       refine ⟨hn.set hs.1, fun a b e => ?_⟩
       simp only [Option.some.injEq, Prod.mk.injEq] at e
       obtain ⟨rfl, rfl⟩ := e
       have := hn i
       have := hs.1
       have := hs.2 hf
       simp at hc
       exact ⟨by omega, by omega, hc.1⟩
     · exact pairF_ok l g f (i + 1) _ (by omega) (hn.set hs.1)
theorem pairG_ok {l : List Rec} {g : Nat → Bool} {nx : Nat → Nat} (hn : NxOk nx) : NxOk (pairG l g 0 nx).2 ∧ ∀ a b, (pairG l g 0 nx).1 = some (a, b) → a < b ∧ b < l.length ∧ g a = false :=
 pairF_ok l g (l.length - 0) 0 nx (by omega) hn
def cnt (g : Nat → Bool) : Nat → Nat
 | 0 => 0
 | m + 1 => cnt g m + if g m then 0 else 1
theorem cnt_le (g : Nat → Bool) : ∀ n, cnt g n ≤ n
 | 0 => Nat.le_refl _
 | m + 1 => by have := cnt_le g m; unfold cnt; split <;> omega
theorem cnt_mono {g g' : Nat → Bool} (h : ∀ k, g k = true → g' k = true) : ∀ n, cnt g' n ≤ cnt g n
 | 0 => Nat.le_refl _
 | m + 1 => by
   have ih := cnt_mono h m
   unfold cnt
   cases e : g m with
   | true => rw [h m e]; simp; omega
   | false => cases e' : g' m <;> simp <;> omega
theorem cnt_lt {g g' : Nat → Bool} (h : ∀ k, g k = true → g' k = true) {i : Nat} (h1 : g i = false) (h2 : g' i = true) : ∀ n, i < n → cnt g' n < cnt g n
 | 0, hi => by omega
 | m + 1, hi => by
   unfold cnt
   by_cases q : i = m
   · subst q
     have := cnt_mono h i
     rw [h1, h2]; simp; omega
   · have ih := cnt_lt h h1 h2 m (by omega)
     cases e : g m with
     | true => rw [h m e]; simp; omega
     | false => cases e' : g' m <;> simp <;> omega
def pairedF (l : List Rec) : Nat → (Nat → Bool) → (Nat → Nat) → (Nat → Bool)
 | 0, g, _ => g
 | f + 1, g, nx => match pairG l g 0 nx with
   | (none, _) => g
   | (some (i, j), nx') => pairedF l f (outF l g i j j (l.getD i Rec.no).fid) nx'
def pairedG (l : List Rec) : Nat → Bool := pairedF l (l.length + 1) (fun _ => false) (fun i => i + 1)
def neededF (l : List Rec) : List Rec := keepF (needF l) l l.length
def optF (l : List Rec) : List Rec := keepF (pairedG (neededF l)) (neededF l) (neededF l).length
set_option maxHeartbeats 1000000 in
theorem paired1_c (i : Nat) (P S G X : Nat) (a : Option Addr) (n cap : Nat) (g : Nat → Bool) (nx : Nat → Nat) (w : World) (hP : w.cell? ⟨P, 0, none⟩ = some (.pointer (some ⟨S, 0, none⟩))) (hS : Sr w S G X a n cap g nx) (hi : i < n) (hm : n ≤ 100000) :
   Calls Tryz.prog 48 #[.int .i64 i, .pointer (some ⟨P, 0, none⟩)] w fun e w' => e = .returned (.bool (g i)) ∧ w' = w := by
 obtain ⟨c0, c1, c2⟩ := hS.cells
 have k0 := hS.2.1.cell hi
 have hiI : (i : Int) < n := by omega
 clear hS
 go_enter Tryz.func48, Tryz.ntmps48
 go_wp2
 go_ret
 exact ⟨rfl, rfl⟩
set_option maxRecDepth 20000 in
set_option maxHeartbeats 4000000 in
theorem paired_c (a : Option Addr) (cap : Nat) (l : List Rec) (w : World) (h : IsL w a l) (hm : l.length ≤ 100000) :
   Calls Tryz.prog 25 #[.slice a l.length cap] w fun e w' => ∃ P, e = .returned (.func (.func 48) #[] #[.pointer (some ⟨P, 0, none⟩)]) ∧ (∃ S G X nx, w'.cell? ⟨P, 0, none⟩ = some (.pointer (some ⟨S, 0, none⟩)) ∧ Sr w' S G X a l.length cap (pairedG l) nx) ∧ Below w.heap.size w w' := by
 have HL := hid (fun W (hW : Below w.heap.size w W) => h.later hW)
 obtain ⟨R, hR⟩ : ∃ R, R = pairedG l := ⟨_, rfl⟩
 rw [← hR]
 have HR := hid hR
 have NC := hid (newSearch_c a l.length cap w hm)
 clear h hR
 go_enter Tryz.func25, Tryz.ntmps25
 go_wp2_with (go_at_call 46; refine NC.out.mono ?_; rintro _ w1 ⟨S, G, X, rfl, hS1, hbd, hb1⟩; have HS1 := hid hS1; have HB1 := hid hb1; clear hS1 hb1)
 have HP1 : Hid (Fr w.heap.size w1.heap.size (.cells #[.pointer (some ⟨S, 0, none⟩)] 96 (0, 0)) w (w1.alloc (.cells #[.pointer (some ⟨S, 0, none⟩)] 96))) := hid ⟨HB1.out.alloc HB1.out.size _, Nat.le_refl _, heap_alloc_new w1 _⟩
 have HS2 := hid (HS1.out.later ((Below.refl w1.heap.size w1).alloc (Nat.le_refl _) (.cells #[.pointer (some ⟨S, 0, none⟩)] 96)))
 have hGP : w1.heap.size ≠ G := by have := HS1.out.2.1.lt; omega
 have hXP : w1.heap.size ≠ X := by have := HS1.out.2.2.1.lt; omega
 clear NC HS1 HB1
 generalize w1.heap.size = P at *
 generalize w1.alloc (.cells #[.pointer (some ⟨S, 0, none⟩)] 96) = w2 at *
 go_loopg [] (l.length + 1) (fun k wy => ∃ (g : Nat → Bool) (nx : Nat → Nat), Hid (Sr wy S G X a l.length cap g nx) ∧ Hid (Fr w.heap.size P (.cells #[.pointer (some ⟨S, 0, none⟩)] 96 (0, 0)) w wy) ∧ Hid (NxOk nx ∧ cnt g l.length < k ∧ pairedF l k g nx = R))
 case atStart => exact ⟨_, _, HS2, HP1, hid ⟨fun k => Nat.lt_succ_self k, by have := cnt_le (fun _ => false) l.length; omega, HR.out.symm⟩⟩
 case round =>
   clear HS2 HP1
   obtain ⟨g, nx, HS, HF, HQ⟩ := hrel
   obtain ⟨g1, rfl⟩ : ∃ g1, gk = g1 + 1 := ⟨gk - 1, by have := HQ.out.2.1; omega⟩
   have PC := hid (pair_c w.heap.size S G X a cap l g nx wr HS.out hm (fun W hW => HL.out W (HF.out.1.trans hW)) (by omega) HF.out.1.size P _ HF.out.2.2 hXP)
   have HG := hid (pairG_ok (l := l) (g := g) HQ.out.1)
   have HU : Hid (pairedF l (g1 + 1) g nx = match pairG l g 0 nx with | (none, _) => g | (some (i, j), nx') => pairedF l g1 (outF l g i j j (l.getD i Rec.no).fid) nx') := hid rfl
   have hcell : wr.cell? ⟨P, 0, none⟩ = some (.pointer (some ⟨S, 0, none⟩)) := by rw [cell_of_row _ _ _ _ _ _ HF.out.2.2]; rfl
   rw [HQ.out.2.2] at HU
   rcases hp : pairG l g 0 nx with ⟨_ | ⟨i, j⟩, nx'⟩
   · rw [hp] at PC HU
     simp only [pairV] at PC
     go_wp2_with (go_at_call 47; refine PC.out.mono ?_; rintro _ w3 ⟨rfl, hS3, hF3⟩)
     go_ret
     refine ⟨P, rfl, ⟨S, G, X, nx', by rw [cell_of_row _ _ _ _ _ _ hF3.2.2]; rfl, ?_⟩, (HF.out.trans hF3).1⟩
     rw [HU.out]; exact hS3
   · rw [hp] at PC HU HG
     simp only [pairV] at PC
     obtain ⟨h1, h2, h3⟩ := HG.out.2 i j rfl
     have HG1 := hid HG.out.1
     have hI1 : (i : Int) < l.length := by omega
     obtain ⟨b, off, rfl, _⟩ := (HL.out wr HF.out.1).2.2 (by omega)
     have HRi := hid (fun W (hW : Below w.heap.size w W) => show W.cell? ⟨b, off + i * 9 + 1, none⟩ = some (.int .u32 (l.getD i Rec.no).fid) from (IsL.at (HL.out W hW) (i := i) (by omega)) 1 _ rfl)
     clear HG
     obtain ⟨f, hf⟩ : ∃ f, f = (l.getD i Rec.no).fid := ⟨_, rfl⟩
     have HU2 : Hid (R = pairedF l g1 (outF l g i j j (l.getD i Rec.no).fid) nx') := hid HU.out
     rw [← hf] at HRi HU2
     clear hf HU
     go_wp2_with (first
       | (go_at_call 49; refine TC.out.mono ?_; rintro _ w5 ⟨rfl, hS5, hF5⟩)
       | (go_at_call 47; refine PC.out.mono ?_; rintro _ w3 ⟨rfl, hS3, hF3⟩; have HS3 := hid hS3; have HF3 := hid (HF.out.trans hF3); clear hS3 hF3; have kf : w3.cell? ⟨b, off + i * 9 + 1, none⟩ = some (.int .u32 f) := HRi.out _ HF3.out.1; have hbO : Below w3.heap.size w3 (w3.alloc (.cells #[.int .u32 f] 31)) := (Below.refl _ _).alloc (Nat.le_refl _) _; have HF4 := hid (HF3.out.on hbO); have hc4 : (w3.alloc (.cells #[.int .u32 f] 31)).cell? ⟨P, 0, none⟩ = some (.pointer (some ⟨S, 0, none⟩)) := by (rw [cell_of_row _ _ _ _ _ _ HF4.out.2.2]; rfl)
          have TC := hid (takeOut_c w.heap.size S G X w3.heap.size (some ⟨b, off, none⟩) cap l g nx' i j f (w3.alloc (.cells #[.int .u32 f] 31)) (HS3.out.later hbO) hm (fun W hW => HL.out W (HF4.out.1.trans hW)) h1 h2 (by omega) HF4.out.1.size (heap_alloc_new w3 _) (by have := HS3.out.2.1.lt; omega) P _ HF4.out.2.2 hGP)
          clear hbO))
     have HX := hid (show ∀ k, g k = true → outF l g i j j f k = true from fun k hk => by unfold outF; rw [hk]; rfl)
     have HY : Hid (outF l g i j j f i = true) := hid (by unfold outF; simp)
     have HZ := hid (cnt_lt HX.out h3 HY.out l.length (by omega))
     go_roundg g1
     case measure => omega
     case rel => exact ⟨_, _, hid hS5, hid (HF4.out.trans hF5), hid ⟨HG1.out, by have := HQ.out.2.1; have := HZ.out; omega, HU2.out.symm⟩⟩
set_option maxRecDepth 20000 in
set_option maxHeartbeats 4000000 in
theorem optimise_c (a : Option Addr) (cap : Nat) (l : List Rec) (w : World) (h : IsL w a l) (hm : l.length ≤ 100000) :
   Calls Tryz.prog 8 #[.slice a l.length cap] w fun e w' => ∃ v, e = .returned v ∧ w'.ownsRow w.heap.size 37 9 v (optF l).length (rcells (optF l)) ∧ Below w.heap.size w w' := by
 have HN := hid (notNeeded_c a cap l w h hm)
 have HI := hid h
 have HK : Hid (optF l = keepF (pairedG (neededF l)) (neededF l) (neededF l).length) := hid rfl
 have HKL : Hid ((neededF l).length ≤ 100000) := hid (Nat.le_trans (keep_len _ _ _) hm)
 have HKW := hid (fun x (hx : x ∈ neededF l) => keep_wf (p := needF l) h.2.1 l.length (Nat.le_refl _) x hx)
 clear h
 go_enter Tryz.func8, Tryz.ntmps8
 go_wp2_with (go_at_call 24; refine HN.out.mono ?_; rintro _ w1 ⟨P1, P2, Mb, rfl, hc1, hc2, hM, hb1⟩)
 have HB1 := hid hb1
 have WC := hid (without_c a cap l w1 (HI.out.later hb1) hm 44 #[.pointer (some ⟨P1, 0, none⟩), .pointer (some ⟨P2, 0, none⟩)] (needF l) (enters_of Tryz.func44 (by kernel_rfl) rfl) (fun i W hi hW => notNeeded1_c a cap l i P1 P2 Mb W ((HI.out.later hb1).later hW) hm hi (cell_later hW hc1) (cell_later hW hc2) (hM.later hW)))
 clear HN hc1 hc2 hM hb1
 refine WC.out.mono ?_
 rintro _ w2 ⟨v2, rfl, hO2, hb2⟩
 change w2.ownsRow _ _ _ _ (neededF l).length (rcells (neededF l)) at hO2
 obtain ⟨a2, cap2, rfl, hI2, _, _⟩ := isL_own hO2 HKW.out
 have HB2 := hid (HB1.out.trans (hb2.mono HB1.out.size))
 have HI2 := hid hI2
 have PC := hid (paired_c a2 cap2 (neededF l) w2 hI2 HKL.out)
 clear WC hO2 hb2 hI2 HB1
 generalize neededF l = kl at *
 go_wp2_with (go_at_call 25; refine PC.out.mono ?_; rintro _ w3 ⟨P, rfl, ⟨S, G, X, nx, hcP, hS3⟩, hb3⟩)
 have HB3 := hid (HB2.out.trans (hb3.mono HB2.out.size))
 have WC := hid (without_c a2 cap2 kl w3 (HI2.out.later hb3) HKL.out 48 #[.pointer (some ⟨P, 0, none⟩)] (pairedG kl) (enters_of Tryz.func48 (by kernel_rfl) rfl) (fun i W hi hW => (paired1_c i P S G X a2 kl.length cap2 _ nx W (cell_later hW hcP) (hS3.later hW) hi HKL.out).mono fun e w' he => ⟨he.1, by rw [he.2]; exact Below.refl _ _⟩))
 clear PC hcP hS3 hb3
 refine WC.out.mono ?_
 rintro _ w4 ⟨v4, rfl, hO4, hb4⟩
 rw [← HK.out] at hO4
 have HO4 := hid (own_baseR hO4 HB3.out.size)
 have HB4 := hid (HB3.out.trans (hb4.mono HB3.out.size))
 clear WC hO4 hb4
 go_wp2
 go_ret
 exact ⟨_, rfl, HO4.out, HB4.out⟩
end Go.Proofs.YtihgiemgcmpmmaaGreat
namespace Go.Proofs.YtihgiemgcmpmmaaGreat
open Go.RowKit Go.ChangeShapes Go.WideShapes Go.ChangeAt Go.Maps Go.Shelf
set_option linter.unusedVariables false
set_option linter.unusedSimpArgs false
set_option maxRecDepth 100000
theorem IsL.wf {w : World} {a : Option Addr} {l : List Rec} (h : IsL w a l) {i : Nat} (hi : i < l.length) : (l.getD i Rec.no).Wf := by
 rw [List.getD, List.getElem?_eq_getElem hi]
 exact h.2.1 _ (List.getElem_mem _)
theorem opt_len (l : List Rec) : (optF l).length ≤ l.length := by
 have h1 := keep_len (pairedG (neededF l)) (neededF l) (neededF l).length
 have h2 := keep_len (needF l) l l.length
 unfold optF
 unfold neededF at h1 ⊢
 omega
theorem opt_wf {l : List Rec} (h : ∀ x ∈ l, x.Wf) : ∀ x ∈ optF l, x.Wf := fun x hx =>
 keep_wf (p := pairedG (neededF l)) (fun y hy => keep_wf (p := needF l) h l.length (Nat.le_refl _) y hy) _ (Nat.le_refl _) x hx
end Go.Proofs.YtihgiemgcmpmmaaGreat
namespace Go.Proofs.YtihgiemgcmpmmaaGreat
open Go.RowKit Go.ChangeShapes Go.WideShapes Go.ChangeAt Go.Maps Go.Shelf
set_option linter.unusedVariables false
set_option linter.unusedSimpArgs false
theorem take_one {l : List Rec} {m : Nat} (h : m < l.length) : l.take (m + 1) = l.take m ++ [l.getD m Rec.no] := by
 rw [List.take_add_one, List.getD, List.getElem?_eq_getElem h]; rfl
def ocells (l : List Rec) : List Value := l.flatMap Rec.ops
theorem ocells_snoc (l : List Rec) (x : Rec) : ocells (l ++ [x]) = ocells l ++ x.ops := by unfold ocells; simp
theorem op_news {w : World} {g : Nat} {x : Rec} {t : TypeId} {fr : Nat × Nat} (hb : w.heap[g]? = some (.cells x.ops.toArray t fr)) : ∀ j u, x.ops[j]? = some u → w.cell? ((⟨g, 0, none⟩ : Addr).add j) = some u := fun j u hu => by
 have e : (⟨g, 0, none⟩ : Addr).add j = ⟨g, 0 + j, none⟩ := by unfold Addr.add; split <;> simp_all
 rw [e, cell_of_row w g _ _ t fr hb]
 simpa using hu
theorem op_one (x : Rec) : ∀ u ∈ x.ops, u.oneCell' = true := fun u hu => by
 simp [Rec.ops] at hu
 rcases hu with rfl | rfl | rfl | rfl | rfl | rfl | rfl | rfl <;> rfl
theorem info_op : ∃ i : TypeInfo, Tryz.prog.info? 34 = some i ∧ i.zero = some Rec.no.opV ∧ i.size = 8 ∧ i.bytes = 80 := by
 have h : (Tryz.prog.info? 34).map (fun i => (i.zero, i.size, i.bytes)) = some (some Rec.no.opV, 8, 80) := by kernel_rfl
 cases hi : Tryz.prog.info? 34 with
 | none => rw [hi] at h; cases h
 | some i => rw [hi] at h; simp at h; exact ⟨i, rfl, h.1, h.2.1, h.2.2⟩
set_option maxRecDepth 20000 in
set_option maxHeartbeats 2000000 in
theorem ops_c (a : Option Addr) (cap : Nat) (l : List Rec) (w : World) (h : IsL w a l) (hm : l.length ≤ 100000) :
   Calls Tryz.prog 11 #[.slice a l.length cap] w fun e w' => ∃ v, e = .returned v ∧ w'.ownsRow w.heap.size 34 8 v l.length (ocells l) ∧ Below w.heap.size w w' := by
 have H := hid h
 obtain ⟨i0, hi, hz0, hz1, hz2⟩ := info_op
 clear h
 obtain ⟨n, hn⟩ : ∃ n, n = l.length := ⟨_, rfl⟩
 rw [← hn] at hm ⊢
 have HN := hid hn
 clear hn
 go_enter Tryz.func11, Tryz.ntmps11
 go_wp2
 go_loopw [3, 8] (fun v i wr => ∃ m : Nat, m ≤ n ∧ i = .int .i64 m ∧ Hid (wr.ownsRow w.heap.size 34 8 v m (ocells (l.take m))) ∧ Hid (Below w.heap.size w wr)) (fun _ i _ => (n - intOf i).toNat)
 case atStart => exact ⟨0, by omega, rfl, World.ownsRow_nil _ _ 34 8, Below.refl _ _⟩
 case round =>
   obtain ⟨m, hm2, rfl, HO, HB⟩ := hrel
   obtain ⟨va, vc, rfl⟩ := own_shapeR HO.out
   by_cases hlt : m < n
   · have hltI : (m : Int) < n := by omega
     obtain ⟨b, off, rfl, hc⟩ := H.out.2.2 (by rw [← HN.out]; omega)
     have hr := (hc m (by rw [← HN.out]; exact hlt)).later HB.out
     have HK := hid (take_one (l := l) (m := m) (by rw [← HN.out]; exact hlt))
     generalize l.getD m Rec.no = x at *
     have k0 : wr.cell? ⟨b, off + m * 9, none⟩ = some (.int .u8 x.k) := hr 0 _ rfl
     have k1 : wr.cell? ⟨b, off + m * 9 + 1, none⟩ = some (.int .u32 x.fid) := hr 1 _ rfl
     have k2 : wr.cell? ⟨b, off + m * 9 + 2, none⟩ = some (.int .u32 x.dir) := hr 2 _ rfl
     have k3 : wr.cell? ⟨b, off + m * 9 + 3, none⟩ = some (.string x.nm) := hr 3 _ rfl
     have k4 : wr.cell? ⟨b, off + m * 9 + 4, none⟩ = some (.int .u32 x.to) := hr 4 _ rfl
     have k5 : wr.cell? ⟨b, off + m * 9 + 5, none⟩ = some (.string x.nm2) := hr 5 _ rfl
     have k6 : wr.cell? ⟨b, off + m * 9 + 6, none⟩ = some (.int .u16 x.md) := hr 6 _ rfl
     have k7 : wr.cell? ⟨b, off + m * 9 + 7, none⟩ = some (.string x.dt) := hr 7 _ rfl
     have k8 : wr.cell? ⟨b, off + m * 9 + 8, none⟩ = some (.int .u64 x.sn) := hr 8 _ rfl
     clear hc hr
     have b1 : Below wr.heap.size wr (wr.alloc (.cells x.cells.toArray 37)) := (Below.refl _ _).alloc (Nat.le_refl _) _
     have s1 : (wr.alloc (.cells x.cells.toArray 37)).heap.size = wr.heap.size + 1 := by simp
     have O1 := own_latR HO.out b1
     have B1 := HB.out.trans (b1.mono HB.out.size)
     have b2 : Below (wr.alloc (.cells x.cells.toArray 37)).heap.size (wr.alloc (.cells x.cells.toArray 37)) ((wr.alloc (.cells x.cells.toArray 37)).alloc (.cells x.ops.toArray 34)) := (Below.refl _ _).alloc (Nat.le_refl _) _
     have O2 := hid (own_latR O1 b2)
     have B2 := hid (B1.trans (b2.mono B1.size))
     have h2 := heap_alloc_new (wr.alloc (.cells x.cells.toArray 37)) (.cells x.ops.toArray 34)
     rw [s1] at h2
     have N2 := hid h2
     clear b1 b2 O1 B1 h2 s1 HO
     go_wp2_with (at_builtin; refine wpList_append_own _ rfl _ _ 22 rfl w.heap.size 34 i0 Rec.no.opV 8 80 Tryz.underlying22 hi hz0 hz1 hz2 (by rfl) (by decide) _ _ _ rfl O2.out ⟨wr.heap.size + 1, 0, none⟩ 1 1 x.ops rfl rfl (op_news N2.out) (op_one x) (by unfold maxLen; omega) (by omega) B2.out.size ?_; intro v9 w9 hown9 hgrow9 hnil9)
     have HB9 := hid (below_grownR B2.out O2.out (Nat.le_refl _) B2.out.size hgrow9)
     have HO9 : Hid (w9.ownsRow w.heap.size 34 8 v9 (m + 1) (ocells (l.take (m + 1)))) := by
       show World.ownsRow _ _ _ _ _ _ _
       rw [HK.out, ocells_snoc]
       exact hown9
     obtain ⟨a9, c9, rfl⟩ := own_shapeR hown9
     clear hown9 hgrow9 hnil9
     go_roundw
     case rel => exact ⟨m + 1, by omega, by go_num, HO9, HB9⟩
     case measure => simp [intOf]; omega
   · have em : m = n := by omega
     subst em
     have hge : ¬ (m : Int) < m := by omega
     have ho := HO.out
     rw [HN.out, List.take_length, ← HN.out] at ho
     have HO2 := hid ho
     clear ho HO
     go_wp2
     go_ret
     exact ⟨_, rfl, HO2.out, HB.out⟩
def kF (l : List Rec) (g : Nat → Bool) : Nat → Nat → List Rec
 | 0, _ => []
 | f + 1, i => if g i then kF l g f (i + 1) else l.getD i Rec.no :: kF l g f (i + 1)
def kG (l : List Rec) (g : Nat → Bool) (i : Nat) : List Rec := kF l g (l.length - i) i
theorem kG_lt {l : List Rec} {g : Nat → Bool} {i : Nat} (h : i < l.length) : kG l g i = if g i then kG l g (i + 1) else l.getD i Rec.no :: kG l g (i + 1) := by
 unfold kG
 rw [show l.length - i = (l.length - (i + 1)) + 1 by omega]
 rfl
theorem kG_ge {l : List Rec} {g : Nat → Bool} {i : Nat} (h : ¬ i < l.length) : kG l g i = [] := by
 unfold kG
 rw [show l.length - i = 0 by omega]
 rfl
theorem kG_congr {l : List Rec} {g g' : Nat → Bool} : ∀ (d i : Nat), l.length - i = d → (∀ k, i ≤ k → k < l.length → g k = g' k) → kG l g i = kG l g' i
 | 0, i, hd, _ => by rw [kG_ge (by omega), kG_ge (by omega)]
 | d + 1, i, hd, h => by
   have ih := kG_congr d (i + 1) (by omega) (fun k hk hk2 => h k (by omega) hk2)
   rw [kG_lt (i := i) (by omega), kG_lt (g := g') (i := i) (by omega), ih, h i (Nat.le_refl _) (by omega)]
theorem keep_kG (l : List Rec) (g : Nat → Bool) : ∀ (d m : Nat), m + d = l.length → keepF g l l.length = keepF g l m ++ kG l g m
 | 0, m, h => by rw [kG_ge (by omega), List.append_nil, show m = l.length by omega]
 | d + 1, m, h => by
   have ih := keep_kG l g d (m + 1) (by omega)
   rw [ih, kG_lt (i := m) (by omega)]
   have e : keepF g l (m + 1) = if g m then keepF g l m else keepF g l m ++ [l.getD m Rec.no] := rfl
   rw [e]
   cases g m <;> simp only [Bool.false_eq_true, if_false, if_true, List.append_assoc, List.singleton_append]
theorem keep_all (l : List Rec) (g : Nat → Bool) : keepF g l l.length = kG l g 0 := by
 have := keep_kG l g l.length 0 (by omega)
 simpa [keepF] using this
theorem kG_none (l : List Rec) : ∀ (d i : Nat), l.length - i = d → kG l (fun _ => false) i = l.drop i
 | 0, i, hd => by rw [kG_ge (by omega), List.drop_eq_nil_of_le (by omega)]
 | d + 1, i, hd => by
   have ih := kG_none l d (i + 1) (by omega)
   rw [kG_lt (i := i) (by omega), ih, List.drop_eq_getElem_cons (i := i) (by omega)]
   simp [List.getD, show i < l.length by omega]
def endL (m : Rec) : List Rec → Option (List Rec)
 | [] => none
 | y :: t => if unmakesF y m then some t else if wayF y m then none else (endL m t).map (fun r => if touchF y m.fid then r else y :: r)
def onceL : List Rec → Option (List Rec)
 | [] => none
 | x :: t => match (if makesF x.k then endL x t else none) with
   | some r => some r
   | none => (onceL t).map (fun r => x :: r)
def itL : Nat → List Rec → List Rec
 | 0, L => L
 | f + 1, L => match onceL L with
   | none => L
   | some L' => itL f L'
theorem scan_end {l : List Rec} {g : Nat → Bool} {m : Rec} : ∀ (d j : Nat), l.length - j = d →
   ((scanG l g m j).2 = false → endL m (kG l g j) = none) ∧
   ((scanG l g m j).2 = true → ∀ g' : Nat → Bool, (∀ k, j ≤ k → k < l.length → g' k = (g k || k == (scanG l g m j).1 || (decide (k < (scanG l g m j).1) && touchF (l.getD k Rec.no) m.fid))) → endL m (kG l g j) = some (kG l g' j))
 | 0, j, hd => by
   rw [scanG_ge (by omega), kG_ge (by omega)]
   exact ⟨fun _ => rfl, fun h => by cases h⟩
 | d + 1, j, hd => by
   have ih := scan_end (l := l) (g := g) (m := m) d (j + 1) (by omega)
   have hj : j < l.length := by omega
   rw [scanG_lt hj, kG_lt hj]
   cases hg : g j with
   | true =>
     simp only [if_true]
     refine ⟨ih.1, fun h g' hg' => ?_⟩
     have e := hg' j (Nat.le_refl _) hj
     rw [hg] at e
     rw [ih.2 h g' (fun k hk hk2 => hg' k (by omega) hk2), kG_lt hj, e]
     simp
   | false =>
     simp only [Bool.false_eq_true, if_false]
     cases hu : unmakesF (l.getD j Rec.no) m with
     | true =>
       simp only [if_true]
       refine ⟨fun h => absurd h (by simp), fun _ g' hg' => ?_⟩
       have e := hg' j (Nat.le_refl _) hj
       rw [kG_lt hj, e]
       simp only [endL, hu, if_true, Bool.or_true, beq_self_eq_true, Bool.true_or]
       congr 1
       refine kG_congr _ _ rfl (fun k hk hk2 => ?_)
       have e2 := hg' k (by omega) hk2
       rw [e2]
       have h1 : (k == j) = false := by simp; omega
       have h2 : decide (k < j) = false := by simp; omega
       simp [h1, h2]
     | false =>
       simp only [Bool.false_eq_true, if_false]
       cases hv : wayF (l.getD j Rec.no) m with
       | true =>
         simp only [if_true]
         exact ⟨fun _ => by simp only [endL, hu, hv, Bool.false_eq_true, if_false, if_true], fun h => absurd h (by simp)⟩
       | false =>
         simp only [Bool.false_eq_true, if_false]
         refine ⟨fun h => by simp only [endL, hu, hv, ih.1 h, Bool.false_eq_true, if_false, Option.map_none], fun h g' hg' => ?_⟩
         have hs := (scanG_bd (l := l) (g := g) (m := m) (j := j + 1)).1
         have e := hg' j (Nat.le_refl _) hj
         have h1 : (j == (scanG l g m (j + 1)).1) = false := by simp; omega
         have h2 : decide (j < (scanG l g m (j + 1)).1) = true := by simp; omega
         rw [hg, h1, h2] at e
         simp only [Bool.or_false, Bool.true_and, Bool.false_or] at e
         simp only [endL, hu, hv, Bool.false_eq_true, if_false]
         rw [ih.2 h g' (fun k hk hk2 => hg' k (by omega) hk2), kG_lt hj, e]
         rfl
theorem scan_pass {l : List Rec} {g : Nat → Bool} {m : Rec} : ∀ (d j : Nat), l.length - j = d → ∀ k, j ≤ k → k < (scanG l g m j).1 → k < l.length → g k = false → unmakesF (l.getD k Rec.no) m = false ∧ wayF (l.getD k Rec.no) m = false
 | 0, j, hd, k, h1, h2, h3, h4 => by omega
 | d + 1, j, hd, k, h1, h2, h3, h4 => by
   have ih := scan_pass (l := l) (g := g) (m := m) d (j + 1) (by omega) k
   have hj : j < l.length := by omega
   rw [scanG_lt hj] at h2
   by_cases q : k = j
   · subst q
     rw [h4] at h2
     simp only [Bool.false_eq_true, if_false] at h2
     cases hu : unmakesF (l.getD k Rec.no) m with
     | true => rw [hu] at h2; simp at h2
     | false =>
       rw [hu] at h2
       simp only [Bool.false_eq_true, if_false] at h2
       cases hv : wayF (l.getD k Rec.no) m with
       | true => rw [hv] at h2; simp at h2
       | false => exact ⟨rfl, rfl⟩
   · cases hg : g j with
     | true => rw [hg] at h2; simp only [if_true] at h2; exact ih (by omega) h2 h3 h4
     | false =>
       rw [hg] at h2
       simp only [Bool.false_eq_true, if_false] at h2
       cases hu : unmakesF (l.getD j Rec.no) m with
       | true => rw [hu] at h2; simp at h2; omega
       | false =>
         rw [hu] at h2
         simp only [Bool.false_eq_true, if_false] at h2
         cases hv : wayF (l.getD j Rec.no) m with
         | true => rw [hv] at h2; simp at h2; omega
         | false => rw [hv] at h2; simp only [Bool.false_eq_true, if_false] at h2; exact ih (by omega) h2 h3 h4
theorem scan_skip {l : List Rec} {g : Nat → Bool} {m : Rec} : ∀ (d j : Nat) (j' : Nat), j' - j = d → j ≤ j' → j' ≤ l.length → (∀ k, j ≤ k → k < j' → g k = false → unmakesF (l.getD k Rec.no) m = false ∧ wayF (l.getD k Rec.no) m = false) → scanG l g m j = scanG l g m j'
 | 0, j, j', hd, h1, _, _ => by rw [show j = j' by omega]
 | d + 1, j, j', hd, h1, h2, h => by
   have ih := scan_skip (l := l) (g := g) (m := m) d (j + 1) j' (by omega) (by omega) h2 (fun k hk hk2 => h k (by omega) hk2)
   rw [scanG_lt (by omega), ih]
   cases hg : g j with
   | true => simp
   | false =>
     obtain ⟨hu, hv⟩ := h j (Nat.le_refl _) (by omega) hg
     simp only [hu, hv, Bool.false_eq_true, if_false]
theorem scan_le {l : List Rec} {g : Nat → Bool} {m : Rec} : ∀ (d j : Nat), l.length - j = d → j ≤ l.length → (scanG l g m j).1 ≤ l.length
 | 0, j, hd, h => by rw [scanG_ge (by omega)]; exact h
 | d + 1, j, hd, h => by
   have ih := scan_le (l := l) (g := g) (m := m) d (j + 1) (by omega) (by omega)
   rw [scanG_lt (by omega)]
   split
   · exact ih
   · split
     · exact h
     · split
       · exact h
       · exact ih
def NxInv (l : List Rec) (g : Nat → Bool) (nx : Nat → Nat) : Prop :=
 ∀ i, i < l.length → i < nx i ∧ nx i ≤ l.length ∧ ∀ k, i < k → k < nx i → g k = false → unmakesF (l.getD k Rec.no) (l.getD i Rec.no) = false ∧ wayF (l.getD k Rec.no) (l.getD i Rec.no) = false
theorem NxInv.mono {l : List Rec} {g g' : Nat → Bool} {nx : Nat → Nat} (h : NxInv l g nx) (hg : ∀ k, g k = true → g' k = true) : NxInv l g' nx := fun i hi => by
 obtain ⟨h1, h2, h3⟩ := h i hi
 refine ⟨h1, h2, fun k hk hk2 hk3 => h3 k hk hk2 ?_⟩
 cases e : g k with
 | false => rfl
 | true => rw [hg k e] at hk3; cases hk3
theorem NxInv.set {l : List Rec} {g : Nat → Bool} {nx : Nat → Nat} (h : NxInv l g nx) (i : Nat) (hi : i < l.length) : NxInv l g (setN nx i (scanG l g (l.getD i Rec.no) (nx i)).1) := fun j hj => by
 obtain ⟨h1, h2, h3⟩ := h j hj
 unfold setN
 by_cases q : j = i
 · subst q
   have hs := (scanG_bd (l := l) (g := g) (m := l.getD j Rec.no) (j := nx j)).1
   simp only [if_true]
   refine ⟨by omega, scan_le _ _ rfl h2, fun k hk hk2 hk3 => ?_⟩
   by_cases p : k < nx j
   · exact h3 k hk p hk3
   · have := scan_le (l := l) (g := g) (m := l.getD j Rec.no) _ _ rfl h2
     exact scan_pass _ _ rfl k (by omega) hk2 (by omega) hk3
 · simp only [q, if_false]
   exact ⟨h1, h2, h3⟩
theorem pairF_once {l : List Rec} {g : Nat → Bool} : ∀ (f i : Nat) (nx : Nat → Nat), i + f = l.length → NxInv l g nx →
   NxInv l g (pairF l g f i nx).2 ∧ ((pairF l g f i nx).1 = none → onceL (kG l g i) = none) ∧
   ∀ a b, (pairF l g f i nx).1 = some (a, b) → i ≤ a ∧ a < b ∧ onceL (kG l g i) = some (kG l (outF l g a b b (l.getD a Rec.no).fid) i)
 | 0, i, nx, hi, hn => by
   rw [kG_ge (by omega)]
   exact ⟨hn, fun _ => rfl, fun a b e => by cases e⟩
 | f + 1, i, nx, hi, hn => by
   have hil : i < l.length := by omega
   rw [kG_lt hil]
   unfold pairF
   cases hg : g i with
   | true =>
     simp only [Bool.true_or, if_true]
     obtain ⟨q1, q2, q3⟩ := pairF_once f (i + 1) nx (by omega) hn
     refine ⟨q1, q2, fun a b e => ?_⟩
     obtain ⟨r1, r0, r2⟩ := q3 a b e
     refine ⟨by omega, r0, ?_⟩
     rw [r2, kG_lt hil]
     have : outF l g a b b (l.getD a Rec.no).fid i = true := by unfold outF; rw [hg]; rfl
     rw [this, if_pos rfl]
   | false =>
     simp only [Bool.false_or, Bool.false_eq_true, if_false]
     have hout : ∀ a b, i < a → a < b → outF l g a b b (l.getD a Rec.no).fid i = false := fun a b h0 h3 => by
       unfold outF
       rw [hg]
       have h1 : (i == a) = false := by simp; omega
       have h2 : decide (a < i) = false := by simp; omega
       have h4 : (i == b) = false := by simp; omega
       simp [h1, h2, h4]
     cases hm : makesF (l.getD i Rec.no).k with
     | false =>
       simp only [Bool.not_false, if_true]
       obtain ⟨q1, q2, q3⟩ := pairF_once f (i + 1) nx (by omega) hn
       refine ⟨q1, fun e => by simp only [onceL, hm, q2 e, Bool.false_eq_true, if_false, Option.map_none], fun a b e => ?_⟩
       obtain ⟨r1, r0, r2⟩ := q3 a b e
       refine ⟨by omega, r0, ?_⟩
       simp only [onceL, hm, Bool.false_eq_true, if_false, r2, Option.map_some]
       rw [kG_lt hil, hout a b (by omega) r0]; simp
     | true =>
       simp only [Bool.not_true, Bool.false_eq_true, if_false]
       obtain ⟨n1, n2, n3⟩ := hn i hil
       have hsk := scan_skip (l := l) (g := g) (m := l.getD i Rec.no) _ (i + 1) (nx i) rfl (by omega) n2 (fun k hk hk2 hk3 => n3 k (by omega) hk2 hk3)
       have hse := scan_end (l := l) (g := g) (m := l.getD i Rec.no) _ (i + 1) rfl
       rw [hsk] at hse
       have hst := hn.set i hil
       have hbd := scanG_bd (l := l) (g := g) (m := l.getD i Rec.no) (j := nx i)
       generalize hsc : scanG l g (l.getD i Rec.no) (nx i) = sc at *
       obtain ⟨j, fnd⟩ := sc
       cases fnd with
       | true =>
         simp only [if_true]
         refine ⟨hst, fun e => absurd e (by simp), fun a b e => ?_⟩
         simp only [Option.some.injEq, Prod.mk.injEq] at e
         obtain ⟨rfl, rfl⟩ := e
         have hlt : i < j := by have := hbd.1; simp only at this; omega
         refine ⟨Nat.le_refl _, hlt, ?_⟩
         have he := hse.2 rfl (outF l g i j j (l.getD i Rec.no).fid) (fun k hk hk2 => by
           have h1 : (k == i) = false := by simp; omega
           have h2 : decide (i < k) = true := by simp; omega
           unfold outF
           simp only [h1, h2, Bool.or_false, Bool.true_and])
         simp only [onceL, hm, if_true, he]
         rw [kG_lt hil]
         have : outF l g i j j (l.getD i Rec.no).fid i = true := by unfold outF; simp
         rw [this, if_pos rfl]
       | false =>
         simp only [Bool.false_eq_true, if_false]
         have he := hse.1 rfl
         obtain ⟨q1, q2, q3⟩ := pairF_once f (i + 1) (setN nx i j) (by omega) hst
         refine ⟨q1, fun e => by simp only [onceL, hm, he, if_true, q2 e, Option.map_none], fun a b e => ?_⟩
         obtain ⟨r1, r0, r2⟩ := q3 a b e
         refine ⟨by omega, r0, ?_⟩
         simp only [onceL, hm, if_true, he, r2, Option.map_some]
         rw [kG_lt hil, hout a b (by omega) r0]; simp
theorem paired_it {l : List Rec} : ∀ (f : Nat) (g : Nat → Bool) (nx : Nat → Nat), NxInv l g nx → kG l (pairedF l f g nx) 0 = itL f (kG l g 0)
 | 0, g, nx, _ => rfl
 | f + 1, g, nx, h => by
   obtain ⟨q1, q2, q3⟩ := pairF_once (l := l) (g := g) (l.length - 0) 0 nx (by omega) h
   unfold pairedF itL pairG
   rcases hp : pairF l g (l.length - 0) 0 nx with ⟨_ | ⟨i, j⟩, nx'⟩
   · rw [hp] at q2
     rw [q2 rfl]
   · rw [hp] at q1 q3
     obtain ⟨_, _, r2⟩ := q3 i j rfl
     rw [r2]
     exact paired_it f _ nx' (q1.mono (fun k hk => by unfold outF; rw [hk]; rfl))
theorem opt_it (l : List Rec) : optF l = itL ((neededF l).length + 1) (neededF l) := by
 unfold optF
 rw [keep_all]
 unfold pairedG
 rw [paired_it _ _ _ (fun i hi => ⟨by omega, by omega, fun k hk hk2 => by omega⟩), kG_none _ _ 0 rfl]
 rfl
theorem endL_sub {m : Rec} : ∀ (t r : List Rec), endL m t = some r → r.Sublist t
 | [], r, h => by cases h
 | y :: t, r, h => by
   unfold endL at h
   split at h
   · cases h; exact List.sublist_cons_self _ _
   · split at h
     · cases h
     · cases he : endL m t with
       | none => rw [he] at h; cases h
       | some r' =>
         have ih := endL_sub t r' he
         rw [he] at h
         simp only [Option.map_some, Option.some.injEq] at h
         subst h
         split
         · exact ih.trans (List.sublist_cons_self _ _)
         · exact ih.cons_cons _
theorem once_sub : ∀ (L r : List Rec), onceL L = some r → r.Sublist L
 | [], r, h => by cases h
 | x :: t, r, h => by
   unfold onceL at h
   split at h
   · rename_i r' he
     simp only [Option.some.injEq] at h
     subst h
     split at he
     · exact (endL_sub t _ he).trans (List.sublist_cons_self _ _)
     · cases he
   · cases he : onceL t with
     | none => rw [he] at h; cases h
     | some r' =>
       have ih := once_sub t r' he
       rw [he] at h
       simp only [Option.map_some, Option.some.injEq] at h
       subst h
       exact ih.cons_cons _
def anewF (x : Rec) (t : List Rec) : Bool := setsF x.k && t.any (fun y => y.k == x.k && y.fid == x.fid)
def needL : List Rec → List Rec
 | [] => []
 | x :: t => if anewF x t then needL t else x :: needL t
theorem lastF_gt (l : List Rec) (k f : Int) (i : Nat) : ∀ m, (i < lastF l k f m) = ∃ j, i < j ∧ j < m ∧ (l.getD j Rec.no).k = k ∧ (l.getD j Rec.no).fid = f
 | 0 => by simp [lastF]
 | m + 1 => by
   have ih := lastF_gt l k f i m
   unfold lastF
   apply propext
   by_cases q : (l.getD m Rec.no).k = k ∧ (l.getD m Rec.no).fid = f
   · rw [if_pos q]
     constructor
     · intro h; exact ⟨m, h, by omega, q⟩
     · rintro ⟨j, h1, h2, _⟩; omega
   · rw [if_neg q, ih]
     constructor
     · rintro ⟨j, h1, h2, h3⟩; exact ⟨j, h1, by omega, h3⟩
     · rintro ⟨j, h1, h2, h3⟩
       refine ⟨j, h1, ?_, h3⟩
       by_cases e : j = m
       · subst e; exact absurd h3 q
       · omega
theorem need_anew (l : List Rec) (i : Nat) (hi : i < l.length) : needF l i = anewF (l.getD i Rec.no) (l.drop (i + 1)) := by
 unfold needF anewF
 congr 1
 rw [Bool.eq_iff_iff]
 simp only [decide_eq_true_eq, lastF_gt, List.any_eq_true, Bool.and_eq_true, beq_iff_eq]
 constructor
 · rintro ⟨j, h1, h2, h3, h4⟩
   refine ⟨l.getD j Rec.no, ?_, h3, h4⟩
   have e : l.getD j Rec.no = l[j] := by simp [List.getD, h2]
   rw [e]
   have : l[j] = (l.drop (i + 1))[j - (i + 1)]'(by rw [List.length_drop]; omega) := by
     rw [List.getElem_drop]; congr 1; omega
   rw [this]; exact List.getElem_mem _
 · rintro ⟨y, hy, h3, h4⟩
   obtain ⟨j, hj, rfl⟩ := List.getElem_of_mem hy
   rw [List.length_drop] at hj
   have e : l.getD (i + 1 + j) Rec.no = (l.drop (i + 1))[j]'(by rw [List.length_drop]; omega) := by
     rw [List.getElem_drop]; simp [List.getD, show i + 1 + j < l.length by omega]
   exact ⟨i + 1 + j, by omega, by omega, by rw [e]; exact h3, by rw [e]; exact h4⟩
theorem kG_need (l : List Rec) : ∀ (d i : Nat), l.length - i = d → kG l (needF l) i = needL (l.drop i)
 | 0, i, hd => by rw [kG_ge (by omega), List.drop_eq_nil_of_le (by omega)]; rfl
 | d + 1, i, hd => by
   have ih := kG_need l d (i + 1) (by omega)
   have hi : i < l.length := by omega
   have e : l.drop i = l.getD i Rec.no :: l.drop (i + 1) := by rw [List.drop_eq_getElem_cons hi]; simp [List.getD, hi]
   rw [kG_lt hi, ih, need_anew l i hi, e]
   rfl
theorem needed_L (l : List Rec) : neededF l = needL l := by
 unfold neededF
 rw [keep_all, kG_need l _ 0 rfl]; rfl
end Go.Proofs.YtihgiemgcmpmmaaGreat
