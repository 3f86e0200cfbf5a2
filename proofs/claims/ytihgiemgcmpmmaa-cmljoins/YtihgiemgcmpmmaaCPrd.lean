/-
  The PAIRs of a log, and what Optimise leaves: paired, Optimise of the package cml.
-/
import Derived.Test.YtihgiemgcmpmmaaCPair
namespace Go.Proofs.Ytihgiemgcmpmmaa
open Go.RowKit Go.ChangeShapes Go.WideShapes Go.ChangeAt Go.Maps Go.Shelf
set_option linter.unusedVariables false
set_option linter.unusedSimpArgs false
theorem Fr.trans {B P : Nat} {o : Obj} {w w1 w2 : World} (h : Fr B P o w w1) (h' : Fr B P o w1 w2) : Fr B P o w w2 := ⟨h.1.trans h'.1, h.2.1, h'.2.2⟩
theorem scanF_ge (l : List Rec) (g : Nat → Bool) (m : Rec) : ∀ f j, j ≤ (scanF l g m f j).1 ∧ ((scanF l g m f j).2 = true → (scanF l g m f j).1 < j + f)
  | 0, j => ⟨Nat.le_refl _, fun h => by cases h⟩
  | f + 1, j => by
    have ih := scanF_ge l g m f (j + 1)
    unfold scanF
    split
    · exact ⟨by omega, fun h => by have := ih.2 h; omega⟩
    · split
      · exact ⟨Nat.le_refl _, fun _ => by simp⟩
      · split
        · exact ⟨Nat.le_refl _, fun h => by cases h⟩
        · exact ⟨by omega, fun h => by have := ih.2 h; omega⟩
theorem scanG_bd {l : List Rec} {g : Nat → Bool} {m : Rec} {j : Nat} : j ≤ (scanG l g m j).1 ∧ ((scanG l g m j).2 = true → (scanG l g m j).1 < l.length) := by
  have h := scanF_ge l g m (l.length - j) j
  refine ⟨h.1, fun e => ?_⟩
  by_cases hj : j < l.length
  · have := h.2 e; unfold scanG at *; omega
  · rw [scanG_ge hj] at e; cases e
/-- Every maker looks on behind itself. -/
def NxOk (nx : Nat → Nat) : Prop := ∀ k, k < nx k
theorem NxOk.set {nx : Nat → Nat} (h : NxOk nx) {i v : Nat} (hv : nx i ≤ v) : NxOk (setN nx i v) := fun k => by
  unfold setN
  by_cases q : k = i
  · subst q; simp; have := h k; omega
  · simp [q]; exact h k
theorem pairF_ok (l : List Rec) (g : Nat → Bool) : ∀ f i nx, i + f = l.length → NxOk nx → NxOk (pairF l g f i nx).2 ∧ ∀ a b, (pairF l g f i nx).1 = some (a, b) → a < b ∧ b < l.length ∧ g a = false
  | 0, i, nx, _, hn => ⟨hn, fun a b e => by cases e⟩
  | f + 1, i, nx, hi, hn => by
    have hs := scanG_bd (l := l) (g := g) (m := l.getD i Rec.no) (j := nx i)
    unfold pairF
    split
    · exact pairF_ok l g f (i + 1) nx (by omega) hn
    · rename_i hc
      split
      · rename_i hf
        refine ⟨hn.set hs.1, fun a b e => ?_⟩
        simp only [Option.some.injEq, Prod.mk.injEq] at e
        obtain ⟨rfl, rfl⟩ := e
        have := hn i
        have := hs.1
        have := hs.2 hf
        simp at hc
        exact ⟨by omega, by omega, hc.1⟩
      · exact pairF_ok l g f (i + 1) _ (by omega) (hn.set hs.1)
theorem pairG_ok {l : List Rec} {g : Nat → Bool} {nx : Nat → Nat} (hn : NxOk nx) : NxOk (pairG l g 0 nx).2 ∧ ∀ a b, (pairG l g 0 nx).1 = some (a, b) → a < b ∧ b < l.length ∧ g a = false :=
  pairF_ok l g (l.length - 0) 0 nx (by omega) hn
/-- How many are left. -/
def cnt (g : Nat → Bool) : Nat → Nat
  | 0 => 0
  | m + 1 => cnt g m + if g m then 0 else 1
theorem cnt_le (g : Nat → Bool) : ∀ n, cnt g n ≤ n
  | 0 => Nat.le_refl _
  | m + 1 => by have := cnt_le g m; unfold cnt; split <;> omega
theorem cnt_mono {g g' : Nat → Bool} (h : ∀ k, g k = true → g' k = true) : ∀ n, cnt g' n ≤ cnt g n
  | 0 => Nat.le_refl _
  | m + 1 => by
    have ih := cnt_mono h m
    unfold cnt
    cases e : g m with
    | true => rw [h m e]; simp; omega
    | false => cases e' : g' m <;> simp <;> omega
theorem cnt_lt {g g' : Nat → Bool} (h : ∀ k, g k = true → g' k = true) {i : Nat} (h1 : g i = false) (h2 : g' i = true) : ∀ n, i < n → cnt g' n < cnt g n
  | 0, hi => by omega
  | m + 1, hi => by
    unfold cnt
    by_cases q : i = m
    · subst q
      have := cnt_mono h i
      rw [h1, h2]; simp; omega
    · have ih := cnt_lt h h1 h2 m (by omega)
      cases e : g m with
      | true => rw [h m e]; simp; omega
      | false => cases e' : g' m <;> simp <;> omega
/-- What the PAIRs of a log take out. -/
def pairedF (l : List Rec) : Nat → (Nat → Bool) → (Nat → Nat) → (Nat → Bool)
  | 0, g, _ => g
  | f + 1, g, nx => match pairG l g 0 nx with
    | (none, _) => g
    | (some (i, j), nx') => pairedF l f (outF l g i j j (l.getD i Rec.no).fid) nx'
def pairedG (l : List Rec) : Nat → Bool := pairedF l (l.length + 1) (fun _ => false) (fun i => i + 1)
/-- What Optimise leaves. -/
def neededF (l : List Rec) : List Rec := keepF (needF l) l l.length
def optF (l : List Rec) : List Rec := keepF (pairedG (neededF l)) (neededF l) (neededF l).length
set_option maxHeartbeats 1000000 in
theorem paired1_c (i : Nat) (P S G X : Nat) (a : Option Addr) (n cap : Nat) (g : Nat → Bool) (nx : Nat → Nat) (w : World) (hP : w.cell? ⟨P, 0, none⟩ = some (.pointer (some ⟨S, 0, none⟩))) (hS : Sr w S G X a n cap g nx) (hi : i < n) (hm : n ≤ 100000) :
    Calls Try.prog 35 #[.int .i64 i, .pointer (some ⟨P, 0, none⟩)] w fun e w' => e = .returned (.bool (g i)) ∧ w' = w := by
  obtain ⟨c0, c1, c2⟩ := hS.cells
  have k0 := hS.2.1.cell hi
  have hiI : (i : Int) < n := by omega
  clear hS
  go_enter Try.func35, Try.ntmps35
  go_wp2
  go_ret
  exact ⟨rfl, rfl⟩
set_option maxRecDepth 20000 in
set_option maxHeartbeats 4000000 in
theorem paired_c (a : Option Addr) (cap : Nat) (l : List Rec) (w : World) (h : IsL w a l) (hm : l.length ≤ 100000) :
    Calls Try.prog 20 #[.slice a l.length cap] w fun e w' => ∃ P, e = .returned (.func (.func 35) #[] #[.pointer (some ⟨P, 0, none⟩)]) ∧ (∃ S G X nx, w'.cell? ⟨P, 0, none⟩ = some (.pointer (some ⟨S, 0, none⟩)) ∧ Sr w' S G X a l.length cap (pairedG l) nx) ∧ Below w.heap.size w w' := by
  have HL := hid (fun W (hW : Below w.heap.size w W) => h.later hW)
  obtain ⟨R, hR⟩ : ∃ R, R = pairedG l := ⟨_, rfl⟩
  rw [← hR]
  have HR := hid hR
  have NC := hid (newSearch_c a l.length cap w hm)
  clear h hR
  go_enter Try.func20, Try.ntmps20
  go_wp2_with (go_at_call 33; refine NC.out.mono ?_; rintro _ w1 ⟨S, G, X, rfl, hS1, hbd, hb1⟩; have HS1 := hid hS1; have HB1 := hid hb1; clear hS1 hb1)
  have HP1 : Hid (Fr w.heap.size w1.heap.size (.cells #[.pointer (some ⟨S, 0, none⟩)] 74 (0, 0)) w (w1.alloc (.cells #[.pointer (some ⟨S, 0, none⟩)] 74))) := hid ⟨HB1.out.alloc HB1.out.size _, Nat.le_refl _, heap_alloc_new w1 _⟩
  have HS2 := hid (HS1.out.later ((Below.refl w1.heap.size w1).alloc (Nat.le_refl _) (.cells #[.pointer (some ⟨S, 0, none⟩)] 74)))
  have hGP : w1.heap.size ≠ G := by have := HS1.out.2.1.lt; omega
  have hXP : w1.heap.size ≠ X := by have := HS1.out.2.2.1.lt; omega
  clear NC HS1 HB1
  generalize w1.heap.size = P at *
  generalize w1.alloc (.cells #[.pointer (some ⟨S, 0, none⟩)] 74) = w2 at *
  go_loopg [] (l.length + 1) (fun k wy => ∃ (g : Nat → Bool) (nx : Nat → Nat), Hid (Sr wy S G X a l.length cap g nx) ∧ Hid (Fr w.heap.size P (.cells #[.pointer (some ⟨S, 0, none⟩)] 74 (0, 0)) w wy) ∧ Hid (NxOk nx ∧ cnt g l.length < k ∧ pairedF l k g nx = R))
  case atStart => exact ⟨_, _, HS2, HP1, hid ⟨fun k => Nat.lt_succ_self k, by have := cnt_le (fun _ => false) l.length; omega, HR.out.symm⟩⟩
  case round =>
    clear HS2 HP1
    obtain ⟨g, nx, HS, HF, HQ⟩ := hrel
    obtain ⟨g1, rfl⟩ : ∃ g1, gk = g1 + 1 := ⟨gk - 1, by have := HQ.out.2.1; omega⟩
    have PC := hid (pair_c w.heap.size S G X a cap l g nx wr HS.out hm (fun W hW => HL.out W (HF.out.1.trans hW)) (by omega) HF.out.1.size P _ HF.out.2.2 hXP)
    have HG := hid (pairG_ok (l := l) (g := g) HQ.out.1)
    have HU : Hid (pairedF l (g1 + 1) g nx = match pairG l g 0 nx with | (none, _) => g | (some (i, j), nx') => pairedF l g1 (outF l g i j j (l.getD i Rec.no).fid) nx') := hid rfl
    have hcell : wr.cell? ⟨P, 0, none⟩ = some (.pointer (some ⟨S, 0, none⟩)) := by rw [cell_of_row _ _ _ _ _ _ HF.out.2.2]; rfl
    rw [HQ.out.2.2] at HU
    rcases hp : pairG l g 0 nx with ⟨_ | ⟨i, j⟩, nx'⟩
    · rw [hp] at PC HU
      simp only [pairV] at PC
      go_wp2_with (go_at_call 34; refine PC.out.mono ?_; rintro _ w3 ⟨rfl, hS3, hF3⟩)
      go_ret
      refine ⟨P, rfl, ⟨S, G, X, nx', by rw [cell_of_row _ _ _ _ _ _ hF3.2.2]; rfl, ?_⟩, (HF.out.trans hF3).1⟩
      rw [HU.out]; exact hS3
    · rw [hp] at PC HU HG
      simp only [pairV] at PC
      obtain ⟨h1, h2, h3⟩ := HG.out.2 i j rfl
      have HG1 := hid HG.out.1
      have hI1 : (i : Int) < l.length := by omega
      obtain ⟨b, off, rfl, _⟩ := (HL.out wr HF.out.1).2.2 (by omega)
      have HRi := hid (fun W (hW : Below w.heap.size w W) => show W.cell? ⟨b, off + i * 9 + 1, none⟩ = some (.int .u32 (l.getD i Rec.no).fid) from (IsL.at (HL.out W hW) (i := i) (by omega)) 1 _ rfl)
      clear HG
      obtain ⟨f, hf⟩ : ∃ f, f = (l.getD i Rec.no).fid := ⟨_, rfl⟩
      have HU2 : Hid (R = pairedF l g1 (outF l g i j j (l.getD i Rec.no).fid) nx') := hid HU.out
      rw [← hf] at HRi HU2
      clear hf HU
      go_wp2_with (first
        | (go_at_call 36; refine TC.out.mono ?_; rintro _ w5 ⟨rfl, hS5, hF5⟩)
        | (go_at_call 34; refine PC.out.mono ?_; rintro _ w3 ⟨rfl, hS3, hF3⟩; have HS3 := hid hS3; have HF3 := hid (HF.out.trans hF3); clear hS3 hF3; have kf : w3.cell? ⟨b, off + i * 9 + 1, none⟩ = some (.int .u32 f) := HRi.out _ HF3.out.1; have hbO : Below w3.heap.size w3 (w3.alloc (.cells #[.int .u32 f] 43)) := (Below.refl _ _).alloc (Nat.le_refl _) _; have HF4 := hid (HF3.out.on hbO); have hc4 : (w3.alloc (.cells #[.int .u32 f] 43)).cell? ⟨P, 0, none⟩ = some (.pointer (some ⟨S, 0, none⟩)) := by (rw [cell_of_row _ _ _ _ _ _ HF4.out.2.2]; rfl)
           have TC := hid (takeOut_c w.heap.size S G X w3.heap.size (some ⟨b, off, none⟩) cap l g nx' i j f (w3.alloc (.cells #[.int .u32 f] 43)) (HS3.out.later hbO) hm (fun W hW => HL.out W (HF4.out.1.trans hW)) h1 h2 (by omega) HF4.out.1.size (heap_alloc_new w3 _) (by have := HS3.out.2.1.lt; omega) P _ HF4.out.2.2 hGP)
           clear hbO))
      have HX := hid (show ∀ k, g k = true → outF l g i j j f k = true from fun k hk => by unfold outF; rw [hk]; rfl)
      have HY : Hid (outF l g i j j f i = true) := hid (by unfold outF; simp)
      have HZ := hid (cnt_lt HX.out h3 HY.out l.length (by omega))
      go_roundg g1
      case measure => omega
      case rel => exact ⟨_, _, hid hS5, hid (HF4.out.trans hF5), hid ⟨HG1.out, by have := HQ.out.2.1; have := HZ.out; omega, HU2.out.symm⟩⟩
set_option maxRecDepth 20000 in
set_option maxHeartbeats 4000000 in
theorem optimise_c (a : Option Addr) (cap : Nat) (l : List Rec) (w : World) (h : IsL w a l) (hm : l.length ≤ 100000) :
    Calls Try.prog 9 #[.slice a l.length cap] w fun e w' => ∃ v, e = .returned v ∧ w'.ownsRow w.heap.size 49 9 v (optF l).length (rcells (optF l)) ∧ Below w.heap.size w w' := by
  have HN := hid (notNeeded_c a cap l w h hm)
  have HI := hid h
  have HK : Hid (optF l = keepF (pairedG (neededF l)) (neededF l) (neededF l).length) := hid rfl
  have HKL : Hid ((neededF l).length ≤ 100000) := hid (Nat.le_trans (keep_len _ _ _) hm)
  have HKW := hid (fun x (hx : x ∈ neededF l) => keep_wf (p := needF l) h.2.1 l.length (Nat.le_refl _) x hx)
  clear h
  go_enter Try.func9, Try.ntmps9
  go_wp2_with (go_at_call 19; refine HN.out.mono ?_; rintro _ w1 ⟨P1, P2, Mb, rfl, hc1, hc2, hM, hb1⟩)
  have HB1 := hid hb1
  have WC := hid (without_c a cap l w1 (HI.out.later hb1) hm 31 #[.pointer (some ⟨P1, 0, none⟩), .pointer (some ⟨P2, 0, none⟩)] (needF l) (enters_of Try.func31 (by kernel_rfl) rfl) (fun i W hi hW => notNeeded1_c a cap l i P1 P2 Mb W ((HI.out.later hb1).later hW) hm hi (cell_later hW hc1) (cell_later hW hc2) (hM.later hW)))
  clear HN hc1 hc2 hM hb1
  refine WC.out.mono ?_
  rintro _ w2 ⟨v2, rfl, hO2, hb2⟩
  change w2.ownsRow _ _ _ _ (neededF l).length (rcells (neededF l)) at hO2
  obtain ⟨a2, cap2, rfl, hI2, _, _⟩ := isL_own hO2 HKW.out
  have HB2 := hid (HB1.out.trans (hb2.mono HB1.out.size))
  have HI2 := hid hI2
  have PC := hid (paired_c a2 cap2 (neededF l) w2 hI2 HKL.out)
  clear WC hO2 hb2 hI2 HB1
  generalize neededF l = kl at *
  go_wp2_with (go_at_call 20; refine PC.out.mono ?_; rintro _ w3 ⟨P, rfl, ⟨S, G, X, nx, hcP, hS3⟩, hb3⟩)
  have HB3 := hid (HB2.out.trans (hb3.mono HB2.out.size))
  have WC := hid (without_c a2 cap2 kl w3 (HI2.out.later hb3) HKL.out 35 #[.pointer (some ⟨P, 0, none⟩)] (pairedG kl) (enters_of Try.func35 (by kernel_rfl) rfl) (fun i W hi hW => (paired1_c i P S G X a2 kl.length cap2 _ nx W (cell_later hW hcP) (hS3.later hW) hi HKL.out).mono fun e w' he => ⟨he.1, by rw [he.2]; exact Below.refl _ _⟩))
  clear PC hcP hS3 hb3
  refine WC.out.mono ?_
  rintro _ w4 ⟨v4, rfl, hO4, hb4⟩
  rw [← HK.out] at hO4
  have HO4 := hid (own_baseR hO4 HB3.out.size)
  have HB4 := hid (HB3.out.trans (hb4.mono HB3.out.size))
  clear WC hO4 hb4
  go_wp2
  go_ret
  exact ⟨_, rfl, HO4.out, HB4.out⟩
end Go.Proofs.Ytihgiemgcmpmmaa
