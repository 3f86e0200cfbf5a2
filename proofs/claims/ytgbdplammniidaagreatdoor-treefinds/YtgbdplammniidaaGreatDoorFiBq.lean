/-
  Rows of fids as arrays: what the sort's plain functions say of them.
  insertionSortOrdered of a part of a row of fids.
  siftDownOrdered, heapSortOrdered of a part of a row of fids.
  heapSortOrdered of a part of a row of fids.
-/
import Derived.Test.YtgbdplammniidaaGreatDoorFiAa
import Derived.Sort.LotA
import Derived.Sort.LotB
import Derived.Sort.LotC
import Derived.Sort.LotD2
namespace Go.Proofs.YtgbdplammniidaaGreatDoor
open Go.RowKit Go.ChangeShapes Go.WideShapes Go.ChangeAt
set_option linter.unusedVariables false
set_option linter.unusedSimpArgs false
set_option maxRecDepth 100000
open Go.Sort (swp ltInt PermIn SortedIn)
def ft (d : Array Int) (i : Nat) : Int := d[i]!
theorem ltI_eq (d : Array Int) (i j : Nat) : ltInt d[i]! d[j]! = decide (ft d i < ft d j) := rfl
def Fa (w : World) (g n : Nat) (d : Array Int) : Prop := d.size = n ∧ FidsAt w g n (ft d)
theorem Fa.size {w : World} {g n : Nat} {d : Array Int} (h : Fa w g n d) : d.size = n := h.1
theorem Fa.lt {w : World} {g n : Nat} {d : Array Int} (h : Fa w g n d) : g < w.heap.size := h.2.lt
theorem Fa.cell {w : World} {g n : Nat} {d : Array Int} (h : Fa w g n d) {j : Nat} (hj : j < n) : w.cell? ⟨g, j, none⟩ = some (.int .u32 (ft d j)) ∧ w.frozen? ⟨g, j, none⟩ = false := h.2.cell hj
theorem Fa.drewN {w : World} {g n : Nat} {d : Array Int} (h : Fa w g n d) (k : Nat) : Fa (w.drewN k) g n d := ⟨h.1, h.2.drewN k⟩
theorem Fa.drew {w : World} {g n : Nat} {d : Array Int} (h : Fa w g n d) : Fa w.drew g n d := ⟨h.1, h.2.drew⟩
theorem Fa.out {S : Nat → Prop} {w w' : World} {g n : Nat} {d : Array Int} (h : Fa w g n d) (ho : Ou S w w') (hg : ¬ S g) : Fa w' g n d := ⟨h.1, h.2.out ho hg⟩
theorem Fa.swp {w : World} {g n : Nat} {d : Array Int} (h : Fa w g n d) {i j : Nat} (hi : i < n) (hj : j < n) : Fa ((w.setCell ⟨g, i, none⟩ (.int .u32 (ft d j))).setCell ⟨g, j, none⟩ (.int .u32 (ft d i))) g n (swp d i j) := by
 obtain ⟨h1, h2⟩ := h
 refine ⟨by rw [Go.Sort.size_swp]; exact h1, ((h2.set hi (ft d j)).set hj (ft d i)).ext (fun k hk => ?_)⟩
 have e := Go.Sort.swp_get d (i := i) (j := j) (by omega) (by omega) k
 show (Go.Sort.swp d i j)[k]! = _
 rw [e]
 by_cases q1 : k = j
 · simp [q1, ft]
 · by_cases q2 : k = i
   · simp [q1, q2, ft]
   · simp [q1, q2, ft]
theorem Fa.swp' {w : World} {g n : Nat} {d : Array Int} (h : Fa w g n d) {i j : Nat} (hi : i < n) (hj : j < n) : Fa ((w.setCell ⟨g, i, none⟩ (.int .u32 (ft d j))).setCell ⟨g, j, none⟩ (.int .u32 (ft d i))).drew g n (Go.Sort.swp d i j) := (h.swp hi hj).drew
theorem Ou.swp' {w w0 : World} {g : Nat} (h : Ou (fun k => k = g) w0 w) (i j : Nat) (x y : Value) : Ou (fun k => k = g) w0 ((w.setCell ⟨g, i, none⟩ x).setCell ⟨g, j, none⟩ y).drew := ((h.set rfl).set rfl).drew
end Go.Proofs.YtgbdplammniidaaGreatDoor
namespace Go.Proofs.YtgbdplammniidaaGreatDoor
open Go.RowKit Go.ChangeShapes Go.WideShapes Go.ChangeAt
set_option linter.unusedVariables false
set_option linter.unusedSimpArgs false
set_option maxRecDepth 100000
open Go.Sort (ltInt insInner insOuter)
theorem insInner_step {a j : Nat} {d : Array Int} (h : a < j) (hl : ft d j < ft d (j - 1)) : insInner ltInt a j d = insInner ltInt a (j - 1) (Go.Sort.swp d j (j - 1)) := by
 obtain ⟨k, rfl⟩ : ∃ k, j = k + 1 := ⟨j - 1, by omega⟩
 simp only [Nat.add_sub_cancel] at hl ⊢
 rw [insInner, ltI_eq, decide_eq_true hl]
 simp [h]
theorem insInner_stop {a j : Nat} {d : Array Int} (h : j ≤ a ∨ ¬ ft d j < ft d (j - 1)) : insInner ltInt a j d = d := by
 cases j with
 | zero => rfl
 | succ k =>
   simp only [Nat.add_sub_cancel] at h
   rw [insInner, ltI_eq]
   rcases h with h | h
   · simp; omega
   · simp [h]
theorem insOuter_step {a b i : Nat} {d : Array Int} (h : i < b) : insOuter ltInt a b i d = insOuter ltInt a b (i + 1) (insInner ltInt a i d) := by
 rw [insOuter, if_pos h]
theorem insOuter_stop {a b i : Nat} {d : Array Int} (h : ¬ i < b) : insOuter ltInt a b i d = d := by
 rw [insOuter, if_neg h]
def FaP (g n : Nat) (d' : Array Int) (w : World) (e : Ending) (w' : World) : Prop := e = .returned (.tuple #[]) ∧ Fa w' g n d' ∧ Ou (fun k => k = g) w w'
set_option maxHeartbeats 4000000 in
theorem insA_c (g n cap a b : Nat) (d : Array Int) (w : World) (h : Fa w g n d) (hn : n ≤ 40) (hcap : n ≤ cap) (hab : a ≤ b) (hb : b ≤ n) :
   Calls Tryz.prog 120 #[.slice (some ⟨g, 0, none⟩) n cap, .int .i64 a, .int .i64 b] w (FaP g n (Go.Sort.insertionSort ltInt d a b) w) := by
 have H0 := hid h
 clear h
 have E0 : Hid (insOuter ltInt a b (a + 1) d = Go.Sort.insertionSort ltInt d a b) := hid rfl
 generalize Go.Sort.insertionSort ltInt d a b = D at *
 go_enter Tryz.func120, Tryz.ntmps120
 go_wp2
 go_loopw [6] (fun v6 wr => ∃ (i : Nat) (d' : Array Int), a + 1 ≤ i ∧ (i ≤ b ∨ i = a + 1) ∧ v6 = .int .i64 i ∧ Hid (Fa wr g n d') ∧ Hid (insOuter ltInt a b i d' = D) ∧ Hid (Ou (fun k => k = g) w wr)) (fun i _ => (42 - intOf i).toNat)
 case atStart => exact ⟨a + 1, d, by omega, by omega, by go_num, H0, E0, hid (Ou.refl _ _)⟩
 case round =>
   obtain ⟨i, d', hi1, hin, rfl, FX, SX, OX⟩ := hrel
   obtain ⟨wo, hwo⟩ : ∃ wo, wo = wr := ⟨_, rfl⟩
   subst hwo
   by_cases hlt : i < b
   · have hltI : (i : Int) < (b : Int) := by omega
     have NS : Hid (insOuter ltInt a b (i + 1) (insInner ltInt a i d') = D) := hid ((insOuter_step hlt).symm.trans SX.out)
     go_wp2
     go_loopw [7] (fun v7 wx => ∃ (j : Nat) (f' : Array Int), a ≤ j ∧ j ≤ i ∧ v7 = .int .i64 j ∧ Hid (Fa wx g n f') ∧ Hid (insOuter ltInt a b (i + 1) (insInner ltInt a j f') = D) ∧ Hid (Ou (fun k => k = g) w wx)) (fun j _ => (intOf j).toNat)
     case atStart => exact ⟨i, d', by omega, by omega, rfl, FX, NS, OX⟩
     case round =>
       obtain ⟨j, f', hja, hj, rfl, FY, SY, OY⟩ := hrel
       have FZ : Hid (∀ k, Fa (wr.drewN k) g n f') := hid (fun k => FY.out.drewN k)
       have OZ : Hid (∀ k, Ou (fun k => k = g) w (wr.drewN k)) := hid (fun k => OY.out.drewN k)
       by_cases h0 : a < j
       · have h0I : (a : Int) < (j : Int) := by omega
         have hjn : (j : Int) < (n : Int) := by omega
         have hj1 : (j : Int) - 1 = ((j - 1 : Nat) : Int) := by omega
         have hj1n : ((j - 1 : Nat) : Int) < (n : Int) := by omega
         obtain ⟨c1, z1⟩ := FY.out.cell (j := j) (by omega)
         obtain ⟨c2, z2⟩ := FY.out.cell (j := j - 1) (by omega)
         by_cases hls : ft f' j < ft f' (j - 1)
         · have hld : decide (ft f' j < ft f' (j - 1)) = true := decide_eq_true hls
           go_wp2_with fail
           go_quiet ((go_at_call 126; exact Calls.quiet_of_same (lessF_c _ _ _)))
           go_wp2_with fail
           have FW := hid (FZ.out nq)
           have OW := hid (OZ.out nq)
           generalize wr.drewN nq = W at *
           obtain ⟨c1', z1'⟩ := FW.out.cell (j := j) (by omega)
           obtain ⟨c2', z2'⟩ := FW.out.cell (j := j - 1) (by omega)
           clear c1 c2 z1 z2 FZ OZ
           have hjne : ¬ j = j - 1 := by omega
           have hjne' : ¬ j - 1 = j := by omega
           go_region
           have F9 := hid (FW.out.swp' (i := j) (j := j - 1) (by omega) (by omega))
           have O9 := hid (OW.out.swp' j (j - 1) (.int .u32 (ft f' (j - 1))) (.int .u32 (ft f' j)))
           have S9 : Hid (insOuter ltInt a b (i + 1) (insInner ltInt a (j - 1) (Go.Sort.swp f' j (j - 1))) = D) := hid (by rw [← insInner_step h0 hls]; exact SY.out)
           clear c1' c2' z1' z2'
           go_wp2
           go_roundw
           case rel => exact ⟨j - 1, _, by omega, by omega, by first | rfl | go_num, F9, S9, O9⟩
           case measure => simp [intOf]; omega
         · have hld : decide (ft f' j < ft f' (j - 1)) = false := decide_eq_false hls
           have UE : Hid (insOuter ltInt a b (i + 1) f' = D) := hid (by rw [← SY.out, insInner_stop (.inr hls)])
           go_wp2_with fail
           go_quiet ((go_at_call 126; exact Calls.quiet_of_same (lessF_c _ _ _)))
           go_wp2
           go_roundw
           case rel => exact ⟨i + 1, f', by omega, by omega, by go_num, hid (FZ.out _), UE, hid (OZ.out _)⟩
           case measure => simp [intOf]; omega
       · obtain rfl : j = a := by omega
         have UE : Hid (insOuter ltInt j b (i + 1) f' = D) := hid (by rw [← SY.out, insInner_stop (.inl (Nat.le_refl _))])
         have hd0 : decide ((j : Int) < (j : Int)) = false := by simp
         go_wp2_with fail
         go_quiet (fail)
         go_wp2
         go_roundw
         case rel => exact ⟨i + 1, f', by omega, by omega, by go_num, hid (FZ.out _), UE, hid (OZ.out _)⟩
         case measure => simp [intOf]; omega
   · have hltI : ¬ (i : Int) < (b : Int) := by omega
     have hltd : decide ((i : Int) < (b : Int)) = false := decide_eq_false hltI
     have UE : Hid (d' = D) := hid (by rw [← SX.out, insOuter_stop hlt])
     obtain rfl := UE.out
     go_wp2
     exact body_endF (by kernel_rfl) rfl ⟨rfl, FX.out, OX.out⟩
end Go.Proofs.YtgbdplammniidaaGreatDoor
namespace Go.Proofs.YtgbdplammniidaaGreatDoor
open Go.RowKit Go.ChangeShapes Go.WideShapes Go.ChangeAt
set_option linter.unusedVariables false
set_option linter.unusedSimpArgs false
set_option maxRecDepth 100000
open Go.Sort (ltInt)
def ChD (hi F root ch : Nat) (d : Array Int) : Prop := (ch = 2 * root + 2 ∧ 2 * root + 2 < hi ∧ ft d (F + (2 * root + 1)) < ft d (F + (2 * root + 1) + 1)) ∨ (ch = 2 * root + 1 ∧ ¬ (2 * root + 2 < hi ∧ ft d (F + (2 * root + 1)) < ft d (F + (2 * root + 1) + 1)))
theorem sift_stop {hi F root : Nat} {d : Array Int} (h : 2 * root + 1 ≥ hi) : Go.Sort.siftDown ltInt hi F root d = d := by
 rw [Go.Sort.siftDown, dif_pos h]
theorem sift_go {hi F root ch : Nat} {d : Array Int} (hc : ChD hi F root ch d) (h : 2 * root + 1 < hi) (hl : ft d (F + root) < ft d (F + ch)) : Go.Sort.siftDown ltInt hi F root d = Go.Sort.siftDown ltInt hi F ch (Go.Sort.swp d (F + root) (F + ch)) := by
 rw [Go.Sort.siftDown, dif_neg (by omega)]
 have hl' : ltInt d[F + root]! d[F + ch]! = true := decide_eq_true hl
 rcases hc with ⟨rfl, h2, h3⟩ | ⟨rfl, h2⟩
 · have h3' : ltInt d[F + (2 * root + 1)]! d[F + (2 * root + 1) + 1]! = true := decide_eq_true h3
   rw [if_pos (by rw [h3']; simp; omega), if_neg (by rw [hl']; simp), dif_pos h2]
 · rw [if_neg (fun hh => h2 (by rw [Bool.and_eq_true] at hh; exact ⟨by simpa using hh.1, of_decide_eq_true hh.2⟩)), if_neg (by rw [hl']; simp)]
theorem sift_end {hi F root ch : Nat} {d : Array Int} (hc : ChD hi F root ch d) (h : 2 * root + 1 < hi) (hl : ¬ ft d (F + root) < ft d (F + ch)) : Go.Sort.siftDown ltInt hi F root d = d := by
 rw [Go.Sort.siftDown, dif_neg (by omega)]
 have hl' : ltInt d[F + root]! d[F + ch]! = false := decide_eq_false hl
 rcases hc with ⟨rfl, h2, h3⟩ | ⟨rfl, h2⟩
 · have h3' : ltInt d[F + (2 * root + 1)]! d[F + (2 * root + 1) + 1]! = true := decide_eq_true h3
   rw [if_pos (by rw [h3']; simp; omega), if_pos (by rw [hl']; simp)]
 · rw [if_neg (fun hh => h2 (by rw [Bool.and_eq_true] at hh; exact ⟨by simpa using hh.1, of_decide_eq_true hh.2⟩)), if_pos (by rw [hl']; simp)]
set_option maxHeartbeats 8000000 in
theorem siftA_c (g n cap lo hi F : Nat) (d : Array Int) (w : World) (h : Fa w g n d) (hn : n ≤ 40) (hcap : n ≤ cap) (hlo : lo ≤ 40) (hF : F + hi ≤ n) :
   Calls Tryz.prog 136 #[.slice (some ⟨g, 0, none⟩) n cap, .int .i64 lo, .int .i64 hi, .int .i64 F] w (FaP g n (Go.Sort.siftDown ltInt hi F lo d) w) := by
 have H0 := hid h
 clear h
 generalize hD : Go.Sort.siftDown ltInt hi F lo d = D
 have E0 := hid hD
 clear hD
 go_enter Tryz.func136, Tryz.ntmps136
 go_wp2
 go_loopw [8] (fun v8 wr => ∃ (root : Nat) (d' : Array Int), root ≤ 40 ∧ v8 = .int .i64 root ∧ Hid (Fa wr g n d') ∧ Hid (Go.Sort.siftDown ltInt hi F root d' = D) ∧ Hid (Ou (fun k => k = g) w wr)) (fun i _ => (42 - intOf i).toNat)
 case atStart => exact ⟨lo, d, by omega, by first | rfl | go_num, H0, E0, hid (Ou.refl _ _)⟩
 case round =>
   obtain ⟨root, d', hr, rfl, FX, SX, OX⟩ := hrel
   obtain ⟨c, HcD⟩ : ∃ c, Hid (c = 2 * root + 1) := ⟨_, hid rfl⟩
   obtain ⟨m, HmD⟩ : ∃ m, Hid (m = 2 * root) := ⟨_, hid rfl⟩
   have hmI : 2 * (root : Int) = (m : Int) := by have := HcD.out; have := HmD.out; omega
   have hcI : (m : Int) + 1 = (c : Int) := by have := HcD.out; have := HmD.out; omega
   by_cases hc : 2 * root + 1 < hi
   · have hcd : decide ((hi : Int) ≤ (c : Int)) = false := decide_eq_false (by have := HcD.out; have := HmD.out; omega)
     obtain ⟨c1, Hc1D⟩ : ∃ c1, Hid (c1 = c + 1) := ⟨_, hid rfl⟩
     have hc1I : (c : Int) + 1 = (c1 : Int) := by have := HcD.out; have := HmD.out; have := Hc1D.out; omega
     obtain ⟨p, Hp⟩ : ∃ p, Hid (p = F + root) := ⟨_, hid rfl⟩
     obtain ⟨r, HrD⟩ : ∃ r, Hid (r = F + c) := ⟨_, hid rfl⟩
     have hrI : (F : Int) + (c : Int) = (r : Int) := by have := HcD.out; have := HmD.out; have := Hc1D.out; have := Hp.out; have := HrD.out; omega
     obtain ⟨r1, Hr1D⟩ : ∃ r1, Hid (r1 = r + 1) := ⟨_, hid rfl⟩
     have hr1I : (r : Int) + 1 = (r1 : Int) := by have := HcD.out; have := HmD.out; have := Hc1D.out; have := Hp.out; have := HrD.out; have := Hr1D.out; omega
     have FZ' : Hid (∀ k, Fa (wr.drewN k) g n d') := hid (fun k => FX.out.drewN k)
     have OZ' : Hid (∀ k, Ou (fun k => k = g) w (wr.drewN k)) := hid (fun k => OX.out.drewN k)
     by_cases h2 : c1 < hi
     · have h2I : (c1 : Int) < (hi : Int) := by have := HcD.out; have := HmD.out; have := Hc1D.out; have := Hp.out; have := HrD.out; have := Hr1D.out; omega
       have hrn : (r : Int) < (n : Int) := by have := HcD.out; have := HmD.out; have := Hc1D.out; have := Hp.out; have := HrD.out; have := Hr1D.out; omega
       have hr1n : (r1 : Int) < (n : Int) := by have := HcD.out; have := HmD.out; have := Hc1D.out; have := Hp.out; have := HrD.out; have := Hr1D.out; omega
       obtain ⟨c3, z3⟩ := FX.out.cell (j := r) (by have := HcD.out; have := HmD.out; have := Hc1D.out; have := Hp.out; have := HrD.out; have := Hr1D.out; omega)
       obtain ⟨c4, z4⟩ := FX.out.cell (j := r1) (by have := HcD.out; have := HmD.out; have := Hc1D.out; have := Hp.out; have := HrD.out; have := Hr1D.out; omega)
       by_cases hg : ft d' r < ft d' r1
       · have hgd : decide (ft d' r < ft d' r1) = true := decide_eq_true hg
         obtain ⟨ch, HchD⟩ : ∃ ch, Hid (ch = c1) := ⟨_, hid rfl⟩
         have HC : Hid (ChD hi F root ch d') := hid (.inl ⟨by have := HcD.out; have := HmD.out; have := Hc1D.out; have := Hp.out; have := HrD.out; have := Hr1D.out; have := HchD.out; omega, by have := HcD.out; have := HmD.out; have := Hc1D.out; have := Hp.out; have := HrD.out; have := Hr1D.out; have := HchD.out; omega, by rw [← HcD.out, ← HrD.out, ← Hr1D.out]; exact hg⟩)
         obtain ⟨q, Hq⟩ : ∃ q, Hid (q = F + ch) := ⟨_, hid rfl⟩
         go_wp2_with fail
         go_quiet ((go_at_call 126; exact Calls.quiet_of_same (lessF_c _ _ _)))
         go_wp2_with fail
         have FV := hid (FZ'.out nq)
         have OV := hid (OZ'.out nq)
         generalize wr.drewN nq = V at *
         clear c3 z3 c4 z4 FZ' OZ'
         obtain rfl := HchD.out
         have hpn : (p : Int) < (n : Int) := by have := HcD.out; have := HmD.out; have := Hc1D.out; have := Hp.out; have := HrD.out; have := Hr1D.out; have := Hq.out; omega
         have hqn : (q : Int) < (n : Int) := by have := HcD.out; have := HmD.out; have := Hc1D.out; have := Hp.out; have := HrD.out; have := Hr1D.out; have := Hq.out; omega
         have hFp : (F : Int) + (root : Int) = (p : Int) := by have := HcD.out; have := HmD.out; have := Hc1D.out; have := Hp.out; have := HrD.out; have := Hr1D.out; have := Hq.out; omega
         have hFq : (F : Int) + (ch : Int) = (q : Int) := by have := HcD.out; have := HmD.out; have := Hc1D.out; have := Hp.out; have := HrD.out; have := Hr1D.out; have := Hq.out; omega
         have hpq : ¬ p = q := by have := HcD.out; have := HmD.out; have := Hc1D.out; have := Hp.out; have := HrD.out; have := Hr1D.out; have := Hq.out; omega
         have hqp : ¬ q = p := by have := HcD.out; have := HmD.out; have := Hc1D.out; have := Hp.out; have := HrD.out; have := Hr1D.out; have := Hq.out; omega
         obtain ⟨c1, z1⟩ := FV.out.cell (j := p) (by have := HcD.out; have := HmD.out; have := Hc1D.out; have := Hp.out; have := HrD.out; have := Hr1D.out; have := Hq.out; omega)
         obtain ⟨c2, z2⟩ := FV.out.cell (j := q) (by have := HcD.out; have := HmD.out; have := Hc1D.out; have := Hp.out; have := HrD.out; have := Hr1D.out; have := Hq.out; omega)
         have FZ : Hid (∀ k, Fa (V.drewN k) g n d') := hid (fun k => FV.out.drewN k)
         have OZ : Hid (∀ k, Ou (fun k => k = g) w (V.drewN k)) := hid (fun k => OV.out.drewN k)
         by_cases hls : ft d' p < ft d' q
         · have hld : decide (ft d' p < ft d' q) = true := decide_eq_true hls
           have S9 : Hid (Go.Sort.siftDown ltInt hi F ch (Go.Sort.swp d' p q) = D) := hid (by rw [← SX.out, sift_go HC.out hc (by rw [← Hp.out, ← Hq.out]; exact hls), ← Hp.out, ← Hq.out])
           go_wp2_with fail
           go_quiet ((go_at_call 126; exact Calls.quiet_of_same (lessF_c _ _ _)))
           go_wp2_with fail
           have FW := hid (FZ.out nq)
           have OW := hid (OZ.out nq)
           generalize V.drewN nq = W at *
           clear c1 c2 z1 z2 FZ OZ
           obtain ⟨c1', z1'⟩ := FW.out.cell (j := p) (by have := HcD.out; have := HmD.out; have := Hc1D.out; have := Hp.out; have := HrD.out; have := Hr1D.out; have := Hq.out; omega)
           obtain ⟨c2', z2'⟩ := FW.out.cell (j := q) (by have := HcD.out; have := HmD.out; have := Hc1D.out; have := Hp.out; have := HrD.out; have := Hr1D.out; have := Hq.out; omega)
           go_region
           have F9 := hid (FW.out.swp' (i := p) (j := q) (by have := HcD.out; have := HmD.out; have := Hc1D.out; have := Hp.out; have := HrD.out; have := Hr1D.out; have := Hq.out; omega) (by have := HcD.out; have := HmD.out; have := Hc1D.out; have := Hp.out; have := HrD.out; have := Hr1D.out; have := Hq.out; omega))
           have O9 := hid (OW.out.swp' p q (.int .u32 (ft d' q)) (.int .u32 (ft d' p)))
           clear c1' c2' z1' z2'
           go_wp2
           go_roundw
           case rel => exact ⟨ch, _, by have := HcD.out; have := HmD.out; have := Hc1D.out; have := Hp.out; have := HrD.out; have := Hr1D.out; have := Hq.out; omega, by first | rfl | go_num, F9, S9, O9⟩
           case measure => simp [intOf] <;> omega
         · have hld : decide (ft d' p < ft d' q) = false := decide_eq_false hls
           have UE : Hid (d' = D) := hid (by rw [← SX.out, sift_end HC.out hc (by rw [← Hp.out, ← Hq.out]; exact hls)])
           obtain rfl := UE.out
           go_wp2_with fail
           go_quiet ((go_at_call 126; exact Calls.quiet_of_same (lessF_c _ _ _)))
           go_wp2
           exact bodyPost_ret (v := .tuple #[]) (by simp [results, Tryz.results136, go_sem]) rfl ⟨rfl, FZ.out _, OZ.out _⟩
       · have hgd : decide (ft d' r < ft d' r1) = false := decide_eq_false hg
         obtain ⟨ch, HchD⟩ : ∃ ch, Hid (ch = c) := ⟨_, hid rfl⟩
         have HC : Hid (ChD hi F root ch d') := hid (.inr ⟨by have := HcD.out; have := HmD.out; have := Hc1D.out; have := Hp.out; have := HrD.out; have := Hr1D.out; have := HchD.out; omega, fun hh => hg (by rw [Hr1D.out, HrD.out, HcD.out]; exact hh.2)⟩)
         obtain ⟨q, Hq⟩ : ∃ q, Hid (q = F + ch) := ⟨_, hid rfl⟩
         go_wp2_with fail
         go_quiet ((go_at_call 126; exact Calls.quiet_of_same (lessF_c _ _ _)))
         go_wp2_with fail
         have FV := hid (FZ'.out nq)
         have OV := hid (OZ'.out nq)
         generalize wr.drewN nq = V at *
         clear c3 z3 c4 z4 FZ' OZ' hrI
         obtain rfl := HchD.out
         have hpn : (p : Int) < (n : Int) := by have := HcD.out; have := HmD.out; have := Hc1D.out; have := Hp.out; have := HrD.out; have := Hr1D.out; have := Hq.out; omega
         have hqn : (q : Int) < (n : Int) := by have := HcD.out; have := HmD.out; have := Hc1D.out; have := Hp.out; have := HrD.out; have := Hr1D.out; have := Hq.out; omega
         have hFp : (F : Int) + (root : Int) = (p : Int) := by have := HcD.out; have := HmD.out; have := Hc1D.out; have := Hp.out; have := HrD.out; have := Hr1D.out; have := Hq.out; omega
         have hFq : (F : Int) + (ch : Int) = (q : Int) := by have := HcD.out; have := HmD.out; have := Hc1D.out; have := Hp.out; have := HrD.out; have := Hr1D.out; have := Hq.out; omega
         have hpq : ¬ p = q := by have := HcD.out; have := HmD.out; have := Hc1D.out; have := Hp.out; have := HrD.out; have := Hr1D.out; have := Hq.out; omega
         have hqp : ¬ q = p := by have := HcD.out; have := HmD.out; have := Hc1D.out; have := Hp.out; have := HrD.out; have := Hr1D.out; have := Hq.out; omega
         obtain ⟨c1, z1⟩ := FV.out.cell (j := p) (by have := HcD.out; have := HmD.out; have := Hc1D.out; have := Hp.out; have := HrD.out; have := Hr1D.out; have := Hq.out; omega)
         obtain ⟨c2, z2⟩ := FV.out.cell (j := q) (by have := HcD.out; have := HmD.out; have := Hc1D.out; have := Hp.out; have := HrD.out; have := Hr1D.out; have := Hq.out; omega)
         have FZ : Hid (∀ k, Fa (V.drewN k) g n d') := hid (fun k => FV.out.drewN k)
         have OZ : Hid (∀ k, Ou (fun k => k = g) w (V.drewN k)) := hid (fun k => OV.out.drewN k)
         by_cases hls : ft d' p < ft d' q
         · have hld : decide (ft d' p < ft d' q) = true := decide_eq_true hls
           have S9 : Hid (Go.Sort.siftDown ltInt hi F ch (Go.Sort.swp d' p q) = D) := hid (by rw [← SX.out, sift_go HC.out hc (by rw [← Hp.out, ← Hq.out]; exact hls), ← Hp.out, ← Hq.out])
           go_wp2_with fail
           go_quiet ((go_at_call 126; exact Calls.quiet_of_same (lessF_c _ _ _)))
           go_wp2_with fail
           have FW := hid (FZ.out nq)
           have OW := hid (OZ.out nq)
           generalize V.drewN nq = W at *
           clear c1 c2 z1 z2 FZ OZ
           obtain ⟨c1', z1'⟩ := FW.out.cell (j := p) (by have := HcD.out; have := HmD.out; have := Hc1D.out; have := Hp.out; have := HrD.out; have := Hr1D.out; have := Hq.out; omega)
           obtain ⟨c2', z2'⟩ := FW.out.cell (j := q) (by have := HcD.out; have := HmD.out; have := Hc1D.out; have := Hp.out; have := HrD.out; have := Hr1D.out; have := Hq.out; omega)
           go_region
           have F9 := hid (FW.out.swp' (i := p) (j := q) (by have := HcD.out; have := HmD.out; have := Hc1D.out; have := Hp.out; have := HrD.out; have := Hr1D.out; have := Hq.out; omega) (by have := HcD.out; have := HmD.out; have := Hc1D.out; have := Hp.out; have := HrD.out; have := Hr1D.out; have := Hq.out; omega))
           have O9 := hid (OW.out.swp' p q (.int .u32 (ft d' q)) (.int .u32 (ft d' p)))
           clear c1' c2' z1' z2'
           go_wp2
           go_roundw
           case rel => exact ⟨ch, _, by have := HcD.out; have := HmD.out; have := Hc1D.out; have := Hp.out; have := HrD.out; have := Hr1D.out; have := Hq.out; omega, by first | rfl | go_num, F9, S9, O9⟩
           case measure => simp [intOf] <;> omega
         · have hld : decide (ft d' p < ft d' q) = false := decide_eq_false hls
           have UE : Hid (d' = D) := hid (by rw [← SX.out, sift_end HC.out hc (by rw [← Hp.out, ← Hq.out]; exact hls)])
           obtain rfl := UE.out
           go_wp2_with fail
           go_quiet ((go_at_call 126; exact Calls.quiet_of_same (lessF_c _ _ _)))
           go_wp2
           exact bodyPost_ret (v := .tuple #[]) (by simp [results, Tryz.results136, go_sem]) rfl ⟨rfl, FZ.out _, OZ.out _⟩
     · have h2d : decide ((c1 : Int) < (hi : Int)) = false := decide_eq_false (by have := HcD.out; have := HmD.out; have := Hc1D.out; have := Hp.out; have := HrD.out; have := Hr1D.out; omega)
       obtain ⟨ch, HchD⟩ : ∃ ch, Hid (ch = c) := ⟨_, hid rfl⟩
       have HC : Hid (ChD hi F root ch d') := hid (.inr ⟨by have := HcD.out; have := HmD.out; have := Hc1D.out; have := Hp.out; have := HrD.out; have := Hr1D.out; have := HchD.out; omega, fun hh => h2 (by have := HcD.out; have := HmD.out; have := Hc1D.out; have := Hp.out; have := HrD.out; have := Hr1D.out; have := HchD.out; omega)⟩)
       obtain ⟨q, Hq⟩ : ∃ q, Hid (q = F + ch) := ⟨_, hid rfl⟩
       go_wp2_with fail
       go_quiet (fail)
       go_wp2_with fail
       have FV := hid (FZ'.out nq)
       have OV := hid (OZ'.out nq)
       generalize wr.drewN nq = V at *
       clear FZ' OZ' hrI
       obtain rfl := HchD.out
       have hpn : (p : Int) < (n : Int) := by have := HcD.out; have := HmD.out; have := Hc1D.out; have := Hp.out; have := HrD.out; have := Hr1D.out; have := Hq.out; omega
       have hqn : (q : Int) < (n : Int) := by have := HcD.out; have := HmD.out; have := Hc1D.out; have := Hp.out; have := HrD.out; have := Hr1D.out; have := Hq.out; omega
       have hFp : (F : Int) + (root : Int) = (p : Int) := by have := HcD.out; have := HmD.out; have := Hc1D.out; have := Hp.out; have := HrD.out; have := Hr1D.out; have := Hq.out; omega
       have hFq : (F : Int) + (ch : Int) = (q : Int) := by have := HcD.out; have := HmD.out; have := Hc1D.out; have := Hp.out; have := HrD.out; have := Hr1D.out; have := Hq.out; omega
       have hpq : ¬ p = q := by have := HcD.out; have := HmD.out; have := Hc1D.out; have := Hp.out; have := HrD.out; have := Hr1D.out; have := Hq.out; omega
       have hqp : ¬ q = p := by have := HcD.out; have := HmD.out; have := Hc1D.out; have := Hp.out; have := HrD.out; have := Hr1D.out; have := Hq.out; omega
       obtain ⟨c1, z1⟩ := FV.out.cell (j := p) (by have := HcD.out; have := HmD.out; have := Hc1D.out; have := Hp.out; have := HrD.out; have := Hr1D.out; have := Hq.out; omega)
       obtain ⟨c2, z2⟩ := FV.out.cell (j := q) (by have := HcD.out; have := HmD.out; have := Hc1D.out; have := Hp.out; have := HrD.out; have := Hr1D.out; have := Hq.out; omega)
       have FZ : Hid (∀ k, Fa (V.drewN k) g n d') := hid (fun k => FV.out.drewN k)
       have OZ : Hid (∀ k, Ou (fun k => k = g) w (V.drewN k)) := hid (fun k => OV.out.drewN k)
       by_cases hls : ft d' p < ft d' q
       · have hld : decide (ft d' p < ft d' q) = true := decide_eq_true hls
         have S9 : Hid (Go.Sort.siftDown ltInt hi F ch (Go.Sort.swp d' p q) = D) := hid (by rw [← SX.out, sift_go HC.out hc (by rw [← Hp.out, ← Hq.out]; exact hls), ← Hp.out, ← Hq.out])
         go_wp2_with fail
         go_quiet ((go_at_call 126; exact Calls.quiet_of_same (lessF_c _ _ _)))
         go_wp2_with fail
         have FW := hid (FZ.out nq)
         have OW := hid (OZ.out nq)
         generalize V.drewN nq = W at *
         clear c1 c2 z1 z2 FZ OZ
         obtain ⟨c1', z1'⟩ := FW.out.cell (j := p) (by have := HcD.out; have := HmD.out; have := Hc1D.out; have := Hp.out; have := HrD.out; have := Hr1D.out; have := Hq.out; omega)
         obtain ⟨c2', z2'⟩ := FW.out.cell (j := q) (by have := HcD.out; have := HmD.out; have := Hc1D.out; have := Hp.out; have := HrD.out; have := Hr1D.out; have := Hq.out; omega)
         go_region
         have F9 := hid (FW.out.swp' (i := p) (j := q) (by have := HcD.out; have := HmD.out; have := Hc1D.out; have := Hp.out; have := HrD.out; have := Hr1D.out; have := Hq.out; omega) (by have := HcD.out; have := HmD.out; have := Hc1D.out; have := Hp.out; have := HrD.out; have := Hr1D.out; have := Hq.out; omega))
         have O9 := hid (OW.out.swp' p q (.int .u32 (ft d' q)) (.int .u32 (ft d' p)))
         clear c1' c2' z1' z2'
         go_wp2
         go_roundw
         case rel => exact ⟨ch, _, by have := HcD.out; have := HmD.out; have := Hc1D.out; have := Hp.out; have := HrD.out; have := Hr1D.out; have := Hq.out; omega, by first | rfl | go_num, F9, S9, O9⟩
         case measure => simp [intOf] <;> omega
       · have hld : decide (ft d' p < ft d' q) = false := decide_eq_false hls
         have UE : Hid (d' = D) := hid (by rw [← SX.out, sift_end HC.out hc (by rw [← Hp.out, ← Hq.out]; exact hls)])
         obtain rfl := UE.out
         go_wp2_with fail
         go_quiet ((go_at_call 126; exact Calls.quiet_of_same (lessF_c _ _ _)))
         go_wp2
         exact bodyPost_ret (v := .tuple #[]) (by simp [results, Tryz.results136, go_sem]) rfl ⟨rfl, FZ.out _, OZ.out _⟩
   · have hcd : (hi : Int) ≤ (c : Int) := by have := HcD.out; have := HmD.out; omega
     have UE : Hid (d' = D) := hid (by rw [← SX.out, sift_stop (by have := HcD.out; have := HmD.out; omega)])
     obtain rfl := UE.out
     go_wp2
     exact body_endF (by kernel_rfl) rfl ⟨rfl, FX.out, OX.out⟩
set_option maxHeartbeats 8000000 in
theorem heapA_c (g n cap a b : Nat) (d : Array Int) (w : World) (h : Fa w g n d) (hn : n ≤ 40) (hcap : n ≤ cap) (hab : a < b) (hb : b ≤ n) :
   Calls Tryz.prog 121 #[.slice (some ⟨g, 0, none⟩) n cap, .int .i64 a, .int .i64 b] w (FaP g n (Go.Sort.heapSort ltInt d a b) w) := by
 have H0 := hid h
 clear h
 obtain ⟨H, HH⟩ : ∃ H, Hid (H = b - a) := ⟨_, hid rfl⟩
 obtain ⟨k1, Hk1⟩ : ∃ k1, Hid (k1 = (H - 1) / 2) := ⟨_, hid rfl⟩
 obtain ⟨h1, Hh1⟩ : ∃ h1, Hid (h1 = H - 1) := ⟨_, hid rfl⟩
 have E0 : Hid (Go.Sort.heapPop ltInt a H (Go.Sort.heapBuild ltInt H a (k1 + 1) d) = Go.Sort.heapSort ltInt d a b) := hid (by rw [Hk1.out, HH.out]; rfl)
 generalize Go.Sort.heapSort ltInt d a b = D at *
 obtain ⟨D1, E1⟩ : ∃ D1, Hid (Go.Sort.heapBuild ltInt H a (k1 + 1) d = D1) := ⟨_, hid rfl⟩
 have E2 : Hid (Go.Sort.heapPop ltInt a H D1 = D) := hid (by rw [← E1.out]; exact E0.out)
 clear E0
 have hHI : (b : Int) - (a : Int) = (H : Int) := by have := HH.out; have := Hk1.out; have := Hh1.out; omega
 have hh1I : (H : Int) - 1 = (h1 : Int) := by have := HH.out; have := Hk1.out; have := Hh1.out; omega
 have hk1I : (h1 : Int) / 2 = (k1 : Int) := by have := HH.out; have := Hk1.out; have := Hh1.out; omega
 have hk1T : Int.tdiv (h1 : Int) 2 = (k1 : Int) := by rw [Int.tdiv_eq_ediv_of_nonneg (by have := HH.out; have := Hk1.out; have := Hh1.out; omega)]; exact hk1I
 have hH40 : H ≤ 40 := by have := HH.out; have := Hk1.out; have := Hh1.out; omega
 have hk40 : k1 ≤ 40 := by have := HH.out; have := Hk1.out; have := Hh1.out; omega
 have haH : a + H ≤ n := by have := HH.out; have := Hk1.out; have := Hh1.out; omega
 have hH1 : h1 + 1 = H := by have := HH.out; have := Hk1.out; have := Hh1.out; omega
 go_enter Tryz.func121, Tryz.ntmps121
 go_wp2
 go_loopw [9] (fun v9 wr => ∃ (k : Nat) (i : Int) (d' : Array Int), k ≤ 41 ∧ Hid (i = (k : Int) - 1) ∧ v9 = .int .i64 i ∧ Hid (Fa wr g n d') ∧ Hid (Go.Sort.heapBuild ltInt H a k d' = D1) ∧ Hid (Ou (fun k => k = g) w wr)) (fun i _ => (intOf i + 1).toNat)
 case atStart => exact ⟨k1 + 1, (k1 : Int), d, by omega, hid (by omega), by first | rfl | go_num, H0, E1, hid (Ou.refl _ _)⟩
 case round =>
   obtain ⟨k, i, d', hk, HI, rfl, FX, SX, OX⟩ := hrel
   cases k with
   | succ j =>
     obtain rfl : i = (j : Int) := by have := HI.out; omega
     have SC := hid (siftA_c g n cap j H a d' wr FX.out hn hcap (by omega) haH)
     have hj0 : (0 : Int) ≤ (j : Int) := by omega
     go_wp2_with (go_at_call 136; refine SC.out.mono ?_; rintro _ w1 ⟨rfl, F1', O1'⟩; have F1 := hid F1'; have O1 := hid O1'; clear F1' O1')
     go_roundw
     case rel => exact ⟨j, _, _, by omega, hid rfl, by first | rfl | go_num, F1, SX, hid (OX.out.trans O1.out)⟩
     case measure => simp [intOf] <;> omega
   | zero =>
     obtain rfl : i = -1 := by have := HI.out; omega
     have UE : Hid (d' = D1) := hid SX.out
     obtain rfl := UE.out
     obtain ⟨wo, hwo⟩ : ∃ wo, wo = wr := ⟨_, rfl⟩
     subst hwo
     clear hk1I hk1T
     go_wp2
     go_loopw [10] (fun v10 wx => ∃ (k : Nat) (i : Int) (d' : Array Int), k ≤ H ∧ Hid (i = (k : Int) - 1) ∧ v10 = .int .i64 i ∧ Hid (Fa wx g n d') ∧ Hid (Go.Sort.heapPop ltInt a k d' = D) ∧ Hid (Ou (fun k => k = g) w wx)) (fun i _ => (intOf i + 1).toNat)
     case atStart => exact ⟨H, (h1 : Int), d', by omega, hid (by omega), by first | rfl | go_num, FX, E2, OX⟩
     case round =>
       obtain ⟨k, i, e', hk, HI2, rfl, FY, SY, OY⟩ := hrel
       cases k with
       | succ j =>
         obtain rfl : i = (j : Int) := by have := HI2.out; omega
         have hj0 : (0 : Int) ≤ (j : Int) := by omega
         by_cases j0 : j = 0
         · subst j0
           have han : (a : Int) < (n : Int) := by omega
           obtain ⟨c1, z1⟩ := FY.out.cell (j := a) (by omega)
           go_wp2_with fail
           go_region
           have F9 := hid (FY.out.swp' (i := a) (j := a) (by omega) (by omega))
           have O9 := hid (OY.out.swp' a a (.int .u32 (ft e' a)) (.int .u32 (ft e' a)))
           clear c1 z1
           have SC := hid (siftA_c g n cap 0 0 a _ _ F9.out hn hcap (by omega) (by omega))
           go_wp2_with (go_at_call 136; refine SC.out.mono ?_; rintro _ w1 ⟨rfl, F1', O1'⟩; have F1 := hid F1'; have O1 := hid O1'; clear F1' O1')
           go_roundw
           case rel => exact ⟨0, _, _, by omega, hid rfl, by first | rfl | go_num, F1, SY, hid (O9.out.trans O1.out)⟩
           case measure => simp [intOf]
         · obtain ⟨q, Hq⟩ : ∃ q, Hid (q = a + j) := ⟨_, hid rfl⟩
           have haq : (a : Int) + (j : Int) = (q : Int) := by have := HH.out; have := Hk1.out; have := Hh1.out; have := Hq.out; omega
           have han : (a : Int) < (n : Int) := by have := HH.out; have := Hk1.out; have := Hh1.out; have := Hq.out; omega
           have hqn : (q : Int) < (n : Int) := by have := HH.out; have := Hk1.out; have := Hh1.out; have := Hq.out; omega
           have hne : ¬ a = q := by have := HH.out; have := Hk1.out; have := Hh1.out; have := Hq.out; omega
           have hne' : ¬ q = a := by have := HH.out; have := Hk1.out; have := Hh1.out; have := Hq.out; omega
           obtain ⟨c1, z1⟩ := FY.out.cell (j := a) (by have := HH.out; have := Hk1.out; have := Hh1.out; have := Hq.out; omega)
           obtain ⟨c2, z2⟩ := FY.out.cell (j := q) (by have := HH.out; have := Hk1.out; have := Hh1.out; have := Hq.out; omega)
           go_wp2_with fail
           go_region
           have F9 := hid (FY.out.swp' (i := a) (j := q) (by have := HH.out; have := Hk1.out; have := Hh1.out; have := Hq.out; omega) (by have := HH.out; have := Hk1.out; have := Hh1.out; have := Hq.out; omega))
           have O9 := hid (OY.out.swp' a q (.int .u32 (ft e' q)) (.int .u32 (ft e' a)))
           have S9 : Hid (Go.Sort.heapPop ltInt a j (Go.Sort.siftDown ltInt j a 0 (Go.Sort.swp e' a q)) = D) := hid (by rw [Hq.out]; exact SY.out)
           clear c1 z1 c2 z2
           have SC := hid (siftA_c g n cap 0 j a _ _ F9.out hn hcap (by omega) (by have := HH.out; have := Hk1.out; have := Hh1.out; have := Hq.out; omega))
           go_wp2_with (go_at_call 136; refine SC.out.mono ?_; rintro _ w1 ⟨rfl, F1', O1'⟩; have F1 := hid F1'; have O1 := hid O1'; clear F1' O1')
           go_roundw
           case rel => exact ⟨j, _, _, by omega, hid rfl, by first | rfl | go_num, F1, S9, hid (O9.out.trans O1.out)⟩
           case measure => simp [intOf] <;> omega
       | zero =>
         obtain rfl : i = -1 := by have := HI2.out; omega
         have UE2 : Hid (e' = D) := hid SY.out
         obtain rfl := UE2.out
         go_wp2
         exact body_endF (by kernel_rfl) rfl ⟨rfl, FY.out, OY.out⟩
end Go.Proofs.YtgbdplammniidaaGreatDoor
