/-
  The document's tree: Get, kid, dir, Look, what they answer to the letter.
-/
import Derived.Test.YtkokjkaclcjnjaaGreatDoorPtAl
namespace Go.Proofs.YtkokjkaclcjnjaaGreatDoor
open Go.RowKit Go.ChangeShapes Go.WideShapes Go.ChangeAt Go.Maps Go.Shelf
set_option linter.unusedVariables false
set_option linter.unusedSimpArgs false
set_option maxRecDepth 100000
def getF (l : List Nd) (f : Int) : Option Nd := l.find? (fun x => x.fid == f)
theorem getF_none {l : List Nd} {f : Int} (h : ∀ i, i < l.length → (l.getD i Nd.no).fid ≠ f) : getF l f = none := by
 unfold getF
 rw [List.find?_eq_none]
 intro x hx
 obtain ⟨i, hi, rfl⟩ := List.getElem_of_mem hx
 have := h i hi
 rw [List.getD, List.getElem?_eq_getElem hi] at this
 simpa using this
theorem getF_at : ∀ {l : List Nd} {f : Int} {m : Nat}, m < l.length → (∀ i, i < m → (l.getD i Nd.no).fid ≠ f) → (l.getD m Nd.no).fid = f → getF l f = some (l.getD m Nd.no)
 | [], f, m, hm, _, _ => by cases hm
 | x :: t, f, 0, _, _, h1 => by
   have : x.fid = f := h1
   simp [getF, List.getD, this]
 | x :: t, f, m + 1, hm, h0, h1 => by
   have hx : x.fid ≠ f := h0 0 (by omega)
   have hx2 : (x.fid == f) = false := beq_eq_false_iff_ne.2 hx
   have := getF_at (l := t) (f := f) (m := m) (by simpa using hm) (fun i hi => h0 (i + 1) (by omega)) h1
   unfold getF at this ⊢
   rw [List.find?_cons, hx2]
   exact this
theorem getF_mem {l : List Nd} {f : Int} {x : Nd} (h : getF l f = some x) : x ∈ l ∧ x.fid = f := by
 unfold getF at h
 exact ⟨List.mem_of_find?_eq_some h, by simpa using List.find?_some h⟩
theorem getF_ok {w : World} {a : Option Addr} {l : List Nd} {f : Int} {x : Nd} (hn : IsNs w a l) (h : getF l f = some x) : x.Ok w := hn.2.1 x (getF_mem h).1
theorem no_ok (w : World) : Nd.no.Ok w := ⟨⟨by decide, by decide⟩, ⟨by decide, by decide⟩, ⟨by decide, by decide⟩, ⟨by decide, by decide⟩, ⟨rfl, Nat.zero_le _, (fun h => absurd h (by decide)), fun i => by simp [Nd.no]⟩, ⟨Nat.zero_le _, (fun x hx => by cases hx), fun h => absurd h (by decide)⟩⟩
theorem getD_ok {w : World} {a : Option Addr} {l : List Nd} (f : Int) (hn : IsNs w a l) : ((getF l f).getD Nd.no).Ok w := by
 cases h : getF l f with
 | none => exact no_ok w
 | some x => exact getF_ok hn h
def gotV (o : Option Nd) : Value := .tuple #[(o.getD Nd.no).val, .bool o.isSome]
set_option maxHeartbeats 2000000 in
theorem get2_c (a : Option Addr) (cap : Nat) (l : List Nd) (f : Int) (w : World) (h : IsNs w a l) (hm : l.length ≤ 100000) :
   Calls Tryz.prog 8 #[.slice a l.length cap, .int .u32 f] w fun e w' => e = .returned (gotV (getF l f)) ∧ Below w.heap.size w w' := by
 have b0 := below_1 w (.cells Nd.no.cells.toArray 37)
 have h0 := heap_alloc_new w (.cells Nd.no.cells.toArray 37)
 have H := hid (h.later b0)
 have B0 := hid b0
 have H0 := hid h0
 obtain ⟨n, hn⟩ : ∃ n, n = l.length := ⟨_, rfl⟩
 have HN := hid hn
 obtain ⟨R, hR⟩ : ∃ R, R = getF l f := ⟨_, rfl⟩
 have HR := hid hR
 rw [← hR]
 rw [← hn] at hm ⊢
 clear h b0 h0 hn hR
 go_enter Tryz.func8, Tryz.ntmps8
 go_upto_region 1 with fail
 change Code.wp _ _ _ _ (w.alloc (.cells Nd.no.cells.toArray 37))
 generalize (w.alloc (.cells Nd.no.cells.toArray 37)) = V at *
 have fz : ∀ i, V.frozen? ⟨w.heap.size, i, none⟩ = false := fun i => by simp [World.frozen?, H0.out]
 obtain ⟨q0, q1, q2, q3, q4, q5⟩ := nd_cells H0.out
 simp only [Nd.no, List.length_nil] at q0 q1 q2 q3 q4 q5
 go_wp2
 go_loopg [6] n (fun gk i wr => ∃ m : Nat, m + gk = n ∧ i = .int .i64 m ∧ Hid (wr = V) ∧ Hid (∀ i, i < m → (l.getD i Nd.no).fid ≠ f))
 case atStart => exact ⟨0, by omega, rfl, hid rfl, hid (fun i hi => by omega)⟩
 case round =>
   obtain ⟨m, hm2, rfl, HW, HF⟩ := hrel
   have hwr := HW.out
   subst hwr
   by_cases hlt : m < n
   · have hltI : (m : Int) < n := by omega
     have h1 : m < l.length := by rw [← HN.out]; exact hlt
     obtain ⟨b, off, rfl, _⟩ := H.out.2.2 (by omega)
     obtain ⟨y0, y1, y2, y3, y4, y5⟩ := (H.out.at (i := m) h1).all
     have YES := hid (getF_at (f := f) h1 HF.out)
     have NX : Hid ((l.getD m Nd.no).fid ≠ f → ∀ i, i < m + 1 → (l.getD i Nd.no).fid ≠ f) := hid (fun h i hi => by
       by_cases e : i = m
       · rw [e]; exact h
       · exact HF.out i (by omega))
     clear h1
     generalize l.getD m Nd.no = x at *
     by_cases q : x.fid = f
     · have qB : (x.fid == f) = true := by rw [q]; simp
       have ET : Hid (R = some x) := hid (by rw [HR.out]; exact YES.out q)
       clear YES NX HF
       go_wp2
       refine bodyPost_ret (v := .tuple #[x.val, .bool true]) (by simp [results, Tryz.results8, go_sem, Nd.val, q0, q1, q2, q3, q4, q5, q]) rfl ⟨by rw [ET.out]; rfl, ?_⟩
       exact (((((B0.out.setCell (p := ⟨w.heap.size, 0, none⟩) (Nat.le_refl _) _).setCell (p := ⟨w.heap.size, 1, none⟩) (Nat.le_refl _) _).setCell (p := ⟨w.heap.size, 2, none⟩) (Nat.le_refl _) _).setCell (p := ⟨w.heap.size, 3, none⟩) (Nat.le_refl _) _).setCell (p := ⟨w.heap.size, 4, none⟩) (Nat.le_refl _) _).setCell (p := ⟨w.heap.size, 5, none⟩) (Nat.le_refl _) _
     · have qB : (x.fid == f) = false := beq_eq_false_iff_ne.2 q
       have EX := hid (NX.out q)
       clear YES NX HF
       go_wp2
       go_roundg (gk - 1)
       case measure => omega
       case rel => exact ⟨m + 1, by omega, by go_num, hid rfl, EX⟩
   · have hge : ¬ (m : Int) < n := by omega
     have EF : Hid (R = none) := hid (by rw [HR.out]; exact getF_none (fun i hi => HF.out i (by have := HN.out; omega)))
     go_wp2
     refine bodyPost_ret (v := .tuple #[Nd.no.val, .bool false]) (by simp [results, Tryz.results8, go_sem, Nd.val, Nd.no, q0, q1, q2, q3, q4, q5]) rfl ⟨by rw [EF.out]; rfl, ?_⟩
     exact (((((B0.out.setCell (p := ⟨w.heap.size, 0, none⟩) (Nat.le_refl _) _).setCell (p := ⟨w.heap.size, 1, none⟩) (Nat.le_refl _) _).setCell (p := ⟨w.heap.size, 2, none⟩) (Nat.le_refl _) _).setCell (p := ⟨w.heap.size, 3, none⟩) (Nat.le_refl _) _).setCell (p := ⟨w.heap.size, 4, none⟩) (Nat.le_refl _) _).setCell (p := ⟨w.heap.size, 5, none⟩) (Nat.le_refl _) _
theorem ba_eq {s t : ByteArray} : (s.toList == t.toList) = decide (s = t) := by
 rw [Bool.eq_iff_iff, decide_eq_true_iff, beq_iff_eq, Lib.toList_data, Lib.toList_data]
 constructor
 · intro h
   cases s; cases t
   simp only at h
   rw [Array.toList_inj.1 h]
 · intro h; rw [h]
def kidI (l : List Kd) (s : ByteArray) : Int := match l.find? (fun k => decide (k.nm = s)) with
 | some k => k.fid
 | none => 0
theorem kidI_none {l : List Kd} {s : ByteArray} (h : ∀ i, i < l.length → (l.getD i Kd.no).nm ≠ s) : kidI l s = 0 := by
 unfold kidI
 have : l.find? (fun k => decide (k.nm = s)) = none := by
   rw [List.find?_eq_none]
   intro x hx
   obtain ⟨i, hi, rfl⟩ := List.getElem_of_mem hx
   have := h i hi
   rw [List.getD, List.getElem?_eq_getElem hi] at this
   simpa using this
 rw [this]
theorem kidI_at : ∀ {l : List Kd} {s : ByteArray} {m : Nat}, m < l.length → (∀ i, i < m → (l.getD i Kd.no).nm ≠ s) → (l.getD m Kd.no).nm = s → kidI l s = (l.getD m Kd.no).fid
 | [], s, m, hm, _, _ => by cases hm
 | x :: t, s, 0, _, _, h1 => by
   have : x.nm = s := h1
   simp [kidI, List.getD, this]
 | x :: t, s, m + 1, hm, h0, h1 => by
   have hx : x.nm ≠ s := h0 0 (by omega)
   have hx2 : decide (x.nm = s) = false := decide_eq_false hx
   have := kidI_at (l := t) (s := s) (m := m) (by simpa using hm) (fun i hi => h0 (i + 1) (by omega)) h1
   unfold kidI at this ⊢
   rw [List.find?_cons, hx2]
   exact this
set_option maxHeartbeats 2000000 in
theorem kid_c (x : Nd) (s : ByteArray) (w : World) (h : x.Ok w) (hm : x.ks.length ≤ 100000) :
   Calls Tryz.prog 36 #[x.val, .string s] w fun e w' => e = .returned (.int .u32 (kidI x.ks s)) ∧ Below w.heap.size w w' := by
 obtain ⟨fid, k, md, ln, da, dc, zs, ka, kc, l⟩ := x
 have b0 := below_1 w (.cells (⟨fid, k, md, ln, da, dc, zs, ka, kc, l⟩ : Nd).cells.toArray 37)
 have h0 := heap_alloc_new w (.cells (⟨fid, k, md, ln, da, dc, zs, ka, kc, l⟩ : Nd).cells.toArray 37)
 have HK := hid (h.2.2.2.2.2.later b0)
 have B0 := hid b0
 obtain ⟨_, _, _, _, _, q5⟩ := nd_cells h0
 simp only at hm q5 HK
 obtain ⟨n, hn⟩ : ∃ n, n = l.length := ⟨_, rfl⟩
 have HN := hid hn
 obtain ⟨R, hR⟩ : ∃ R, R = kidI l s := ⟨_, rfl⟩
 have HR := hid hR
 simp only
 rw [← hR]
 unfold Nd.val
 simp only [Nd.cells] at *
 rw [← hn] at hm q5 HK B0 ⊢
 clear h b0 h0 hR hn
 go_enter Tryz.func36, Tryz.ntmps36
 go_upto_region 1 with fail
 generalize (w.alloc (.cells #[.int .u32 fid, .int .u8 k, .int .u16 md, .int .u16 ln, .slice da zs.length dc, .slice ka n kc] 37)) = V at *
 go_wp2
 go_loopg [5] n (fun gk i wr => ∃ m : Nat, m + gk = n ∧ i = .int .i64 m ∧ Hid (wr = V) ∧ Hid (∀ i, i < m → (l.getD i Kd.no).nm ≠ s))
 case atStart => exact ⟨0, by omega, rfl, hid rfl, hid (fun i hi => by omega)⟩
 case round =>
   obtain ⟨m, hm2, rfl, HW, HF⟩ := hrel
   have hwr := HW.out
   subst hwr
   by_cases hlt : m < n
   · have hltI : (m : Int) < n := by omega
     have h1 : m < l.length := by rw [← HN.out]; exact hlt
     obtain ⟨b, off, rfl, _⟩ := HK.out.2.2 (by omega)
     obtain ⟨k0, k1⟩ := HK.out.at (i := m) h1
     have YES := hid (kidI_at (s := s) h1 HF.out)
     have NX : Hid ((l.getD m Kd.no).nm ≠ s → ∀ i, i < m + 1 → (l.getD i Kd.no).nm ≠ s) := hid (fun h i hi => by
       by_cases e : i = m
       · rw [e]; exact h
       · exact HF.out i (by omega))
     clear h1
     generalize l.getD m Kd.no = y at *
     by_cases q : y.nm = s
     · have ET : Hid (R = y.fid) := hid (by rw [HR.out]; exact YES.out q)
       clear YES NX HF
       subst q
       go_wp2
       go_ret
       exact ⟨by rw [ET.out]; rfl, B0.out⟩
     · have qB : (y.nm.toList == s.toList) = false := by rw [ba_eq]; exact decide_eq_false q
       have EX := hid (NX.out q)
       clear YES NX HF
       go_wp2
       go_roundg (gk - 1)
       case measure => omega
       case rel => exact ⟨m + 1, by omega, by go_num, hid rfl, EX⟩
   · have hge : ¬ (m : Int) < n := by omega
     have EF : Hid (R = 0) := hid (by rw [HR.out]; exact kidI_none (fun i hi => HF.out i (by have := HN.out; omega)))
     go_wp2
     go_ret
     exact ⟨by rw [EF.out]; rfl, B0.out⟩
end Go.Proofs.YtkokjkaclcjnjaaGreatDoor
