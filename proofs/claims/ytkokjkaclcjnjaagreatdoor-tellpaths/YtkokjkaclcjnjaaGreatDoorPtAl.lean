/-
  Nodes without where they lie: which nodes are a tree does not hang on that. (Written by nodebase.py out of SnapMath.)
  The document's Get and above (backwaterref06).
-/
import Derived.Test.YtkokjkaclcjnjaaGreatDoorPtAk
import Derived.BigQuiet
namespace Go.Proofs.YtkokjkaclcjnjaaGreatDoor
open Go.RowKit Go.ChangeShapes Go.WideShapes Go.ChangeAt Go.Maps
set_option linter.unusedVariables false
set_option linter.unusedSimpArgs false
set_option maxRecDepth 100000
def Nd.er (x : Nd) : Nd := x.lie none 0 none 0
theorem er_no : Nd.no.er = Nd.no := rfl
theorem getD_er (l : List Nd) (i : Nat) : (l.map Nd.er).getD i Nd.no = (l.getD i Nd.no).er := by
 rcases Nat.lt_or_ge i l.length with h | h
 · simp [List.getD, h]
 · simp [List.getD, h, er_no]
theorem plTo_er (l : List Nd) : ∀ m, plTo (l.map Nd.er) m = plTo l m
 | 0 => rfl
 | m + 1 => by
   funext f
   show updF (plTo (l.map Nd.er) m) ((l.map Nd.er).getD m Nd.no).fid (some m) f = updF (plTo l m) (l.getD m Nd.no).fid (some m) f
   rw [plTo_er l m, getD_er]; rfl
theorem N0_er (l : List Nd) (f : Int) : N0 (l.map Nd.er) f = (N0 l f).map fun p => (p.1, p.2.er) := by
 unfold N0 ndF
 rw [List.length_map, plTo_er]
 cases plTo l l.length f with
 | none => rfl
 | some i => simp only [Option.map_some, getD_er]
theorem isDir_er (l : List Nd) (g : Int) : isDirT (N0 (l.map Nd.er)) g = isDirT (N0 l) g := by
 unfold isDirT
 rw [N0_er]
 cases N0 l g with
 | none => rfl
 | some p => rfl
theorem edge_er (l : List Nd) (f g : Int) : Edge (N0 (l.map Nd.er)) f g ↔ Edge (N0 l) f g := by
 constructor
 · rintro ⟨p, x, i, h1, h2, h3, h4⟩
   rw [N0_er] at h1
   cases hN : N0 l f with
   | none => rw [hN] at h1; cases h1
   | some q =>
     rw [hN] at h1
     cases h1
     exact ⟨q.1, q.2, i, hN, h2, h3, by rw [isDir_er] at h4; exact h4⟩
 · rintro ⟨p, x, i, h1, h2, h3, h4⟩
   exact ⟨p, x.er, i, by rw [N0_er, h1]; rfl, h2, h3, by rw [isDir_er]; exact h4⟩
theorem ring_er (l : List Nd) : RingN (N0 (l.map Nd.er)) ↔ RingN (N0 l) := by
 have e : ∀ G, IsPar (N0 (l.map Nd.er)) G ↔ IsPar (N0 l) G := fun G => by
   unfold IsPar
   constructor
   · intro h f g; rw [h f g, edge_er]
   · intro h f g; rw [h f g, edge_er]
 unfold RingN
 simp only [e]
theorem haveTo_er (l : List Nd) (ks : List Kd) : ∀ n, haveTo (N0 (l.map Nd.er)) ks n = haveTo (N0 l) ks n
 | 0 => rfl
 | n + 1 => by
   simp only [haveTo, haveTo_er l ks n, N0_er]
   cases N0 l (ks.getD n Kd.no).fid <;> rfl
theorem upTo_er (l : List Nd) : ∀ m, upTo (l.map Nd.er) m = upTo l m
 | 0 => rfl
 | m + 1 => by
   simp only [upTo, upTo_er l m, getD_er, lastFd]
   rfl
theorem kfs_er (l : List Nd) : kfs (l.map Nd.er) = kfs l := by
 unfold kfs
 rw [List.flatMap_map]
 rfl
theorem linksTo_er (P : List Int) (l : List Nd) : ∀ m, linksTo P (l.map Nd.er) m = linksTo P l m
 | 0 => rfl
 | m + 1 => by
   simp only [linksTo, linksTo_er P l m, getD_er]
   rfl
theorem right_er (l : List Nd) : RightP (l.map Nd.er) ↔ RightP l := by
 unfold RightP fidsUp linksB
 simp only [List.length_map, upTo_er, isDir_er, ring_er, kfs_er, linksTo_er]
 have e : (∀ x ∈ l.map Nd.er, aloneB x = true ∧ haveB (N0 (l.map Nd.er)) x.ks = true) ↔ (∀ x ∈ l, aloneB x = true ∧ haveB (N0 l) x.ks = true) := by
   constructor
   · intro h x hx
     have := h x.er (List.mem_map.2 ⟨x, hx, rfl⟩)
     unfold haveB at this ⊢
     rw [haveTo_er] at this
     exact this
   · intro h x hx
     obtain ⟨y, hy, rfl⟩ := List.mem_map.1 hx
     have := h y hy
     unfold haveB at this ⊢
     rw [haveTo_er]
     exact this
 rw [e]
theorem upTo_pos {l : List Nd} : ∀ {m : Nat}, upTo l m = true → ∀ i, i < m → lastFd l i < (l.getD i Nd.no).fid
 | 0, _, i, hi => by omega
 | m + 1, h, i, hi => by
   unfold upTo at h
   rw [Bool.and_eq_true] at h
   by_cases e : i = m
   · subst e; exact of_decide_eq_true h.2
   · exact upTo_pos h.1 i (by omega)
theorem upTo_pos2 {l : List Nd} {m : Nat} (h : upTo l m = true) : ∀ i, i < m → 0 < (l.getD i Nd.no).fid
 | 0, hi => by have := upTo_pos h 0 hi; simpa [lastFd] using this
 | i + 1, hi => by
   have h1 := upTo_pos h (i + 1) hi
   have h2 := upTo_pos2 h i (by omega)
   rw [lastFd_next] at h1
   omega
theorem kidsTo_of {N : Tab} {l : List Kd} (hp : ∀ f p, N f = some p → f ≠ 0) : ∀ {m : Nat}, namesTo l m = true → haveTo N l m = true → kidsTo l m = true
 | 0, _, _ => rfl
 | m + 1, h, h2 => by
   unfold namesTo at h
   unfold haveTo at h2
   rw [Bool.and_eq_true] at h h2
   unfold kidsTo
   rw [kidsTo_of hp h.1 h2.1, Bool.true_and]
   unfold kOk
   have h3 := h.2
   unfold nmK at h3
   rw [h3, Bool.true_and]
   have h4 := h2.2
   rw [Bool.and_eq_true] at h4
   cases hN : N (l.getD m Kd.no).fid with
   | none => rw [hN] at h4; simp at h4
   | some p => have := hp _ _ hN; simpa using this
def hasTo (l : List Nd) (f : Int) : Nat → Bool
 | 0 => false
 | m + 1 => hasTo l f m || (l.getD m Nd.no).fid == f
def hasF (l : List Nd) (f : Int) : Bool := hasTo l f l.length
theorem has_yes (l : List Nd) (f : Int) (m : Nat) (h : ((l.getD m Nd.no).fid == f) = true) : ∀ d, hasTo l f (m + 1 + d) = true
 | 0 => by simp only [Nat.add_zero, hasTo, h, Bool.or_true]
 | d + 1 => by rw [← Nat.add_assoc]; simp only [hasTo, has_yes l f m h d, Bool.true_or]
theorem hasF_yes {l : List Nd} {f : Int} {m : Nat} (hm : m < l.length) (h : ((l.getD m Nd.no).fid == f) = true) : hasF l f = true := by
 unfold hasF
 obtain ⟨d, hd⟩ : ∃ d, l.length = m + 1 + d := ⟨l.length - (m + 1), by omega⟩
 rw [hd]; exact has_yes l f m h d
set_option maxHeartbeats 2000000 in
theorem get_c (a : Option Addr) (cap : Nat) (l : List Nd) (f : Int) (w : World) (h : IsNs w a l) (hm : l.length ≤ 100000) :
   Calls Tryz.prog 8 #[.slice a l.length cap, .int .u32 f] w fun e w' => (∃ y : Nd, e = .returned (.tuple #[y.val, .bool (hasF l f)])) ∧ Below w.heap.size w w' := by
 have b0 := below_1 w (.cells Nd.no.cells.toArray 37)
 have h0 := heap_alloc_new w (.cells Nd.no.cells.toArray 37)
 have H := hid (h.later b0)
 have B0 := hid b0
 have H0 := hid h0
 obtain ⟨n, hn⟩ : ∃ n, n = l.length := ⟨_, rfl⟩
 have HN := hid hn
 obtain ⟨R, hR⟩ : ∃ R, R = hasF l f := ⟨_, rfl⟩
 have HR := hid hR
 rw [← hR]
 rw [← hn] at hm ⊢
 clear h b0 h0 hn hR
 go_enter Tryz.func8, Tryz.ntmps8
 go_upto_region 1 with fail
 change Code.wp _ _ _ _ (w.alloc (.cells Nd.no.cells.toArray 37))
 generalize (w.alloc (.cells Nd.no.cells.toArray 37)) = V at *
 have fz : ∀ i, V.frozen? ⟨w.heap.size, i, none⟩ = false := fun i => by simp [World.frozen?, H0.out]
 obtain ⟨q0, q1, q2, q3, q4, q5⟩ := nd_cells H0.out
 simp only [Nd.no, List.length_nil] at q0 q1 q2 q3 q4 q5
 go_wp2
 go_loopg [6] n (fun gk i wr => ∃ m : Nat, m + gk = n ∧ i = .int .i64 m ∧ Hid (wr = V) ∧ Hid (hasTo l f m = false))
 case atStart => exact ⟨0, by omega, rfl, hid rfl, hid rfl⟩
 case round =>
   obtain ⟨m, hm2, rfl, HW, HF⟩ := hrel
   have hwr := HW.out
   subst hwr
   by_cases hlt : m < n
   · have hltI : (m : Int) < n := by omega
     have h1 : m < l.length := by rw [← HN.out]; exact hlt
     obtain ⟨b, off, rfl, _⟩ := H.out.2.2 (by omega)
     obtain ⟨y0, y1, y2, y3, y4, y5⟩ := (H.out.at (i := m) h1).all
     have YES := hid (hasF_yes (f := f) h1)
     have NX : Hid (((l.getD m Nd.no).fid == f) = false → hasTo l f (m + 1) = false) := hid (fun h => by simp only [hasTo, HF.out, h, Bool.or_self])
     clear h1
     generalize l.getD m Nd.no = x at *
     by_cases q : x.fid = f
     · have qB : (x.fid == f) = true := by rw [q]; simp
       have ET : Hid (R = true) := hid (by rw [HR.out]; exact YES.out qB)
       clear YES NX HF
       go_wp2
       refine bodyPost_ret (v := .tuple #[x.val, .bool true]) (by simp [results, Tryz.results8, go_sem, Nd.val, q0, q1, q2, q3, q4, q5, q]) rfl ⟨⟨x, by rw [ET.out]⟩, ?_⟩
       exact (((((B0.out.setCell (p := ⟨w.heap.size, 0, none⟩) (Nat.le_refl _) _).setCell (p := ⟨w.heap.size, 1, none⟩) (Nat.le_refl _) _).setCell (p := ⟨w.heap.size, 2, none⟩) (Nat.le_refl _) _).setCell (p := ⟨w.heap.size, 3, none⟩) (Nat.le_refl _) _).setCell (p := ⟨w.heap.size, 4, none⟩) (Nat.le_refl _) _).setCell (p := ⟨w.heap.size, 5, none⟩) (Nat.le_refl _) _
     · have qB : (x.fid == f) = false := beq_eq_false_iff_ne.2 q
       have EX := hid (NX.out qB)
       clear YES NX HF
       go_wp2
       go_roundg (gk - 1)
       case measure => omega
       case rel => exact ⟨m + 1, by omega, by go_num, hid rfl, EX⟩
   · have hge : ¬ (m : Int) < n := by omega
     have EF : Hid (R = false) := hid (by rw [HR.out]; unfold hasF; rw [← HN.out, show n = m by omega]; exact HF.out)
     go_wp2
     refine bodyPost_ret (v := .tuple #[Nd.no.val, .bool false]) (by simp [results, Tryz.results8, go_sem, Nd.val, Nd.no, q0, q1, q2, q3, q4, q5]) rfl ⟨⟨Nd.no, by rw [EF.out]⟩, ?_⟩
     exact (((((B0.out.setCell (p := ⟨w.heap.size, 0, none⟩) (Nat.le_refl _) _).setCell (p := ⟨w.heap.size, 1, none⟩) (Nat.le_refl _) _).setCell (p := ⟨w.heap.size, 2, none⟩) (Nat.le_refl _) _).setCell (p := ⟨w.heap.size, 3, none⟩) (Nat.le_refl _) _).setCell (p := ⟨w.heap.size, 4, none⟩) (Nat.le_refl _) _).setCell (p := ⟨w.heap.size, 5, none⟩) (Nat.le_refl _) _
def upM (x : Nd) (f acc : Int) : Nat → Int
 | 0 => acc
 | m + 1 => bif (x.ks.getD m Kd.no).fid == f then x.fid else upM x f acc m
def upK (l : List Nd) (f : Int) : Nat → Int
 | 0 => 0
 | k + 1 => upM (l.getD k Nd.no) f (upK l f k) (l.getD k Nd.no).ks.length
def upD (l : List Nd) (f : Int) : Int := upK l f l.length
def abN (l : List Nd) (f : Int) : Nat → Int → Bool
 | 0, _ => false
 | n + 1, at' => bif at' == f then true else bif upD l at' == 0 then false else abN l f n (upD l at')
set_option maxHeartbeats 4000000 in
theorem above_c (a : Option Addr) (cap : Nat) (l : List Nd) (f o : Int) (w : World) (h : IsNs w a l) (hm : l.length ≤ 100000) (hk : ∀ x ∈ l, x.ks.length ≤ 100000) :
   Calls Tryz.prog 22 #[.slice a l.length cap, .int .u32 f, .int .u32 o] w fun e w' => e = .returned (.bool (abN l f (l.length + 1) o)) ∧ w' = w := by
 have H := hid h
 have HK := hid hk
 obtain ⟨R, hR⟩ : ∃ R, R = abN l f (l.length + 1) o := ⟨_, rfl⟩
 rw [← hR]
 have UD : Hid (∀ v, upD l v = upK l v l.length) := hid (fun v => rfl)
 obtain ⟨n, hn⟩ : ∃ n, n = l.length := ⟨_, rfl⟩
 have HN := hid hn
 rw [← hn] at hm hR UD ⊢
 have HR := hid hR
 clear h hk hn hR
 go_enter Tryz.func22, Tryz.ntmps22
 go_wp2
 go_loopg [7, 8] (n + 1) (fun gk v7 v8 wr => ∃ (i : Nat) (t : Int), i + gk = n + 1 ∧ v7 = .int .u32 t ∧ v8 = .int .i64 i ∧ Hid (wr = w) ∧ Hid (R = abN l f gk t))
 case atStart => exact ⟨0, o, by omega, rfl, rfl, hid rfl, HR⟩
 case round =>
   clear HR
   obtain ⟨i, t, hi, rfl, rfl, HW, HA⟩ := hrel
   have hwr := HW.out.symm
   subst hwr
   by_cases hlt : i ≤ n
   · have hltI : (i : Int) ≤ n := by omega
     obtain ⟨g1, rfl⟩ : ∃ g1, gk = g1 + 1 := ⟨gk - 1, by omega⟩
     have EA : Hid (R = bif t == f then true else bif upD l t == 0 then false else abN l f g1 (upD l t)) := hid HA.out
     clear HA
     by_cases q : t = f
     · have qB : (t == f) = true := by rw [q]; simp
       have EF : Hid (R = true) := hid (by rw [EA.out, qB]; rfl)
       clear EA
       go_wp2
       go_ret
       exact ⟨ret_bool' EF.out.symm, rfl⟩
     · have qB : (t == f) = false := beq_eq_false_iff_ne.2 q
       have EA2 : Hid (R = bif upD l t == 0 then false else abN l f g1 (upD l t)) := hid (by rw [EA.out, qB]; rfl)
       clear EA q
       go_wp2
       obtain ⟨go, hgo⟩ : ∃ go, go = g1 := ⟨_, rfl⟩
       subst hgo
       go_loopg [9, 10] n (fun gk v9 v10 wr => ∃ k : Nat, k + gk = n ∧ v9 = .int .u32 (upK l t k) ∧ v10 = .int .i64 k ∧ Hid (wr = w))
       case atStart => exact ⟨0, by omega, rfl, rfl, hid rfl⟩
       case round =>
         obtain ⟨k, hk2, rfl, rfl, HW2⟩ := hrel
         have hwr := HW2.out.symm
         subst hwr
         by_cases hlt2 : k < n
         · have hltI2 : (k : Int) < n := by omega
           have hln : k < l.length := by rw [← HN.out]; exact hlt2
           obtain ⟨b, off, rfl, _⟩ := H.out.2.2 (by omega)
           obtain ⟨y0, _, _, _, _, y5⟩ := (H.out.at (i := k) hln).all
           have HO := hid (H.out.ok (i := k) hln)
           have h12 := HK.out _ (getD_mem l Nd.no hln)
           have UK : Hid (upK l t (k + 1) = upM (l.getD k Nd.no) t (upK l t k) (l.getD k Nd.no).ks.length) := hid rfl
           clear hln
           generalize l.getD k Nd.no = x at *
           obtain ⟨fid, kk, md, ln, da, dc, zs, ka, kc, ks⟩ := x
           simp only at *
           obtain ⟨u0, hu0⟩ : ∃ u0, u0 = upK l t k := ⟨_, rfl⟩
           rw [← hu0] at UK ⊢
           clear hu0
           obtain ⟨nk, hnk⟩ : ∃ nk, nk = ks.length := ⟨_, rfl⟩
           rw [← hnk] at y5 h12 UK
           have HNK := hid hnk
           clear hnk
           go_wp2
           obtain ⟨gp, hgp⟩ : ∃ gp, gp = gk := ⟨_, rfl⟩
           subst hgp
           go_loopg [9, 11] nk (fun gk v9 v11 wr => ∃ j : Nat, j + gk = nk ∧ v9 = .int .u32 (upM ⟨fid, kk, md, ln, da, dc, zs, ka, kc, ks⟩ t u0 j) ∧ v11 = .int .i64 j ∧ Hid (wr = w))
           case atStart => exact ⟨0, by omega, rfl, rfl, hid rfl⟩
           case round =>
             obtain ⟨j, hj2, rfl, rfl, HW3⟩ := hrel
             have hwr := HW3.out.symm
             subst hwr
             by_cases hlt3 : j < nk
             · have hltI3 : (j : Int) < nk := by omega
               have hjk : j < ks.length := by rw [← HNK.out]; exact hlt3
               have hKs := HO.out.2.2.2.2.2
               obtain ⟨b1, off1, rfl, _⟩ := hKs.2.2 (by simp only; omega)
               obtain ⟨k0, k1⟩ := hKs.at (i := j) hjk
               simp only at k0 k1
               have UM : Hid (upM ⟨fid, kk, md, ln, da, dc, zs, some ⟨b1, off1, none⟩, kc, ks⟩ t u0 (j + 1) = bif (ks.getD j Kd.no).fid == t then fid else upM ⟨fid, kk, md, ln, da, dc, zs, some ⟨b1, off1, none⟩, kc, ks⟩ t u0 j) := hid rfl
               obtain ⟨u1, hu1⟩ : ∃ u1, u1 = upM ⟨fid, kk, md, ln, da, dc, zs, some ⟨b1, off1, none⟩, kc, ks⟩ t u0 j := ⟨_, rfl⟩
               rw [← hu1] at UM ⊢
               clear hu1 hKs hjk
               generalize ks.getD j Kd.no = y at *
               by_cases qy : y.fid = t
               · have qyB : (y.fid == t) = true := by rw [qy]; simp
                 have EU := hid (by have := UM.out; rw [qyB] at this; exact this)
                 clear UM qy
                 go_wp2
                 go_roundg (gk - 1)
                 case measure => omega
                 case rel => exact ⟨j + 1, by omega, by rw [EU.out]; rfl, by go_num, hid rfl⟩
               · have qyB : (y.fid == t) = false := beq_eq_false_iff_ne.2 qy
                 have EU := hid (by have := UM.out; rw [qyB] at this; exact this)
                 clear UM qy
                 go_wp2
                 go_roundg (gk - 1)
                 case measure => omega
                 case rel => exact ⟨j + 1, by omega, by rw [EU.out]; rfl, by go_num, hid rfl⟩
             · have hge3 : ¬ (j : Int) < nk := by omega
               obtain rfl : j = nk := by omega
               go_wp2
               go_roundg (gp - 1)
               case measure => omega
               case rel => exact ⟨k + 1, by omega, by rw [UK.out], by go_num, hid rfl⟩
         · have hge2 : ¬ (k : Int) < n := by omega
           obtain rfl : k = n := by omega
           have EA3 : Hid (R = bif upK l t k == 0 then false else abN l f go (upK l t k)) := hid (by rw [EA2.out, UD.out])
           clear EA2 UD
           generalize upK l t k = u at *
           by_cases q0 : u = 0
           · have q0B : (u == 0) = true := by rw [q0]; rfl
             have EF : Hid (R = false) := hid (by rw [EA3.out, q0B]; rfl)
             clear EA3
             go_wp2
             go_ret
             exact ⟨ret_bool' EF.out.symm, rfl⟩
           · have q0B : (u == 0) = false := beq_eq_false_iff_ne.2 q0
             have EF : Hid (R = abN l f go u) := hid (by rw [EA3.out, q0B]; rfl)
             clear EA3
             go_wp2
             go_roundg go
             case measure => omega
             case rel => exact ⟨i + 1, u, by omega, rfl, by go_num, hid rfl, EF⟩
   · have hge : ¬ (i : Int) ≤ n := by omega
     obtain rfl : gk = 0 := by omega
     have EF : Hid (R = false) := HA
     go_wp2
     go_ret
     exact ⟨ret_bool' EF.out.symm, rfl⟩
end Go.Proofs.YtkokjkaclcjnjaaGreatDoor
