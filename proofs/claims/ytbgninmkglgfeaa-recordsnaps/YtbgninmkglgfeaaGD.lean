/-
  The document's Get and above (backwaterref06).
  The document's Right (backwaterref06).
  The program's Right and the document's are the same.
  The program's Right and the document's are the same, at last; RightSnapshot of the document.
-/
import Derived.Test.YtbgninmkglgfeaaGS
import Derived.BigQuiet
import Derived.Test.YtbgninmkglgfeaaRN2
namespace Go.Proofs.Ytbgninmkglgfeaa
open Go.RowKit Go.ChangeShapes Go.WideShapes Go.ChangeAt Go.Maps
set_option linter.unusedVariables false
set_option linter.unusedSimpArgs false
set_option maxRecDepth 100000
def hasTo (l : List Nd) (f : Int) : Nat → Bool
  | 0 => false
  | m + 1 => hasTo l f m || (l.getD m Nd.no).fid == f
/-- Is there a node with a fid? -/
def hasF (l : List Nd) (f : Int) : Bool := hasTo l f l.length
theorem has_yes (l : List Nd) (f : Int) (m : Nat) (h : ((l.getD m Nd.no).fid == f) = true) : ∀ d, hasTo l f (m + 1 + d) = true
  | 0 => by simp only [Nat.add_zero, hasTo, h, Bool.or_true]
  | d + 1 => by rw [← Nat.add_assoc]; simp only [hasTo, has_yes l f m h d, Bool.true_or]
theorem hasF_yes {l : List Nd} {f : Int} {m : Nat} (hm : m < l.length) (h : ((l.getD m Nd.no).fid == f) = true) : hasF l f = true := by
  unfold hasF
  obtain ⟨d, hd⟩ : ∃ d, l.length = m + 1 + d := ⟨l.length - (m + 1), by omega⟩
  rw [hd]; exact has_yes l f m h d
set_option maxHeartbeats 2000000 in
theorem get_c (a : Option Addr) (cap : Nat) (l : List Nd) (f : Int) (w : World) (h : IsNs w a l) (hm : l.length ≤ 100000) :
    Calls Try.prog 109 #[.slice a l.length cap, .int .u32 f] w fun e w' => (∃ y : Nd, e = .returned (.tuple #[y.val, .bool (hasF l f)])) ∧ Below w.heap.size w w' := by
  have b0 := below_1 w (.cells Nd.no.cells.toArray 39)
  have h0 := heap_alloc_new w (.cells Nd.no.cells.toArray 39)
  have H := hid (h.later b0)
  have B0 := hid b0
  have H0 := hid h0
  obtain ⟨n, hn⟩ : ∃ n, n = l.length := ⟨_, rfl⟩
  have HN := hid hn
  obtain ⟨R, hR⟩ : ∃ R, R = hasF l f := ⟨_, rfl⟩
  have HR := hid hR
  rw [← hR]
  rw [← hn] at hm ⊢
  clear h b0 h0 hn hR
  go_enter Try.func109, Try.ntmps109
  go_upto_region 1 with fail
  change Code.wp _ _ _ _ (w.alloc (.cells Nd.no.cells.toArray 39))
  generalize (w.alloc (.cells Nd.no.cells.toArray 39)) = V at *
  have fz : ∀ i, V.frozen? ⟨w.heap.size, i, none⟩ = false := fun i => by simp [World.frozen?, H0.out]
  obtain ⟨q0, q1, q2, q3, q4, q5⟩ := nd_cells H0.out
  simp only [Nd.no, List.length_nil] at q0 q1 q2 q3 q4 q5
  go_wp2
  go_loopg [6] n (fun gk i wr => ∃ m : Nat, m + gk = n ∧ i = .int .i64 m ∧ Hid (wr = V) ∧ Hid (hasTo l f m = false))
  case atStart => exact ⟨0, by omega, rfl, hid rfl, hid rfl⟩
  case round =>
    obtain ⟨m, hm2, rfl, HW, HF⟩ := hrel
    have hwr := HW.out
    subst hwr
    by_cases hlt : m < n
    · have hltI : (m : Int) < n := by omega
      have h1 : m < l.length := by rw [← HN.out]; exact hlt
      obtain ⟨b, off, rfl, _⟩ := H.out.2.2 (by omega)
      obtain ⟨y0, y1, y2, y3, y4, y5⟩ := (H.out.at (i := m) h1).all
      have YES := hid (hasF_yes (f := f) h1)
      have NX : Hid (((l.getD m Nd.no).fid == f) = false → hasTo l f (m + 1) = false) := hid (fun h => by simp only [hasTo, HF.out, h, Bool.or_self])
      clear h1
      generalize l.getD m Nd.no = x at *
      by_cases q : x.fid = f
      · have qB : (x.fid == f) = true := by rw [q]; simp
        have ET : Hid (R = true) := hid (by rw [HR.out]; exact YES.out qB)
        clear YES NX HF
        go_wp2
        refine bodyPost_ret (v := .tuple #[x.val, .bool true]) (by simp [results, Try.results109, go_sem, Nd.val, q0, q1, q2, q3, q4, q5, q]) rfl ⟨⟨x, by rw [ET.out]⟩, ?_⟩
        exact (((((B0.out.setCell (p := ⟨w.heap.size, 0, none⟩) (Nat.le_refl _) _).setCell (p := ⟨w.heap.size, 1, none⟩) (Nat.le_refl _) _).setCell (p := ⟨w.heap.size, 2, none⟩) (Nat.le_refl _) _).setCell (p := ⟨w.heap.size, 3, none⟩) (Nat.le_refl _) _).setCell (p := ⟨w.heap.size, 4, none⟩) (Nat.le_refl _) _).setCell (p := ⟨w.heap.size, 5, none⟩) (Nat.le_refl _) _
      · have qB : (x.fid == f) = false := beq_eq_false_iff_ne.2 q
        have EX := hid (NX.out qB)
        clear YES NX HF
        go_wp2
        go_roundg (gk - 1)
        case measure => omega
        case rel => exact ⟨m + 1, by omega, by go_num, hid rfl, EX⟩
    · have hge : ¬ (m : Int) < n := by omega
      have EF : Hid (R = false) := hid (by rw [HR.out]; unfold hasF; rw [← HN.out, show n = m by omega]; exact HF.out)
      go_wp2
      refine bodyPost_ret (v := .tuple #[Nd.no.val, .bool false]) (by simp [results, Try.results109, go_sem, Nd.val, Nd.no, q0, q1, q2, q3, q4, q5]) rfl ⟨⟨Nd.no, by rw [EF.out]⟩, ?_⟩
      exact (((((B0.out.setCell (p := ⟨w.heap.size, 0, none⟩) (Nat.le_refl _) _).setCell (p := ⟨w.heap.size, 1, none⟩) (Nat.le_refl _) _).setCell (p := ⟨w.heap.size, 2, none⟩) (Nat.le_refl _) _).setCell (p := ⟨w.heap.size, 3, none⟩) (Nat.le_refl _) _).setCell (p := ⟨w.heap.size, 4, none⟩) (Nat.le_refl _) _).setCell (p := ⟨w.heap.size, 5, none⟩) (Nat.le_refl _) _
/-- The last node of a list that has an entry with a fid: its own fid, or what stood there before. -/
def upM (x : Nd) (f acc : Int) : Nat → Int
  | 0 => acc
  | m + 1 => bif (x.ks.getD m Kd.no).fid == f then x.fid else upM x f acc m
def upK (l : List Nd) (f : Int) : Nat → Int
  | 0 => 0
  | k + 1 => upM (l.getD k Nd.no) f (upK l f k) (l.getD k Nd.no).ks.length
def upD (l : List Nd) (f : Int) : Int := upK l f l.length
/-- Is one above another within so many steps? -/
def abN (l : List Nd) (f : Int) : Nat → Int → Bool
  | 0, _ => false
  | n + 1, at' => bif at' == f then true else bif upD l at' == 0 then false else abN l f n (upD l at')
set_option maxHeartbeats 4000000 in
theorem above_c (a : Option Addr) (cap : Nat) (l : List Nd) (f o : Int) (w : World) (h : IsNs w a l) (hm : l.length ≤ 100000) (hk : ∀ x ∈ l, x.ks.length ≤ 100000) :
    Calls Try.prog 110 #[.slice a l.length cap, .int .u32 f, .int .u32 o] w fun e w' => e = .returned (.bool (abN l f (l.length + 1) o)) ∧ w' = w := by
  have H := hid h
  have HK := hid hk
  obtain ⟨R, hR⟩ : ∃ R, R = abN l f (l.length + 1) o := ⟨_, rfl⟩
  rw [← hR]
  have UD : Hid (∀ v, upD l v = upK l v l.length) := hid (fun v => rfl)
  obtain ⟨n, hn⟩ : ∃ n, n = l.length := ⟨_, rfl⟩
  have HN := hid hn
  rw [← hn] at hm hR UD ⊢
  have HR := hid hR
  clear h hk hn hR
  go_enter Try.func110, Try.ntmps110
  go_wp2
  go_loopg [7, 8] (n + 1) (fun gk v7 v8 wr => ∃ (i : Nat) (t : Int), i + gk = n + 1 ∧ v7 = .int .u32 t ∧ v8 = .int .i64 i ∧ Hid (wr = w) ∧ Hid (R = abN l f gk t))
  case atStart => exact ⟨0, o, by omega, rfl, rfl, hid rfl, HR⟩
  case round =>
    clear HR
    obtain ⟨i, t, hi, rfl, rfl, HW, HA⟩ := hrel
    have hwr := HW.out.symm
    subst hwr
    by_cases hlt : i ≤ n
    · have hltI : (i : Int) ≤ n := by omega
      obtain ⟨g1, rfl⟩ : ∃ g1, gk = g1 + 1 := ⟨gk - 1, by omega⟩
      have EA : Hid (R = bif t == f then true else bif upD l t == 0 then false else abN l f g1 (upD l t)) := hid HA.out
      clear HA
      by_cases q : t = f
      · have qB : (t == f) = true := by rw [q]; simp
        have EF : Hid (R = true) := hid (by rw [EA.out, qB]; rfl)
        clear EA
        go_wp2
        go_ret
        exact ⟨ret_bool' EF.out.symm, rfl⟩
      · have qB : (t == f) = false := beq_eq_false_iff_ne.2 q
        have EA2 : Hid (R = bif upD l t == 0 then false else abN l f g1 (upD l t)) := hid (by rw [EA.out, qB]; rfl)
        clear EA q
        go_wp2
        obtain ⟨go, hgo⟩ : ∃ go, go = g1 := ⟨_, rfl⟩
        subst hgo
        go_loopg [9, 10] n (fun gk v9 v10 wr => ∃ k : Nat, k + gk = n ∧ v9 = .int .u32 (upK l t k) ∧ v10 = .int .i64 k ∧ Hid (wr = w))
        case atStart => exact ⟨0, by omega, rfl, rfl, hid rfl⟩
        case round =>
          obtain ⟨k, hk2, rfl, rfl, HW2⟩ := hrel
          have hwr := HW2.out.symm
          subst hwr
          by_cases hlt2 : k < n
          · have hltI2 : (k : Int) < n := by omega
            have hln : k < l.length := by rw [← HN.out]; exact hlt2
            obtain ⟨b, off, rfl, _⟩ := H.out.2.2 (by omega)
            obtain ⟨y0, _, _, _, _, y5⟩ := (H.out.at (i := k) hln).all
            have HO := hid (H.out.ok (i := k) hln)
            have h12 := HK.out _ (getD_mem l Nd.no hln)
            have UK : Hid (upK l t (k + 1) = upM (l.getD k Nd.no) t (upK l t k) (l.getD k Nd.no).ks.length) := hid rfl
            clear hln
            generalize l.getD k Nd.no = x at *
            obtain ⟨fid, kk, md, ln, da, dc, zs, ka, kc, ks⟩ := x
            simp only at *
            obtain ⟨u0, hu0⟩ : ∃ u0, u0 = upK l t k := ⟨_, rfl⟩
            rw [← hu0] at UK ⊢
            clear hu0
            obtain ⟨nk, hnk⟩ : ∃ nk, nk = ks.length := ⟨_, rfl⟩
            rw [← hnk] at y5 h12 UK
            have HNK := hid hnk
            clear hnk
            go_wp2
            obtain ⟨gp, hgp⟩ : ∃ gp, gp = gk := ⟨_, rfl⟩
            subst hgp
            go_loopg [9, 11] nk (fun gk v9 v11 wr => ∃ j : Nat, j + gk = nk ∧ v9 = .int .u32 (upM ⟨fid, kk, md, ln, da, dc, zs, ka, kc, ks⟩ t u0 j) ∧ v11 = .int .i64 j ∧ Hid (wr = w))
            case atStart => exact ⟨0, by omega, rfl, rfl, hid rfl⟩
            case round =>
              obtain ⟨j, hj2, rfl, rfl, HW3⟩ := hrel
              have hwr := HW3.out.symm
              subst hwr
              by_cases hlt3 : j < nk
              · have hltI3 : (j : Int) < nk := by omega
                have hjk : j < ks.length := by rw [← HNK.out]; exact hlt3
                have hKs := HO.out.2.2.2.2.2
                obtain ⟨b1, off1, rfl, _⟩ := hKs.2.2 (by simp only; omega)
                obtain ⟨k0, k1⟩ := hKs.at (i := j) hjk
                simp only at k0 k1
                have UM : Hid (upM ⟨fid, kk, md, ln, da, dc, zs, some ⟨b1, off1, none⟩, kc, ks⟩ t u0 (j + 1) = bif (ks.getD j Kd.no).fid == t then fid else upM ⟨fid, kk, md, ln, da, dc, zs, some ⟨b1, off1, none⟩, kc, ks⟩ t u0 j) := hid rfl
                obtain ⟨u1, hu1⟩ : ∃ u1, u1 = upM ⟨fid, kk, md, ln, da, dc, zs, some ⟨b1, off1, none⟩, kc, ks⟩ t u0 j := ⟨_, rfl⟩
                rw [← hu1] at UM ⊢
                clear hu1 hKs hjk
                generalize ks.getD j Kd.no = y at *
                by_cases qy : y.fid = t
                · have qyB : (y.fid == t) = true := by rw [qy]; simp
                  have EU := hid (by have := UM.out; rw [qyB] at this; exact this)
                  clear UM qy
                  go_wp2
                  go_roundg (gk - 1)
                  case measure => omega
                  case rel => exact ⟨j + 1, by omega, by rw [EU.out]; rfl, by go_num, hid rfl⟩
                · have qyB : (y.fid == t) = false := beq_eq_false_iff_ne.2 qy
                  have EU := hid (by have := UM.out; rw [qyB] at this; exact this)
                  clear UM qy
                  go_wp2
                  go_roundg (gk - 1)
                  case measure => omega
                  case rel => exact ⟨j + 1, by omega, by rw [EU.out]; rfl, by go_num, hid rfl⟩
              · have hge3 : ¬ (j : Int) < nk := by omega
                obtain rfl : j = nk := by omega
                go_wp2
                go_roundg (gp - 1)
                case measure => omega
                case rel => exact ⟨k + 1, by omega, by rw [UK.out], by go_num, hid rfl⟩
          · have hge2 : ¬ (k : Int) < n := by omega
            obtain rfl : k = n := by omega
            have EA3 : Hid (R = bif upK l t k == 0 then false else abN l f go (upK l t k)) := hid (by rw [EA2.out, UD.out])
            clear EA2 UD
            generalize upK l t k = u at *
            by_cases q0 : u = 0
            · have q0B : (u == 0) = true := by rw [q0]; rfl
              have EF : Hid (R = false) := hid (by rw [EA3.out, q0B]; rfl)
              clear EA3
              go_wp2
              go_ret
              exact ⟨ret_bool' EF.out.symm, rfl⟩
            · have q0B : (u == 0) = false := beq_eq_false_iff_ne.2 q0
              have EF : Hid (R = abN l f go u) := hid (by rw [EA3.out, q0B]; rfl)
              clear EA3
              go_wp2
              go_roundg go
              case measure => omega
              case rel => exact ⟨i + 1, u, by omega, rfl, by go_num, hid rfl, EF⟩
    · have hge : ¬ (i : Int) ≤ n := by omega
      obtain rfl : gk = 0 := by omega
      have EF : Hid (R = false) := HA
      go_wp2
      go_ret
      exact ⟨ret_bool' EF.out.symm, rfl⟩
end Go.Proofs.Ytbgninmkglgfeaa
namespace Go.Proofs.Ytbgninmkglgfeaa
open Go.RowKit Go.ChangeShapes Go.WideShapes Go.ChangeAt Go.Maps Go.Shelf
set_option linter.unusedVariables false
set_option linter.unusedSimpArgs false
set_option maxRecDepth 100000
/-- Do entries lead to nodes other than the root? -/
def dKid (l : List Nd) (ks : List Kd) : Nat → Bool
  | 0 => true
  | m + 1 => dKid l ks m && (hasF l (ks.getD m Kd.no).fid && (ks.getD m Kd.no).fid != 1)
def dA (l : List Nd) (i : Nat) : Bool := nodeOk (l.getD i Nd.no) && decide (lastFd l i < (l.getD i Nd.no).fid)
def dOne (l : List Nd) (i : Nat) : Bool := dA l i && dKid l (l.getD i Nd.no).ks (l.getD i Nd.no).ks.length
def dTo (l : List Nd) : Nat → Bool
  | 0 => true
  | m + 1 => dTo l m && dOne l m
def rtB (x : Nd) : Bool := x.fid == 1 && (x.k == 2 && x.ln == 0)
def rtTo (l : List Nd) : Nat → Bool
  | 0 => false
  | m + 1 => rtTo l m || rtB (l.getD m Nd.no)
def lkA (c : Int) (x : Nd) : Bool := x.fid == 1 || !(decide (c < 1) || (c != x.ln || (x.k == 2 && c != 1)))
def lkU (l : List Nd) (x : Nd) : Bool := !(x.k == 2) || abN l 1 (l.length + 1) x.fid
def lkOne (l : List Nd) (x : Nd) : Bool := lkA ((kfs l).count x.fid : Int) x && lkU l x
def lkTo (l : List Nd) : Nat → Bool
  | 0 => true
  | m + 1 => lkTo l m && lkOne l (l.getD m Nd.no)
/-- Are nodes a tree, as the document has it? -/
def rightD (l : List Nd) : Bool := decide (l.length ≤ 40) && (dTo l l.length && (rtTo l l.length && lkTo l l.length))
theorem dKid_no (l : List Nd) (ks : List Kd) (m : Nat) (h : (hasF l (ks.getD m Kd.no).fid && (ks.getD m Kd.no).fid != 1) = false) : ∀ d, dKid l ks (m + 1 + d) = false
  | 0 => by simp only [Nat.add_zero, dKid, h, Bool.and_false]
  | d + 1 => by rw [← Nat.add_assoc]; simp only [dKid, dKid_no l ks m h d, Bool.false_and]
theorem dKid_no2 {l : List Nd} {ks : List Kd} {m : Nat} (hm : m < ks.length) (h : (hasF l (ks.getD m Kd.no).fid && (ks.getD m Kd.no).fid != 1) = false) : dKid l ks ks.length = false := by
  obtain ⟨d, hd⟩ : ∃ d, ks.length = m + 1 + d := ⟨ks.length - (m + 1), by omega⟩
  rw [hd]; exact dKid_no l ks m h d
theorem dTo_no (l : List Nd) (m : Nat) (h : dOne l m = false) : ∀ d, dTo l (m + 1 + d) = false
  | 0 => by simp only [Nat.add_zero, dTo, h, Bool.and_false]
  | d + 1 => by rw [← Nat.add_assoc]; simp only [dTo, dTo_no l m h d, Bool.false_and]
theorem rightD_no1 {l : List Nd} {m : Nat} (hm : m < l.length) (h : dOne l m = false) : rightD l = false := by
  unfold rightD
  obtain ⟨d, hd⟩ : ∃ d, l.length = m + 1 + d := ⟨l.length - (m + 1), by omega⟩
  have : dTo l l.length = false := by rw [hd]; exact dTo_no l m h d
  rw [this]; simp
theorem lkTo_no (l : List Nd) (m : Nat) (h : lkOne l (l.getD m Nd.no) = false) : ∀ d, lkTo l (m + 1 + d) = false
  | 0 => by simp only [Nat.add_zero, lkTo, h, Bool.and_false]
  | d + 1 => by rw [← Nat.add_assoc]; simp only [lkTo, lkTo_no l m h d, Bool.false_and]
theorem rightD_no2 {l : List Nd} {m : Nat} (hm : m < l.length) (h : lkOne l (l.getD m Nd.no) = false) : rightD l = false := by
  unfold rightD
  obtain ⟨d, hd⟩ : ∃ d, l.length = m + 1 + d := ⟨l.length - (m + 1), by omega⟩
  have : lkTo l l.length = false := by rw [hd]; exact lkTo_no l m h d
  rw [this]; simp
theorem dTo_at {l : List Nd} : ∀ {m : Nat}, dTo l m = true → ∀ i, i < m → dOne l i = true
  | 0, _, i, hi => by omega
  | m + 1, h, i, hi => by
    unfold dTo at h
    rw [Bool.and_eq_true] at h
    by_cases e : i = m
    · subst e; exact h.2
    · exact dTo_at h.1 i (by omega)
theorem dTo_ok {l : List Nd} (h : dTo l l.length = true) : ∀ x ∈ l, nodeOk x = true := fun x hx => by
  obtain ⟨i, hi, rfl⟩ := List.getElem_of_mem hx
  have := dTo_at h i hi
  unfold dOne dA at this
  rw [Bool.and_eq_true, Bool.and_eq_true, show l.getD i Nd.no = l[i] by simp [List.getD, hi]] at this
  exact this.1.1
theorem nodeOk_few {x : Nd} (h : nodeOk x = true) : x.ks.length ≤ 12 := by
  unfold nodeOk at h
  simp only [Bool.and_eq_true, Bool.not_eq_true', Bool.or_eq_false_iff, decide_eq_false_iff_not] at h
  omega
theorem nodeOk_pos {x : Nd} (h : nodeOk x = true) : x.fid ≠ 0 := by
  unfold nodeOk at h
  simp only [Bool.and_eq_true, Bool.not_eq_true', Bool.or_eq_false_iff, beq_eq_false_iff_ne] at h
  exact h.1.1.1
set_option maxHeartbeats 16000000 in
theorem rRight_c (a : Option Addr) (cap : Nat) (l : List Nd) (w : World) (h : IsNs w a l) (hm : l.length ≤ 100000) :
    Calls Try.prog 81 #[.slice a l.length cap] w fun e w' => e = .returned (.bool (rightD l)) ∧ Below w.heap.size w w' := by
  by_cases q40 : 40 < l.length
  · have qI : (40 : Int) < l.length := by omega
    have e : rightD l = false := by unfold rightD; rw [decide_eq_false (by omega)]; rfl
    rw [e]
    clear h
    go_enter Try.func81, Try.ntmps81
    go_wp2
    go_ret
    exact ⟨rfl, Below.refl _ _⟩
  have H := hid h
  have GC := hid (fun f W (hW : Below w.heap.size w W) => get_c a cap l f W (h.later hW) hm)
  have AC := hid (fun o W (hW : Below w.heap.size w W) (hk : ∀ x ∈ l, x.ks.length ≤ 100000) => above_c a cap l 1 o W (h.later hW) hm hk)
  obtain ⟨R, hR⟩ : ∃ R, R = rightD l := ⟨_, rfl⟩
  have HR := hid hR
  rw [← hR]
  have RE : Hid (l.length ≤ 40 → R = (dTo l l.length && (rtTo l l.length && lkTo l l.length))) := hid (fun h40 => by rw [hR]; unfold rightD; rw [decide_eq_true h40]; rfl)
  obtain ⟨n, hn⟩ : ∃ n, n = l.length := ⟨_, rfl⟩
  have HN := hid hn
  rw [← hn] at hm q40 GC AC RE ⊢
  have qI : ¬ (40 : Int) < n := by omega
  clear h hn hR
  go_enter Try.func81, Try.ntmps81
  go_wp2
  go_loopg [3, 4] n (fun gk v3 v4 wr => ∃ m : Nat, m + gk = n ∧ v3 = .bool (rtTo l m) ∧ v4 = .int .i64 m ∧ Hid (Below w.heap.size w wr) ∧ Hid (dTo l m = true))
  case atStart => exact ⟨0, by omega, rfl, rfl, hid (Below.refl _ _), hid rfl⟩
  case round =>
    obtain ⟨m, hm2, rfl, rfl, HB, HD⟩ := hrel
    by_cases hlt : m < n
    · have hltI : (m : Int) < n := by omega
      have h0I : (0 : Int) ≤ m := by omega
      have hln : m < l.length := by rw [← HN.out]; exact hlt
      obtain ⟨b, off, rfl, _⟩ := H.out.2.2 (by omega)
      have hI := H.out.later HB.out
      have HO := hid (hI.ok (i := m) hln)
      have hx := hI.at (i := m) hln
      obtain ⟨y0, y1, y2, y3, y4, y5⟩ := hx.all
      have NO := hid (rightD_no1 (l := l) (m := m) hln)
      have NX : Hid (dOne l m = true → dTo l (m + 1) = true) := hid (fun h => by simp only [dTo, HD.out, h, Bool.and_self])
      have RX : Hid (rtTo l (m + 1) = (rtTo l m || rtB (l.getD m Nd.no))) := hid rfl
      have PV : Hid (∀ p, m = p + 1 → wr.cell? ⟨b, off + p * 6, none⟩ = some (.int .u32 (lastFd l m))) := hid (fun p hp => by
        have := (hI.at (i := p) (by omega)).all.1
        rw [hp, lastFd_next]; exact this)
      have PZ : Hid (m = 0 → lastFd l m = 0) := hid (fun h => by rw [h]; rfl)
      unfold dOne dA at NO NX
      clear hI hx hln
      have bA := below_1 wr (.cells (l.getD m Nd.no).cells.toArray 39)
      have HX := hid (heap_alloc_new wr (.cells (l.getD m Nd.no).cells.toArray 39))
      have BV := hid (HB.out.trans (bA.mono HB.out.size))
      have BA := hid bA
      have OC := hid (fun W (hW : Below wr.heap.size wr W) => alone_c (l.getD m Nd.no) W (HO.out.later hW))
      clear bA
      generalize l.getD m Nd.no = x at *
      generalize lastFd l m = lf at *
      generalize rtTo l m = rt at *
      have XP : Hid (nodeOk x = true → 0 < x.fid) := hid (fun h => by have := nodeOk_pos h; have := HO.out.1.1; omega)
      have XF : Hid (nodeOk x = true → x.ks.length ≤ 12) := hid (fun h => nodeOk_few h)
      obtain ⟨ok, hok⟩ : ∃ ok, ok = nodeOk x := ⟨_, rfl⟩
      rw [← hok] at NO NX OC XP XF
      clear hok
      obtain ⟨fid, k, md, ln, da, dc, zs, ka, kc, ks⟩ := x
      simp only [Nd.cells, Nd.val] at *
      go_upto_region 8 with fail
      generalize wr.alloc (.cells #[.int .u32 fid, .int .u8 k, .int .u16 md, .int .u16 ln, .slice da zs.length dc, .slice ka ks.length kc] 39) = V at *
      have l0 : ∀ w', Below V.heap.size V w' → w'.cell? ⟨wr.heap.size, 0, none⟩ = some (.int .u32 fid) := fun w' h => cell_of_row2 ((h.block _ (lt_blkR HX.out)).trans HX.out) 0 rfl
      have l1 : ∀ w', Below V.heap.size V w' → w'.cell? ⟨wr.heap.size, 1, none⟩ = some (.int .u8 k) := fun w' h => cell_of_row2 ((h.block _ (lt_blkR HX.out)).trans HX.out) 1 rfl
      have l2 : ∀ w', Below V.heap.size V w' → w'.cell? ⟨wr.heap.size, 2, none⟩ = some (.int .u16 md) := fun w' h => cell_of_row2 ((h.block _ (lt_blkR HX.out)).trans HX.out) 2 rfl
      have l3 : ∀ w', Below V.heap.size V w' → w'.cell? ⟨wr.heap.size, 3, none⟩ = some (.int .u16 ln) := fun w' h => cell_of_row2 ((h.block _ (lt_blkR HX.out)).trans HX.out) 3 rfl
      have l4 : ∀ w', Below V.heap.size V w' → w'.cell? ⟨wr.heap.size, 4, none⟩ = some (.slice da zs.length dc) := fun w' h => cell_of_row2 ((h.block _ (lt_blkR HX.out)).trans HX.out) 4 rfl
      have l5 : ∀ w', Below V.heap.size V w' → w'.cell? ⟨wr.heap.size, 5, none⟩ = some (.slice ka ks.length kc) := fun w' h => cell_of_row2 ((h.block _ (lt_blkR HX.out)).trans HX.out) 5 rfl
      have OD := hid (fun W (hW : Below V.heap.size V W) => OC.out W (BA.out.trans (hW.mono BA.out.size)))
      clear OC y0 y1 y2 y3 y4 y5
      go_cut [44] from 27 to 44 (fun s44 wx => s44 = .bool (!(ok && decide (lf < fid))) ∧ ∃ wy, wy = wx ∧ Hid (Below V.heap.size V wy))
      case first =>
        cases ok with
        | false =>
          refine wp_region_class (by kernel_rfl) (by kernel_rfl) ?_
          repeat (first
            | go_big_quiet_skip
            | (go_big_quiet_want
               apply quiet_by
               · intro w1 hw1
                 go_simp
                 first
                   | rfl
                   | (go_at_call 33; exact class_of hw1 (OD.out _ hw1))
               · go_simp; rfl
               go_big_quiet_on))
          refine wpQuiet_nil ?_
          intro w2 hw2
          go_wp2
          go_meet
          exact ⟨rfl, _, rfl, hid hw2⟩
        | true =>
          by_cases hm0 : m = 0
          · have e0 := PZ.out hm0
            have e1 : decide (lf < fid) = true := decide_eq_true (by have := XP.out rfl; omega)
            subst hm0
            have E1 := hid e1
            clear e0 e1 PV
            refine wp_region_class (by kernel_rfl) (by kernel_rfl) ?_
            repeat (first
              | go_big_quiet_skip
              | (go_big_quiet_want
                 apply quiet_by
                 · intro w1 hw1
                   go_simp
                   first
                     | rfl
                     | (go_at_call 33; exact class_of hw1 (OD.out _ hw1))
                 · go_simp; rfl
                 go_big_quiet_on))
            refine wpQuiet_nil ?_
            intro w2 hw2
            go_wp2
            go_meet
            exact ⟨by rw [E1.out]; rfl, _, rfl, hid hw2⟩
          · obtain ⟨p, hp⟩ : ∃ p, m = p + 1 := ⟨m - 1, by omega⟩
            have d0 := PV.out p hp
            have hpI : (p : Int) < n := by omega
            have hp0I : (0 : Int) ≤ p := by omega
            have hmI : (0 : Int) < m := by omega
            have hmN : 0 < m := by omega
            have hmD : decide ((0 : Int) < (m : Int)) = true := decide_eq_true hmI
            have hmE : decide (0 < m) = true := decide_eq_true hmN
            have hmZ : ¬ m = 0 := by omega
            have wm : IntKind.i64.wrap ((m : Int) - 1) = (p : Int) := by rw [IntKind.wrap_i64]; omega
            have l6 : ∀ w', Below V.heap.size V w' → w'.cell? ⟨b, off + p * 6, none⟩ = some (.int .u32 lf) := fun w' h => cell_later (BA.out.trans (h.mono BA.out.size)) d0
            clear d0 hp hm0 PV PZ
            by_cases qf : fid ≤ lf
            · have e1 : decide (lf < fid) = false := decide_eq_false (by omega)
              have e2 : decide (fid ≤ lf) = true := decide_eq_true qf
              have E1 := hid e1
              clear e1
              refine wp_region_class (by kernel_rfl) (by kernel_rfl) ?_
              repeat (first
                | go_big_quiet_skip
                | (go_big_quiet_want
                   apply quiet_by
                   · intro w1 hw1
                     go_simp
                     first
                       | rfl
                       | (go_at_call 33; exact class_of hw1 (OD.out _ hw1))
                   · go_simp; rfl
                   go_big_quiet_on))
              refine wpQuiet_nil ?_
              intro w2 hw2
              go_wp2
              go_meet
              exact ⟨by rw [E1.out]; rfl, _, rfl, hid hw2⟩
            · have e1 : decide (lf < fid) = true := decide_eq_true (by omega)
              have e2 : decide (fid ≤ lf) = false := decide_eq_false qf
              have E1 := hid e1
              clear e1
              refine wp_region_class (by kernel_rfl) (by kernel_rfl) ?_
              repeat (first
                | go_big_quiet_skip
                | (go_big_quiet_want
                   apply quiet_by
                   · intro w1 hw1
                     go_simp
                     first
                       | rfl
                       | (go_at_call 33; exact class_of hw1 (OD.out _ hw1))
                   · go_simp; rfl
                   go_big_quiet_on))
              refine wpQuiet_nil ?_
              intro w2 hw2
              go_wp2
              go_meet
              exact ⟨by rw [E1.out]; rfl, _, rfl, hid hw2⟩
      case rest =>
        obtain ⟨rfl, wy, rfl, HC⟩ := hcut
        obtain ⟨dd, hdd⟩ : ∃ dd, dd = (ok && decide (lf < fid)) := ⟨_, rfl⟩
        have XD : Hid (dd = true → ks.length ≤ 12) := hid (fun h => XF.out (by rw [hdd, Bool.and_eq_true] at h; exact h.1))
        rw [← hdd] at NO NX ⊢
        have BX := hid (BV.out.trans (HC.out.mono BV.out.size))
        clear hdd XP XF OD PV PZ
        cases dd with
        | false =>
          have EF : Hid (R = false) := hid (by rw [HR.out]; exact NO.out rfl)
          clear NO NX
          go_wp2
          go_ret
          exact ⟨ret_bool' EF.out.symm, BX.out⟩
        | true =>
          have hk12 := XD.out rfl
          have x0 := l0 wy HC.out
          have x1 := l1 wy HC.out
          have x3 := l3 wy HC.out
          simp only [Bool.true_and] at NO NX
          go_upto_region 10 with fail
          go_cut [3] from 45 to 60 (fun s3 w3 => s3 = .bool (rt || rtB ⟨fid, k, md, ln, da, dc, zs, ka, kc, ks⟩) ∧ w3 = wy)
          case first =>
            clear NO NX
            cases rt with
            | true =>
              go_wp2_with fail
              go_meet
              exact ⟨rfl, rfl⟩
            | false =>
              cases q1 : (fid == 1) with
              | false =>
                go_wp2_with fail
                go_meet
                exact ⟨by simp [rtB, q1], rfl⟩
              | true =>
                cases q2 : (k == 2) with
                | false =>
                  go_wp2_with fail
                  go_meet
                  exact ⟨by simp [rtB, q1, q2], rfl⟩
                | true =>
                  cases q3 : (ln == 0) with
                  | false =>
                    go_wp2_with fail
                    go_meet
                    exact ⟨by simp [rtB, q1, q2, q3], rfl⟩
                  | true =>
                    go_wp2_with fail
                    go_meet
                    exact ⟨by simp [rtB, q1, q2, q3], rfl⟩
          case rest =>
            obtain ⟨rfl, hw3⟩ := hcut
            subst hw3
            rw [← RX.out]
            obtain ⟨rt2, hrt2⟩ : ∃ rt2, rt2 = rtTo l (m + 1) := ⟨_, rfl⟩
            rw [← hrt2]
            have HRT := hid hrt2
            clear hrt2
            obtain ⟨nk, hnk⟩ : ∃ nk, nk = ks.length := ⟨_, rfl⟩
            have HNK := hid hnk
            rw [← hnk] at hk12 l5
            have KNO := hid (fun j (hj : j < ks.length) => dKid_no2 (l := l) hj)
            rw [← hnk] at NO NX KNO
            have x5 := l5 _ HC.out
            clear hnk x0 x1 x3 l0 l1 l2 l3 l4 RX
            go_wp2
            obtain ⟨go, hgo⟩ : ∃ go, go = gk := ⟨_, rfl⟩
            subst hgo
            have HO2 := hid (HO.out.later BA.out)
            clear HO BA
            generalize wr.heap.size = B at *
            go_loopg [6] nk (fun gk v6 wr => ∃ j : Nat, j + gk = nk ∧ v6 = .int .i64 j ∧ Hid (Below V.heap.size V wr) ∧ Hid (dKid l ks j = true))
            case atStart => exact ⟨0, by omega, rfl, HC, hid rfl⟩
            case round =>
              clear x5
              obtain ⟨j, hj2, rfl, HB2, HK2⟩ := hrel
              have x5 := l5 _ HB2.out
              by_cases hlt3 : j < nk
              · have hltI3 : (j : Int) < nk := by omega
                have hjk : j < ks.length := by rw [← HNK.out]; exact hlt3
                have hKs := HO2.out.2.2.2.2.2.later HB2.out
                obtain ⟨b1, off1, rfl, _⟩ := hKs.2.2 (by simp only; omega)
                obtain ⟨k0, k1⟩ := hKs.at (i := j) hjk
                simp only at k0 k1
                have KN := hid (KNO.out j hlt3)
                have KX : Hid ((hasF l (ks.getD j Kd.no).fid && (ks.getD j Kd.no).fid != 1) = true → dKid l ks (j + 1) = true) := hid (fun h => by simp only [dKid, HK2.out, h, Bool.and_self])
                clear hKs hjk
                have BW := hid (BV.out.trans (HB2.out.mono BV.out.size))
                generalize ks.getD j Kd.no = y at *
                have GY := hid (GC.out y.fid _ BW.out)
                obtain ⟨hf, hhf⟩ : ∃ hf, hf = hasF l y.fid := ⟨_, rfl⟩
                rw [← hhf] at KN KX GY
                clear hhf
                cases hf with
                | false =>
                  have EF : Hid (R = false) := hid (by rw [HR.out]; exact NO.out (by rw [KN.out rfl]))
                  clear KN KX
                  go_wp2_with (go_at_call 109; refine GY.out.mono ?_; rintro _ w5 ⟨⟨y', rfl⟩, hb5⟩; have B5 := hid (BW.out.trans ((hb5.trans ((below_1 w5 (.cells y'.cells.toArray 39)).mono hb5.size)).mono BW.out.size)); simp only [Nd.val]; clear hb5)
                  go_ret
                  exact ⟨ret_bool' EF.out.symm, B5.out⟩
                | true =>
                  cases q1 : (y.fid == 1) with
                  | true =>
                    have EF : Hid (R = false) := hid (by rw [HR.out]; exact NO.out (by rw [KN.out (by simp only [Bool.true_and, bne, q1, Bool.not_true])]))
                    clear KN KX
                    go_wp2_with (go_at_call 109; refine GY.out.mono ?_; rintro _ w5 ⟨⟨y', rfl⟩, hb5⟩; have b6 := below_1 w5 (.cells y'.cells.toArray 39); have s5 := hb5.trans (b6.mono hb5.size); have B5 := hid (BW.out.trans (s5.mono BW.out.size)); have x5 := cell_later s5 x5; have k1 := cell_later s5 k1; simp only [Nd.val, Nd.cells] at x5 k1 ⊢; clear hb5 b6 s5)
                    go_ret
                    exact ⟨ret_bool' EF.out.symm, B5.out⟩
                  | false =>
                    have EX := hid (KX.out (by simp only [Bool.true_and, bne, q1, Bool.not_false]))
                    clear KN KX
                    go_wp2_with (go_at_call 109; refine GY.out.mono ?_; rintro _ w5 ⟨⟨y', rfl⟩, hb5⟩; have b6 := below_1 w5 (.cells y'.cells.toArray 39); have s5 := hb5.trans (b6.mono hb5.size); have B5 := hid (HB2.out.trans (s5.mono HB2.out.size)); have x5 := cell_later s5 x5; have k1 := cell_later s5 k1; simp only [Nd.val, Nd.cells] at x5 k1 B5 ⊢; clear hb5 b6 s5)
                    go_roundg (gk - 1)
                    case measure => omega
                    case rel => exact ⟨j + 1, by omega, by go_num, B5, EX⟩
              · have hge3 : ¬ (j : Int) < nk := by omega
                obtain rfl : j = nk := by omega
                have ED := hid (NX.out HK2.out)
                have BW := hid (BV.out.trans (HB2.out.mono BV.out.size))
                go_wp2
                go_roundg (go - 1)
                case measure => omega
                case rel => exact ⟨m + 1, by omega, by rw [HRT.out], by go_num, BW, ED⟩
    · have hge : ¬ (m : Int) < n := by omega
      obtain rfl : m = n := by omega
      have ED : Hid (dTo l l.length = true) := hid (by rw [← HN.out]; exact HD.out)
      have K12 : Hid (∀ x ∈ l, x.ks.length ≤ 12) := hid (fun x hx => nodeOk_few (dTo_ok ED.out x hx))
      have RE2 : Hid (R = (rtTo l m && lkTo l l.length)) := hid (by rw [RE.out (by omega), HN.out, ED.out]; rfl)
      clear HD RE
      generalize rtTo l m = rt at *
      cases rt with
      | false =>
        have EF : Hid (R = false) := hid (by rw [RE2.out]; rfl)
        go_wp2
        go_ret
        exact ⟨ret_bool' EF.out.symm, HB.out⟩
      | true =>
        have RE3 : Hid (R = lkTo l m) := hid (by rw [RE2.out, Bool.true_and, HN.out])
        clear RE2 GC
        go_wp2
        generalize wr = wo at *
        have KL : Hid ((kfs l).length ≤ 480) := hid (by have := kfs_le K12.out; have := HN.out; omega)
        have KLt : Hid (∀ m, (kfs (l.take m)).length ≤ 480) := hid (fun m => by
          have := kfs_le (l := l.take m) (fun x hx => K12.out x (List.mem_of_mem_take hx))
          have := HN.out
          rw [List.length_take] at *; omega)
        have AC2 := hid (fun o W (hW : Below w.heap.size w W) => AC.out o W hW (fun x hx => by have := K12.out x hx; omega))
        clear AC
        go_loopg [9] m (fun gk v9 wr => ∃ i : Nat, i + gk = m ∧ v9 = .int .i64 i ∧ Hid (Below w.heap.size w wr) ∧ Hid (lkTo l i = true))
        case atStart => exact ⟨0, by omega, rfl, HB, hid rfl⟩
        case round =>
          clear HB
          obtain ⟨i, hi2, rfl, HB, HL⟩ := hrel
          by_cases hlt : i < m
          · have hltI : (i : Int) < m := by omega
            have hln : i < l.length := by rw [← HN.out]; exact hlt
            obtain ⟨b, off, rfl, _⟩ := H.out.2.2 (by omega)
            have hI := H.out.later HB.out
            have HO := hid (hI.ok (i := i) hln)
            obtain ⟨y0, y1, y2, y3, y4, y5⟩ := (hI.at (i := i) hln).all
            have NO := hid (rightD_no2 (l := l) (m := i) hln)
            have NX : Hid (lkOne l (l.getD i Nd.no) = true → lkTo l (i + 1) = true) := hid (fun h => by simp only [lkTo, HL.out, h, Bool.and_self])
            unfold lkOne at NO NX
            have bA := below_1 wr (.cells (l.getD i Nd.no).cells.toArray 39)
            have HX := hid (heap_alloc_new wr (.cells (l.getD i Nd.no).cells.toArray 39))
            have BV := hid (HB.out.trans (bA.mono HB.out.size))
            have KU : Hid (lkU l (l.getD i Nd.no) = (!((l.getD i Nd.no).k == 2) || abN l 1 (l.length + 1) (l.getD i Nd.no).fid)) := hid rfl
            clear hI hln bA
            generalize l.getD i Nd.no = x at *
            have ku : IntKind.i64.wrap x.ln = x.ln := by rw [IntKind.wrap_i64]; have := HO.out.2.2.2.1; omega
            have AU := hid (fun W (hW : Below w.heap.size w W) => AC2.out x.fid W hW)
            rw [← HN.out] at KU
            obtain ⟨ab, hab⟩ : ∃ ab, ab = abN l 1 (m + 1) x.fid := ⟨_, rfl⟩
            rw [← hab] at AU KU
            rw [KU.out] at NO NX
            clear hab KU HO
            obtain ⟨fid, k, md, ln, da, dc, zs, ka, kc, ks⟩ := x
            simp only [Nd.cells, Nd.val] at *
            go_upto_region 23 with fail
            generalize wr.alloc (.cells #[.int .u32 fid, .int .u8 k, .int .u16 md, .int .u16 ln, .slice da zs.length dc, .slice ka ks.length kc] 39) = V at *
            generalize wr.heap.size = B at *
            have l0 : ∀ w', Below V.heap.size V w' → w'.cell? ⟨B, 0, none⟩ = some (.int .u32 fid) := fun w' h => cell_of_row2 ((h.block _ (lt_blkR HX.out)).trans HX.out) 0 rfl
            have l1 : ∀ w', Below V.heap.size V w' → w'.cell? ⟨B, 1, none⟩ = some (.int .u8 k) := fun w' h => cell_of_row2 ((h.block _ (lt_blkR HX.out)).trans HX.out) 1 rfl
            have l3 : ∀ w', Below V.heap.size V w' → w'.cell? ⟨B, 3, none⟩ = some (.int .u16 ln) := fun w' h => cell_of_row2 ((h.block _ (lt_blkR HX.out)).trans HX.out) 3 rfl
            have L0 := hid l0
            have L1 := hid l1
            have L3 := hid l3
            clear l0 l1 l3 y0 y1 y2 y3 y4 y5
            go_wp2
            obtain ⟨go, hgo⟩ : ∃ go, go = gk := ⟨_, rfl⟩
            subst hgo
            go_loopg [11, 12] m (fun gk v11 v12 wr => ∃ (j c : Nat), j + gk = m ∧ v11 = .int .i64 c ∧ v12 = .int .i64 j ∧ Hid (Below V.heap.size V wr) ∧ Hid (c = (kfs (l.take j)).count fid))
            case atStart => exact ⟨0, 0, by omega, rfl, rfl, hid (Below.refl _ _), hid (by simp [kfs])⟩
            case round =>
              obtain ⟨j, c, hj2, rfl, rfl, HW, HC⟩ := hrel
              by_cases hlt2 : j < m
              · have hltI2 : (j : Int) < m := by omega
                have hln : j < l.length := by rw [← HN.out]; exact hlt2
                have hI := H.out.later (BV.out.trans (HW.out.mono BV.out.size))
                have HO := hid (H.out.ok (i := j) hln)
                obtain ⟨_, _, _, _, _, y5⟩ := (hI.at (i := j) hln).all
                have KT := hid (kfs_take hln)
                have h12 := K12.out _ (getD_mem l Nd.no hln)
                have hP2 := KLt.out (j + 1)
                rw [KT.out] at hP2
                have y5L : ∀ w', Below V.heap.size V w' → w'.cell? ⟨b, off + j * 6 + 5, none⟩ = some (.slice (l.getD j Nd.no).ka (l.getD j Nd.no).ks.length (l.getD j Nd.no).kc) := fun w' h => ((H.out.later (BV.out.trans (h.mono BV.out.size))).at (i := j) hln).all.2.2.2.2.2
                have Y5 := hid y5L
                clear hI hln y5L
                generalize l.getD j Nd.no = z at *
                obtain ⟨P, hPe⟩ : ∃ P, P = kfs (l.take j) := ⟨_, rfl⟩
                rw [← hPe] at HC KT hP2
                clear hPe
                obtain ⟨fid2, k2, md2, ln2, da2, dc2, zs2, ka2, kc2, ks2⟩ := z
                simp only at *
                obtain ⟨nk, hnk⟩ : ∃ nk, nk = ks2.length := ⟨_, rfl⟩
                rw [← hnk] at y5 h12 Y5
                have HNK := hid hnk
                have HP2 := hid hP2
                clear hnk hP2
                go_wp2
                obtain ⟨gp, hgp⟩ : ∃ gp, gp = gk := ⟨_, rfl⟩
                subst hgp
                clear y5
                go_loopg [11, 13] nk (fun gk v11 v13 wr => ∃ (q c : Nat), q + gk = nk ∧ v11 = .int .i64 c ∧ v13 = .int .i64 q ∧ Hid (Below V.heap.size V wr) ∧ Hid (c = (P ++ (ks2.take q).map (·.fid)).count fid))
                case atStart => exact ⟨0, c, by omega, rfl, rfl, HW, hid (by simpa using HC.out)⟩
                case round =>
                  clear HC
                  obtain ⟨q, c2, hq2, rfl, rfl, HW3, HC3⟩ := hrel
                  have y5 := Y5.out _ HW3.out
                  by_cases hlt3 : q < nk
                  · have hltI3 : (q : Int) < nk := by omega
                    have hjk : q < ks2.length := by rw [← HNK.out]; exact hlt3
                    have hKs := HO.out.2.2.2.2.2.later (BV.out.trans (HW3.out.mono BV.out.size))
                    obtain ⟨b1, off1, rfl, _⟩ := hKs.2.2 (by simp only; omega)
                    obtain ⟨k0, k1⟩ := hKs.at (i := q) hjk
                    simp only at k0 k1
                    have MT := hid (map_take_kid hjk)
                    have hcl : c2 ≤ 480 := by
                      rw [HC3.out]
                      refine Nat.le_trans List.count_le_length ?_
                      refine Nat.le_trans ?_ HP2.out
                      rw [List.length_append, List.length_append, List.length_map, List.length_map, List.length_take]
                      omega
                    have x0 := L0.out _ HW3.out
                    clear hKs hjk
                    generalize ks2.getD q Kd.no = y at *
                    cases q1 : (y.fid == fid) with
                    | true =>
                      have EC : Hid (c2 + 1 = (P ++ (ks2.take (q + 1)).map (·.fid)).count fid) := hid (by rw [MT.out, ← List.append_assoc, List.count_append, ← HC3.out, List.count_singleton, q1]; rfl)
                      clear HC3 MT
                      go_wp2
                      go_quiet (fail)
                      go_wp2
                      go_roundg (gk - 1)
                      case measure => omega
                      case rel => exact ⟨q + 1, c2 + 1, by omega, by go_num, by go_num, hid (below_drewN HW3.out _), EC⟩
                    | false =>
                      have EC : Hid (c2 = (P ++ (ks2.take (q + 1)).map (·.fid)).count fid) := hid (by rw [MT.out, ← List.append_assoc, List.count_append, ← HC3.out, List.count_singleton, q1]; rfl)
                      clear HC3 MT
                      go_wp2
                      go_quiet (fail)
                      go_wp2
                      go_roundg (gk - 1)
                      case measure => omega
                      case rel => exact ⟨q + 1, c2, by omega, rfl, by go_num, hid (below_drewN HW3.out _), EC⟩
                  · have hge3 : ¬ (q : Int) < nk := by omega
                    have EC : Hid (c2 = (kfs (l.take (j + 1))).count fid) := hid (by
                      have := HC3.out
                      rw [List.take_of_length_le (by rw [← HNK.out]; omega), ← KT.out] at this
                      exact this)
                    go_wp2
                    go_roundg (gp - 1)
                    case measure => omega
                    case rel => exact ⟨j + 1, c2, by omega, rfl, by go_num, HW3, EC⟩
              · have hge2 : ¬ (j : Int) < m := by omega
                have EC : Hid ((c : Int) = ((kfs l).count fid : Int)) := hid (by
                  have := HC.out
                  rw [List.take_of_length_le (by rw [← HN.out]; omega)] at this
                  rw [this])
                rw [← EC.out] at NO NX
                have x0 := L0.out _ HW.out
                have x1 := L1.out _ HW.out
                have x3 := L3.out _ HW.out
                have BW := hid (BV.out.trans (HW.out.mono BV.out.size))
                clear HC EC
                generalize wr = wz at *
                go_upto_region 32 with fail
                go_cut [154] from 132 to 154 (fun s154 wx => s154 = .bool (!lkA c ⟨fid, k, md, ln, da, dc, zs, ka, kc, ks⟩) ∧ wx = wz)
                case first =>
                  clear NO NX
                  cases q1 : (fid == 1) with
                  | true =>
                    have q1b : (fid != 1) = false := by simp [bne, q1]
                    go_wp2_with fail
                    go_meet
                    exact ⟨by simp [lkA, q1], rfl⟩
                  | false =>
                    have q1b : (fid != 1) = true := by simp [bne, q1]
                    by_cases q2 : (c : Int) < 1
                    · have q2b : decide ((c : Int) < 1) = true := decide_eq_true q2
                      go_wp2_with fail
                      go_meet
                      exact ⟨by simp [lkA, q1, q2b], rfl⟩
                    · have q2b : decide ((c : Int) < 1) = false := decide_eq_false q2
                      cases q3 : ((c : Int) != ln) with
                      | true =>
                        go_wp2_with fail
                        go_meet
                        exact ⟨by simp only [lkA, q1, q2b, q3]; rfl, rfl⟩
                      | false =>
                        cases q4 : (k == 2) with
                        | false =>
                          go_wp2_with fail
                          go_meet
                          exact ⟨by simp only [lkA, q1, q2b, q3, q4]; rfl, rfl⟩
                        | true =>
                          cases q5 : ((c : Int) != 1) with
                          | false =>
                            go_wp2_with fail
                            go_meet
                            exact ⟨by simp only [lkA, q1, q2b, q3, q4, q5]; rfl, rfl⟩
                          | true =>
                            go_wp2_with fail
                            go_meet
                            exact ⟨by simp only [lkA, q1, q2b, q3, q4, q5]; rfl, rfl⟩
                case rest =>
                  obtain ⟨rfl, hwx⟩ := hcut
                  subst hwx
                  obtain ⟨la, hla⟩ : ∃ la, la = lkA c ⟨fid, k, md, ln, da, dc, zs, ka, kc, ks⟩ := ⟨_, rfl⟩
                  rw [← hla] at NO NX ⊢
                  clear hla
                  cases la with
                  | false =>
                    have EF : Hid (R = false) := hid (by rw [HR.out]; exact NO.out rfl)
                    clear NO NX
                    go_wp2
                    go_ret
                    exact ⟨ret_bool' EF.out.symm, BW.out⟩
                  | true =>
                    have AZ := hid (AU.out _ BW.out)
                    cases q4 : (k == 2) with
                    | false =>
                      have EX := hid (NX.out (by rw [q4]; rfl))
                      clear NO NX
                      go_wp2
                      go_roundg (go - 1)
                      case measure => omega
                      case rel => exact ⟨i + 1, by omega, by go_num, BW, EX⟩
                    | true =>
                      cases ab with
                      | false =>
                        have EF : Hid (R = false) := hid (by rw [HR.out]; exact NO.out (by rw [q4]; rfl))
                        clear NO NX
                        go_wp2_with (go_at_call 110; refine AZ.out.mono ?_; rintro _ wf ⟨rfl, hwf⟩; have hwf2 := hwf.symm; clear hwf; subst hwf2)
                        go_ret
                        exact ⟨ret_bool' EF.out.symm, BW.out⟩
                      | true =>
                        have EX := hid (NX.out (by rw [q4]; rfl))
                        clear NO NX
                        go_wp2_with (go_at_call 110; refine AZ.out.mono ?_; rintro _ wf ⟨rfl, hwf⟩; have hwf2 := hwf.symm; clear hwf; subst hwf2)
                        go_roundg (go - 1)
                        case measure => omega
                        case rel => exact ⟨i + 1, by omega, by go_num, BW, EX⟩
          · have hge : ¬ (i : Int) < m := by omega
            obtain rfl : i = m := by omega
            have EF : Hid (R = true) := hid (by rw [RE3.out]; exact HL.out)
            go_wp2
            go_ret
            exact ⟨ret_bool' EF.out.symm, HB.out⟩
end Go.Proofs.Ytbgninmkglgfeaa
namespace Go.Proofs.Ytbgninmkglgfeaa
open Go.RowKit Go.ChangeShapes Go.WideShapes Go.ChangeAt Go.Maps Go.Shelf
set_option linter.unusedVariables false
set_option linter.unusedSimpArgs false
set_option maxRecDepth 100000
theorem pl_has (l : List Nd) (f : Int) : ∀ m, (plTo l m f).isSome = hasTo l f m
  | 0 => rfl
  | m + 1 => by
    have e : plTo l (m + 1) f = updF (plTo l m) (l.getD m Nd.no).fid (some m) f := rfl
    rw [e, hasTo, ← pl_has l f m]
    unfold updF
    split
    · rename_i h; rw [h]; simp
    · rename_i h
      have : ((l.getD m Nd.no).fid == f) = false := beq_eq_false_iff_ne.2 (fun q => h q.symm)
      rw [this]; simp
theorem N0_has (l : List Nd) (f : Int) : (N0 l f).isSome = hasF l f := by
  unfold N0 ndF hasF
  rw [Option.isSome_map, pl_has]
theorem up_mono {l : List Nd} {m : Nat} (h : upTo l m = true) : ∀ j i, i < j → j < m → (l.getD i Nd.no).fid < (l.getD j Nd.no).fid
  | 0, i, hi, _ => by omega
  | j + 1, i, hi, hj => by
    have h1 := upTo_pos h (j + 1) hj
    rw [lastFd_next] at h1
    by_cases e : i = j
    · subst e; exact h1
    · have := up_mono h j i (by omega) (by omega)
      omega
theorem up_inj {l : List Nd} (h : upTo l l.length = true) {i j : Nat} (hi : i < l.length) (hj : j < l.length) (e : (l.getD i Nd.no).fid = (l.getD j Nd.no).fid) : i = j := by
  rcases Nat.lt_trichotomy i j with q | q | q
  · have := up_mono h j i q hj; omega
  · exact q
  · have := up_mono h i j q hi; omega
theorem N0_at {l : List Nd} (h : upTo l l.length = true) {i : Nat} (hi : i < l.length) : ∃ p, N0 l (l.getD i Nd.no).fid = some (p, l.getD i Nd.no) := by
  have h1 : (plTo l l.length (l.getD i Nd.no).fid).isSome = true := by rw [pl_has]; exact hasF_yes hi (by simp)
  cases hq : plTo l l.length (l.getD i Nd.no).fid with
  | none => rw [hq] at h1; cases h1
  | some j =>
    obtain ⟨lj, ej⟩ := plTo_lt l _ hq
    obtain rfl := up_inj h lj hi ej
    unfold N0 ndF
    rw [hq]
    exact ⟨_, rfl⟩
theorem N0_of {l : List Nd} {f : Int} {p : Addr} {x : Nd} (h : N0 l f = some (p, x)) : ∃ i, i < l.length ∧ l.getD i Nd.no = x ∧ x.fid = f := by
  unfold N0 ndF at h
  cases hq : plTo l l.length f with
  | none => rw [hq] at h; cases h
  | some j =>
    rw [hq] at h
    cases h
    obtain ⟨lj, ej⟩ := plTo_lt l _ hq
    exact ⟨j, lj, rfl, ej⟩
/-- A node has an entry with a fid. -/
def HasK (x : Nd) (g : Int) : Prop := ∃ i, i < x.ks.length ∧ (x.ks.getD i Kd.no).fid = g
theorem edge_iff {l : List Nd} (h : upTo l l.length = true) (f g : Int) : Edge (N0 l) f g ↔ ∃ i, i < l.length ∧ (l.getD i Nd.no).fid = f ∧ HasK (l.getD i Nd.no) g ∧ isDirT (N0 l) g = true := by
  constructor
  · rintro ⟨p, x, i, h1, h2, h3, h4⟩
    obtain ⟨j, lj, rfl, ej⟩ := N0_of h1
    exact ⟨j, lj, ej, ⟨i, h2, h3⟩, h4⟩
  · rintro ⟨j, lj, rfl, ⟨i, h2, h3⟩, h4⟩
    obtain ⟨p, hp⟩ := N0_at h lj
    exact ⟨p, _, i, hp, h2, h3, h4⟩
theorem upM_ne (x : Nd) (g acc : Int) : ∀ m, upM x g acc m ≠ acc → upM x g acc m = x.fid ∧ ∃ i, i < m ∧ (x.ks.getD i Kd.no).fid = g
  | 0, h => absurd rfl h
  | m + 1, h => by
    unfold upM at h ⊢
    cases q : ((x.ks.getD m Kd.no).fid == g) with
    | true => exact ⟨rfl, m, by omega, by simpa using q⟩
    | false =>
      rw [q] at h
      obtain ⟨h1, i, hi, e⟩ := upM_ne x g acc m h
      exact ⟨h1, i, by omega, e⟩
theorem upM_or (x : Nd) (g acc : Int) : ∀ m, upM x g acc m = acc ∨ upM x g acc m = x.fid
  | 0 => .inl rfl
  | m + 1 => by
    unfold upM
    cases q : ((x.ks.getD m Kd.no).fid == g) with
    | true => exact .inr rfl
    | false => exact upM_or x g acc m
theorem upM_in (x : Nd) (g acc : Int) : ∀ m i, i < m → (x.ks.getD i Kd.no).fid = g → upM x g acc m = x.fid
  | 0, i, hi, _ => by omega
  | m + 1, i, hi, e => by
    unfold upM
    cases q : ((x.ks.getD m Kd.no).fid == g) with
    | true => rfl
    | false =>
      have hne : i ≠ m := fun h => by
        rw [h] at e
        have := beq_eq_false_iff_ne.1 q
        exact this e
      exact upM_in x g acc m i (by omega) e
theorem upK_ne (l : List Nd) (g : Int) : ∀ m, upK l g m ≠ 0 → ∃ i, i < m ∧ (l.getD i Nd.no).fid = upK l g m ∧ HasK (l.getD i Nd.no) g
  | 0, h => absurd rfl h
  | m + 1, h => by
    unfold upK at h ⊢
    by_cases q : upM (l.getD m Nd.no) g (upK l g m) (l.getD m Nd.no).ks.length = upK l g m
    · rw [q] at h ⊢
      obtain ⟨i, hi, e, hk⟩ := upK_ne l g m h
      exact ⟨i, by omega, e, hk⟩
    · obtain ⟨h1, i, hi, e⟩ := upM_ne _ _ _ _ q
      exact ⟨m, by omega, h1.symm, i, hi, e⟩
theorem upK_has {l : List Nd} {g : Int} : ∀ {m : Nat}, (∀ i, i < m → (l.getD i Nd.no).fid ≠ 0) → ∀ i, i < m → HasK (l.getD i Nd.no) g → upK l g m ≠ 0
  | 0, _, i, hi, _ => by omega
  | m + 1, hp, i, hi, hk => by
    unfold upK
    by_cases e : i = m
    · subst e
      obtain ⟨j, hj, ej⟩ := hk
      rw [upM_in _ _ _ _ j hj ej]
      exact hp i (by omega)
    · have ih := upK_has (g := g) (m := m) (fun i hi => hp i (by omega)) i (by omega) hk
      rcases upM_or (l.getD m Nd.no) g (upK l g m) (l.getD m Nd.no).ks.length with q | q
      · rw [q]; exact ih
      · rw [q]; exact hp m (by omega)
/-- What Right asks besides that no directory is below itself. -/
def Base (l : List Nd) : Prop := l.length ≤ 40 ∧ fidsUp l = true ∧ isDirT (N0 l) 1 = true ∧ (∀ x ∈ l, aloneB x = true ∧ haveB (N0 l) x.ks = true) ∧ linksB l = true
section
variable {l : List Nd} (B : Base l)
include B
theorem Base.pos : ∀ i, i < l.length → 0 < (l.getD i Nd.no).fid := upTo_pos2 B.2.1
theorem Base.one : OneUp (N0 l) := one_up (a := none) B.2.2.2.2 (fun x hx => (B.2.2.2.1 x hx).2)
theorem Base.ne1 {f g : Int} (h : Edge (N0 l) f g) : g ≠ 1 := by
  obtain ⟨i, hi, _, ⟨j, hj, e⟩, _⟩ := (edge_iff B.2.1 f g).1 h
  have := (haveTo_all (B.2.2.2.1 _ (getD_mem l Nd.no hi)).2 j hj).1
  rw [e] at this
  exact this
theorem Base.upOf {f g : Int} (h : Edge (N0 l) f g) : upD l g = f := by
  obtain ⟨i, hi, e, hk, hd⟩ := (edge_iff B.2.1 f g).1 h
  have hne : upD l g ≠ 0 := upK_has (fun i hi => by have := B.pos i hi; omega) i hi hk
  obtain ⟨j, hj, ej, hkj⟩ := upK_ne l g _ hne
  have : Edge (N0 l) (upD l g) g := (edge_iff B.2.1 _ g).2 ⟨j, hj, ej, hkj, hd⟩
  exact B.one _ _ _ this h
theorem Base.dirUp {f g : Int} (h : Edge (N0 l) f g) : isDirT (N0 l) f = true := by
  obtain ⟨i, hi, rfl, ⟨j, hj, e⟩, _⟩ := (edge_iff B.2.1 f g).1 h
  obtain ⟨p, hp⟩ := N0_at B.2.1 hi
  unfold isDirT
  rw [hp]
  have ha := (B.2.2.2.1 _ (getD_mem l Nd.no hi)).1
  generalize l.getD i Nd.no = x at *
  unfold aloneB at ha
  cases q : (x.k == 1 || x.k == 3) with
  | true =>
    rw [q] at ha
    simp only [cond_true, Bool.and_eq_true, decide_eq_true_eq] at ha
    omega
  | false =>
    rw [q] at ha
    cases q2 : (x.k == 2) with
    | true => exact q2
    | false => rw [q2] at ha; cases ha
theorem Base.hasUp {g : Int} (hd : isDirT (N0 l) g = true) (hne : g ≠ 1) : Edge (N0 l) (upD l g) g := by
  have hd2 := hd
  unfold isDirT at hd
  cases hN : N0 l g with
  | none => rw [hN] at hd; cases hd
  | some q =>
    obtain ⟨p, x⟩ := q
    rw [hN] at hd
    obtain ⟨i, hi, rfl, e⟩ := N0_of hN
    have hb := linksTo_all B.2.2.2.2 i hi
    unfold linkB at hb
    rw [e] at hb
    have hne2 : (g == 1) = false := beq_eq_false_iff_ne.2 hne
    rw [hne2] at hb
    simp only [Bool.false_or, Bool.and_eq_true, Bool.not_eq_true', Bool.or_eq_false_iff, decide_eq_false_iff_not] at hb
    have hc : 0 < (kfs l).count g := by omega
    rw [List.count_pos_iff] at hc
    unfold kfs at hc
    rw [List.mem_flatMap] at hc
    obtain ⟨y, hy, hg⟩ := hc
    rw [List.mem_map] at hg
    obtain ⟨kd, hkd, ek⟩ := hg
    obtain ⟨j, hj, rfl⟩ := List.getElem_of_mem hy
    obtain ⟨t, ht, rfl⟩ := List.getElem_of_mem hkd
    have hk : HasK (l.getD j Nd.no) g := by
      have e1 : l.getD j Nd.no = l[j] := by simp [List.getD, hj]
      rw [e1]
      exact ⟨t, ht, by simpa [List.getD, ht] using ek⟩
    have hE : Edge (N0 l) (l.getD j Nd.no).fid g := (edge_iff B.2.1 _ g).2 ⟨j, hj, rfl, hk, hd2⟩
    rw [B.upOf hE]
    exact hE
end
/-- The directory above each one but the root. -/
def upG (l : List Nd) (g : Int) : Option Int := bif isDirT (N0 l) g && g != 1 then some (upD l g) else none
theorem upG_par {l : List Nd} (B : Base l) : IsPar (N0 l) (upG l) := fun f g => by
  unfold upG
  constructor
  · intro h
    cases q : (isDirT (N0 l) g && g != 1) with
    | false => rw [q] at h; cases h
    | true =>
      rw [q] at h
      cases h
      rw [Bool.and_eq_true] at q
      exact B.hasUp q.1 (by simpa using q.2)
  · intro h
    have h1 := B.ne1 h
    have h2 := B.upOf h
    obtain ⟨_, _, _, _, _, _, h3⟩ := h
    rw [h3, h2, show (g != 1) = true by simpa using h1]
    rfl
/-- The directories but the root. -/
def dirK (l : List Nd) : List Int := (l.filter fun x => x.k == 2 && x.fid != 1).map (·.fid)
theorem nodup_fids {l : List Nd} (h : upTo l l.length = true) : l.Pairwise (fun x y => x.fid ≠ y.fid) := by
  rw [List.pairwise_iff_getElem]
  intro i j hi hj hij e
  have := up_mono h j i hij hj
  simp [List.getD, hi, hj] at this
  omega
theorem dirK_nodup {l : List Nd} (h : upTo l l.length = true) : (dirK l).Pairwise (· ≠ ·) := by
  unfold dirK
  rw [List.pairwise_map]
  exact (nodup_fids h).filter _
theorem dirK_mem {l : List Nd} (h : upTo l l.length = true) (g : Int) : g ∈ dirK l ↔ (upG l g).isSome = true := by
  unfold dirK upG
  rw [List.mem_map]
  constructor
  · rintro ⟨x, hx, rfl⟩
    rw [List.mem_filter, Bool.and_eq_true] at hx
    obtain ⟨hx, h1, h2⟩ := hx
    obtain ⟨i, hi, rfl⟩ := List.getElem_of_mem hx
    obtain ⟨p, hp⟩ := N0_at h hi
    rw [show l.getD i Nd.no = l[i] by simp [List.getD, hi]] at hp
    unfold isDirT
    rw [hp]
    simp only [h1, h2, Bool.and_self]
    rfl
  · intro hq
    cases q : (isDirT (N0 l) g && g != 1) with
    | false => rw [q] at hq; cases hq
    | true =>
      rw [Bool.and_eq_true] at q
      have hd := q.1
      unfold isDirT at hd
      cases hN : N0 l g with
      | none => rw [hN] at hd; cases hd
      | some r =>
        obtain ⟨p, x⟩ := r
        rw [hN] at hd
        obtain ⟨i, hi, rfl, e⟩ := N0_of hN
        refine ⟨_, List.mem_filter.2 ⟨getD_mem l Nd.no hi, ?_⟩, e⟩
        rw [e]
        simp only [Bool.and_eq_true]
        exact ⟨hd, q.2⟩
theorem dirK_len (l : List Nd) : (dirK l).length ≤ l.length := by
  unfold dirK
  rw [List.length_map]
  exact List.length_filter_le _ _
theorem ring_iff {l : List Nd} (B : Base l) : RingN (N0 l) ↔ ∃ f p, upG l f = some p ∧ leadB (upG l) (dirK l).length f p = true :=
  ring_of (dirK_nodup B.2.1) (dirK_mem B.2.1) rfl (upG_par B)
/-- From one that leads up to itself the root is never reached. -/
theorem ab_ring {l : List Nd} (B : Base l) {f p : Int} (hp : upG l f = some p) {n : Nat} (hl : leadB (upG l) n f p = true) : ∀ (k : Nat) (g : Int), (∃ m, leadB (upG l) m f g = true) → abN l 1 k g = false
  | 0, g, _ => rfl
  | k + 1, g, hm => by
    have key : ∃ g', upG l g = some g' ∧ ∃ m, leadB (upG l) m f g' = true := by
      obtain ⟨m, hm⟩ := hm
      by_cases e : g = f
      · subst e; exact ⟨p, hp, n, hl⟩
      · unfold leadB at hm
        have e2 : (g == f) = false := beq_eq_false_iff_ne.2 e
        rw [e2, Bool.false_or] at hm
        cases m with
        | zero => cases hm
        | succ m =>
          unfold upB at hm
          cases hG : upG l g with
          | none => rw [hG] at hm; cases hm
          | some g' => rw [hG] at hm; exact ⟨g', rfl, m, hm⟩
    obtain ⟨g', hg, hm'⟩ := key
    have hE := (upG_par B g' g).1 hg
    have h1 := B.ne1 hE
    have h2 := B.upOf hE
    obtain ⟨i, hi, e, _⟩ := (edge_iff B.2.1 g' g).1 hE
    have h3 := B.pos i hi
    unfold abN
    rw [h2, show (g == 1) = false from beq_eq_false_iff_ne.2 h1, show (g' == 0) = false from beq_eq_false_iff_ne.2 (by omega)]
    exact ab_ring B hp hl k g' hm'
def chain (l : List Nd) (g : Int) : Nat → Int
  | 0 => g
  | n + 1 => upD l (chain l g n)
theorem chain_next (l : List Nd) (g : Int) : ∀ n, chain l (upD l g) n = chain l g (n + 1)
  | 0 => rfl
  | n + 1 => by unfold chain; rw [chain_next l g n]
/-- Where the root is not reached, the way up goes on through directories. -/
theorem ab_chain {l : List Nd} (B : Base l) : ∀ (k : Nat) (g : Int), isDirT (N0 l) g = true → abN l 1 k g = false → ∀ i, i < k → isDirT (N0 l) (chain l g i) = true ∧ chain l g i ≠ 1
  | 0, g, _, _, i, hi => by omega
  | k + 1, g, hd, ha, i, hi => by
    have hne : g ≠ 1 := fun e => by
      unfold abN at ha
      rw [e] at ha
      cases ha
    cases i with
    | zero => exact ⟨hd, hne⟩
    | succ i =>
      have hE := B.hasUp hd hne
      obtain ⟨j, hj, e, _⟩ := (edge_iff B.2.1 _ g).1 hE
      have h3 := B.pos j hj
      unfold abN at ha
      rw [show (g == 1) = false from beq_eq_false_iff_ne.2 hne, show (upD l g == 0) = false from beq_eq_false_iff_ne.2 (by omega)] at ha
      have := ab_chain B k (upD l g) (B.dirUp hE) ha i (by omega)
      rw [chain_next] at this
      exact this
theorem pigeon (c : Nat → Int) (ks : List Int) (h : ∀ i, i ≤ ks.length → c i ∈ ks) : ∃ i j, i < j ∧ j ≤ ks.length ∧ c i = c j := by
  by_cases hq : ∃ i j, i < j ∧ j ≤ ks.length ∧ c i = c j
  · exact hq
  · exfalso
    have hp : ((List.range (ks.length + 1)).map c).Pairwise (· ≠ ·) := by
      rw [List.pairwise_map, List.pairwise_iff_getElem]
      intro i j hi hj hij
      simp only [List.getElem_range]
      simp at hj
      exact fun e => hq ⟨i, j, hij, by omega, e⟩
    have := nodup_len hp (b := ks) (fun x hx => by
      obtain ⟨i, hi, rfl⟩ := List.mem_map.1 hx
      exact h i (by have := List.mem_range.1 hi; omega))
    simp at this
    omega
theorem up_chain {l : List Nd} {g top : Int} : ∀ (m i : Nat), (∀ t, i ≤ t → t ≤ i + m → upG l (chain l g t) = some (chain l g (t + 1))) → chain l g (i + m + 1) = top → upB (upG l) top (m + 1) (chain l g i) = true
  | 0, i, h, e => by
    unfold upB
    rw [h i (by omega) (by omega)]
    simp only [Nat.add_zero] at e
    rw [e]; simp
  | m + 1, i, h, e => by
    unfold upB
    rw [h i (by omega) (by omega)]
    have := up_chain (top := top) m (i + 1) (fun t h1 h2 => h t (by omega) (by omega)) (by rw [← e]; congr 1; omega)
    simp only [this, Bool.or_true]
theorem upB_more (G : Int → Option Int) (top : Int) : ∀ (k n : Nat) (f : Int), k ≤ n → upB G top k f = true → upB G top n f = true
  | 0, n, f, _, h => by cases h
  | k + 1, 0, f, hk, h => by omega
  | k + 1, n + 1, f, hk, h => by
    unfold upB at h ⊢
    cases hG : G f with
    | none => rw [hG] at h; cases h
    | some p =>
      rw [hG] at h
      simp only [Bool.or_eq_true] at h ⊢
      rcases h with h | h
      · exact .inl h
      · exact .inr (upB_more G top k n p (by omega) h)
theorem ring_ab {l : List Nd} (B : Base l) : (¬ RingN (N0 l)) ↔ ∀ i, i < l.length → lkU l (l.getD i Nd.no) = true := by
  constructor
  · intro hr i hi
    unfold lkU
    cases q : ((l.getD i Nd.no).k == 2) with
    | false => rfl
    | true =>
      simp only [Bool.not_true, Bool.false_or]
      cases ha : abN l 1 (l.length + 1) (l.getD i Nd.no).fid with
      | true => rfl
      | false =>
        exfalso
        apply hr
        rw [ring_iff B]
        have hd : isDirT (N0 l) (l.getD i Nd.no).fid = true := by
          obtain ⟨p, hp⟩ := N0_at B.2.1 hi
          unfold isDirT
          rw [hp]; exact q
        generalize (l.getD i Nd.no).fid = g at *
        have hc := ab_chain B _ g hd ha
        have hG : ∀ t, t < l.length + 1 → upG l (chain l g t) = some (chain l g (t + 1)) := fun t ht => by
          obtain ⟨h1, h2⟩ := hc t ht
          exact (upG_par B _ _).2 (B.hasUp h1 h2)
        have hlen := dirK_len l
        obtain ⟨s, j, hsj, hj, e⟩ := pigeon (chain l g) (dirK l) (fun t ht => by rw [dirK_mem B.2.1, hG t (by omega)]; rfl)
        refine ⟨chain l g s, chain l g (s + 1), hG s (by omega), ?_⟩
        unfold leadB
        by_cases e1 : chain l g (s + 1) = chain l g s
        · rw [e1]; simp
        · have hne : s + 1 ≠ j := fun h => e1 (by rw [h, e])
          have := up_chain (l := l) (g := g) (top := chain l g s) (j - s - 2) (s + 1) (fun t h1 h2 => hG t (by omega)) (by rw [e]; congr 1; omega)
          rw [upB_more _ _ _ _ _ (by omega) this]
          simp
  · intro h hr
    rw [ring_iff B] at hr
    obtain ⟨f, p, hp, hl⟩ := hr
    have hE := (upG_par B p f).1 hp
    have hd : isDirT (N0 l) f = true := by obtain ⟨_, _, _, _, _, _, h4⟩ := hE; exact h4
    have ha := ab_ring B hp hl (l.length + 1) f ⟨0, by unfold leadB; simp⟩
    unfold isDirT at hd
    cases hN : N0 l f with
    | none => rw [hN] at hd; cases hd
    | some r =>
      obtain ⟨pp, x⟩ := r
      rw [hN] at hd
      obtain ⟨i, hi, rfl, e⟩ := N0_of hN
      have := h i hi
      unfold lkU at this
      have hd2 : ((l.getD i Nd.no).k == 2) = true := hd
      rw [e, ha, hd2] at this
      cases this
end Go.Proofs.Ytbgninmkglgfeaa
namespace Go.Proofs.Ytbgninmkglgfeaa
open Go.RowKit Go.ChangeShapes Go.WideShapes Go.ChangeAt Go.Maps Go.Shelf
set_option linter.unusedVariables false
set_option linter.unusedSimpArgs false
set_option maxRecDepth 100000
theorem dKid_have (l : List Nd) (ks : List Kd) : ∀ m, dKid l ks m = haveTo (N0 l) ks m
  | 0 => rfl
  | m + 1 => by
    unfold dKid haveTo
    rw [dKid_have l ks m, N0_has, Bool.and_comm (hasF l _)]
theorem dTo_mk {l : List Nd} : ∀ {m : Nat}, (∀ i, i < m → dOne l i = true) → dTo l m = true
  | 0, _ => rfl
  | m + 1, h => by
    unfold dTo
    rw [dTo_mk (fun i hi => h i (by omega)), h m (by omega)]; rfl
theorem lkTo_mk {l : List Nd} : ∀ {m : Nat}, (∀ i, i < m → lkOne l (l.getD i Nd.no) = true) → lkTo l m = true
  | 0, _ => rfl
  | m + 1, h => by
    unfold lkTo
    rw [lkTo_mk (fun i hi => h i (by omega)), h m (by omega)]; rfl
theorem lkTo_at {l : List Nd} : ∀ {m : Nat}, lkTo l m = true → ∀ i, i < m → lkOne l (l.getD i Nd.no) = true
  | 0, _, i, hi => by omega
  | m + 1, h, i, hi => by
    unfold lkTo at h
    rw [Bool.and_eq_true] at h
    by_cases e : i = m
    · subst e; exact h.2
    · exact lkTo_at h.1 i (by omega)
theorem upTo_mk {l : List Nd} : ∀ {m : Nat}, (∀ i, i < m → lastFd l i < (l.getD i Nd.no).fid) → upTo l m = true
  | 0, _ => rfl
  | m + 1, h => by
    unfold upTo
    rw [upTo_mk (fun i hi => h i (by omega)), decide_eq_true (h m (by omega))]; rfl
theorem linksTo_mk {P : List Int} {l : List Nd} : ∀ {m : Nat}, (∀ i, i < m → linkB P (l.getD i Nd.no) = true) → linksTo P l m = true
  | 0, _ => rfl
  | m + 1, h => by
    unfold linksTo
    rw [linksTo_mk (fun i hi => h i (by omega)), h m (by omega)]; rfl
theorem rtTo_ex {l : List Nd} : ∀ {m : Nat}, rtTo l m = true → ∃ i, i < m ∧ rtB (l.getD i Nd.no) = true
  | 0, h => by cases h
  | m + 1, h => by
    unfold rtTo at h
    rw [Bool.or_eq_true] at h
    rcases h with h | h
    · obtain ⟨i, hi, e⟩ := rtTo_ex h
      exact ⟨i, by omega, e⟩
    · exact ⟨m, by omega, h⟩
theorem rtTo_mk {l : List Nd} : ∀ {m : Nat} {i : Nat}, i < m → rtB (l.getD i Nd.no) = true → rtTo l m = true
  | 0, i, hi, _ => by omega
  | m + 1, i, hi, h => by
    unfold rtTo
    by_cases e : i = m
    · subst e; rw [h, Bool.or_true]
    · rw [rtTo_mk (i := i) (by omega) h, Bool.true_or]
theorem namesTo_of {l : List Kd} : ∀ {m : Nat}, kidsTo l m = true → namesTo l m = true
  | 0, _ => rfl
  | m + 1, h => by
    unfold kidsTo kOk at h
    rw [Bool.and_eq_true, Bool.and_eq_true] at h
    unfold namesTo nmK
    rw [namesTo_of h.1, h.2.1]; rfl
theorem alone_of {x : Nd} (h : nodeOk x = true) : aloneB x = true := by
  unfold nodeOk at h
  rw [Bool.and_eq_true] at h
  obtain ⟨ha, hb⟩ := h
  simp only [Bool.not_eq_true', Bool.or_eq_false_iff, decide_eq_false_iff_not] at ha
  obtain ⟨⟨_, l1⟩, l2⟩ := ha
  unfold aloneB
  cases q1 : (x.k == 1 || x.k == 3) with
  | true =>
    rw [q1] at hb
    simp only [cond_true, decide_eq_true_eq, Bool.and_eq_true] at hb ⊢
    exact ⟨by omega, hb⟩
  | false =>
    rw [q1] at hb
    cases q2 : (x.k == 2) with
    | false => rw [q2] at hb; cases hb
    | true =>
      rw [q2] at hb
      simp only [cond_false, cond_true, Bool.and_eq_true, decide_eq_true_eq] at hb ⊢
      exact ⟨hb.1, by omega, namesTo_of hb.2⟩
theorem no_root {l : List Nd} (h : ∀ x ∈ l, haveB (N0 l) x.ks = true) : (kfs l).count 1 = 0 := by
  rw [List.count_eq_zero]
  intro hm
  unfold kfs at hm
  rw [List.mem_flatMap] at hm
  obtain ⟨x, hx, hg⟩ := hm
  rw [List.mem_map] at hg
  obtain ⟨kd, hkd, ek⟩ := hg
  obtain ⟨t, ht, rfl⟩ := List.getElem_of_mem hkd
  have := (haveTo_all (h x hx) t ht).1
  rw [show x.ks.getD t Kd.no = x.ks[t] by simp [List.getD, ht]] at this
  exact this ek
/-- BOTH MEAN THE SAME. -/
theorem rightD_iff (l : List Nd) : RightP l ↔ rightD l = true := by
  constructor
  · intro h
    obtain ⟨h1, h2, h3, h4, h5, h6⟩ := h
    have B : Base l := ⟨h1, h2, h3, h4, h5⟩
    have hU := (ring_ab B).1 h6
    have hz := no_root (fun x hx => (h4 x hx).2)
    have hd : dTo l l.length = true := dTo_mk (fun i hi => by
      unfold dOne dA
      rw [right_ok ⟨h1, h2, h3, h4, h5, h6⟩ _ (getD_mem l Nd.no hi), decide_eq_true (upTo_pos h2 i hi), dKid_have]
      exact (h4 _ (getD_mem l Nd.no hi)).2)
    have hr : rtTo l l.length = true := by
      have hd := h3
      unfold isDirT at hd
      cases hN : N0 l 1 with
      | none => rw [hN] at hd; cases hd
      | some r =>
        obtain ⟨p, x⟩ := r
        rw [hN] at hd
        obtain ⟨i, hi, rfl, e⟩ := N0_of hN
        refine rtTo_mk hi ?_
        have hb := linksTo_all h5 i hi
        unfold linkB at hb
        rw [e, hz, Bool.and_eq_true] at hb
        unfold rtB
        rw [e]
        have hd2 : ((l.getD i Nd.no).k == 2) = true := hd
        rw [hd2]
        exact hb.1
    have hl : lkTo l l.length = true := lkTo_mk (fun i hi => by
      have hb := linksTo_all h5 i hi
      have hu := hU i hi
      unfold lkOne
      rw [hu, Bool.and_true]
      generalize l.getD i Nd.no = x at *
      unfold linkB at hb
      unfold lkA
      generalize ((kfs l).count x.fid : Int) = c at *
      rw [Bool.and_eq_true] at hb
      obtain ⟨hb1, hb2⟩ := hb
      cases q : (x.fid == 1) with
      | true => rfl
      | false =>
        rw [q] at hb2
        have e : x.ln = c := by simpa using hb1
        simp only [Bool.false_or, Bool.not_eq_true', Bool.or_eq_false_iff, decide_eq_false_iff_not] at hb2 ⊢
        refine ⟨hb2.1, by rw [e]; simp, ?_⟩
        cases q2 : (x.k == 2) with
        | false => rfl
        | true =>
          have := hb2.2
          rw [q2] at this
          simp only [Bool.true_and, decide_eq_false_iff_not] at this ⊢
          have e1 : c = 1 := by have := hb2.1; omega
          rw [e1]; rfl)
    unfold rightD
    rw [decide_eq_true h1, hd, hr, hl]; rfl
  · intro h
    unfold rightD at h
    simp only [Bool.and_eq_true, decide_eq_true_eq] at h
    obtain ⟨h1, hd, hr, hl⟩ := h
    have hone := fun i hi => dTo_at hd i hi
    unfold dOne dA at hone
    simp only [Bool.and_eq_true, decide_eq_true_eq] at hone
    have h2 : fidsUp l = true := upTo_mk (fun i hi => (hone i hi).1.2)
    have h4 : ∀ x ∈ l, aloneB x = true ∧ haveB (N0 l) x.ks = true := fun x hx => by
      obtain ⟨i, hi, rfl⟩ := List.getElem_of_mem hx
      have e : l.getD i Nd.no = l[i] := by simp [List.getD, hi]
      have hq := hone i hi
      rw [e, dKid_have] at hq
      exact ⟨alone_of hq.1.1, hq.2⟩
    obtain ⟨r, hrl, hrb⟩ := rtTo_ex hr
    unfold rtB at hrb
    simp only [Bool.and_eq_true] at hrb
    have hrf : (l.getD r Nd.no).fid = 1 := by simpa using hrb.1
    have hz := no_root (fun x hx => (h4 x hx).2)
    have h3 : isDirT (N0 l) 1 = true := by
      obtain ⟨p, hp⟩ := N0_at h2 hrl
      rw [hrf] at hp
      unfold isDirT
      rw [hp]
      exact hrb.2.1
    have h5 : linksB l = true := linksTo_mk (fun i hi => by
      have hk := lkTo_at hl i hi
      unfold lkOne at hk
      rw [Bool.and_eq_true] at hk
      unfold linkB
      cases q : ((l.getD i Nd.no).fid == 1) with
      | true =>
        have e1 : (l.getD i Nd.no).fid = 1 := by simpa using q
        obtain rfl := up_inj h2 hi hrl (by rw [e1, hrf])
        rw [e1, hz]
        have := hrb.2.2
        simp only [Bool.true_or, Bool.and_true]
        simpa using this
      | false =>
        have hk1 := hk.1
        generalize l.getD i Nd.no = x at *
        unfold lkA at hk1
        generalize ((kfs l).count x.fid : Int) = c at *
        rw [q] at hk1
        simp only [Bool.false_or, Bool.not_eq_true', Bool.or_eq_false_iff, decide_eq_false_iff_not] at hk1
        obtain ⟨a1, a2, a3⟩ := hk1
        have e : c = x.ln := by simpa using a2
        rw [← e, decide_eq_false a1]
        simp only [beq_self_eq_true, Bool.true_and, Bool.false_or]
        cases q2 : (x.k == 2) with
        | false => rfl
        | true =>
          rw [q2] at a3
          have e1 : c = 1 := by simpa using a3
          rw [e1]; rfl)
    have B : Base l := ⟨h1, h2, h3, h4, h5⟩
    refine ⟨h1, h2, h3, h4, h5, (ring_ab B).2 (fun i hi => ?_)⟩
    have hk := lkTo_at hl i hi
    unfold lkOne at hk
    rw [Bool.and_eq_true] at hk
    exact hk.2
/-- Is a snapshot right, as the document has it? -/
def snapD (ns : List Nd) (ss : List St) : Bool := rightD ns && stOk ns ss
theorem snapD_iff (ns : List Nd) (ss : List St) : RSnap ns ss ↔ snapD ns ss = true := by
  unfold RSnap snapD
  rw [rightD_iff, Bool.and_eq_true]
set_option maxHeartbeats 4000000 in
theorem rRightSnap_c (a b : Option Addr) (ca cb : Nat) (ns : List Nd) (ss : List St) (w : World) (hn : IsNs w a ns) (hs : IsSs w b ss) (hm : ns.length ≤ 100000) (hm' : ss.length ≤ 100000) :
    Calls Try.prog 39 #[.agg #[.slice a ns.length ca, .slice b ss.length cb]] w fun e w' => e = .returned (.bool (snapD ns ss)) ∧ Below w.heap.size w w' := by
  have b0 := below_1 w (.cells #[.slice a ns.length ca, .slice b ss.length cb] 49)
  have h0 := heap_alloc_new w (.cells #[.slice a ns.length ca, .slice b ss.length cb] 49)
  have y0 : (w.alloc (.cells #[.slice a ns.length ca, .slice b ss.length cb] 49)).cell? ⟨w.heap.size, 0, none⟩ = some (.slice a ns.length ca) := cell_of_row2 h0 0 rfl
  have y1 : (w.alloc (.cells #[.slice a ns.length ca, .slice b ss.length cb] 49)).cell? ⟨w.heap.size, 1, none⟩ = some (.slice b ss.length cb) := cell_of_row2 h0 1 rfl
  have RC := hid (rRight_c a ca ns _ (hn.later b0) hm)
  have HN := hid (hn.later b0)
  have HS := hid (hs.later b0)
  have B0 := hid b0
  have H0 := hid h0
  obtain ⟨R, hR⟩ : ∃ R, R = snapD ns ss := ⟨_, rfl⟩
  rw [← hR]
  unfold snapD stOk at hR
  have HR := hid hR
  obtain ⟨rd, hrd⟩ : ∃ rd, rd = rightD ns := ⟨_, rfl⟩
  rw [← hrd] at HR RC
  clear b0 h0 hn hs hR hrd
  go_enter Try.func39, Try.ntmps39
  go_upto_region 1 with fail
  generalize (w.alloc (.cells #[.slice a ns.length ca, .slice b ss.length cb] 49)) = V at *
  cases rd with
  | false =>
    have EF : Hid (R = false) := hid (by rw [HR.out]; rfl)
    go_wp2_with (go_at_call 81; refine RC.out.mono ?_; rintro _ w1 ⟨rfl, hb1⟩; have B1 := hid (B0.out.trans (hb1.mono B0.out.size)); clear hb1)
    go_ret
    exact ⟨ret_bool' EF.out.symm, B1.out⟩
  | true =>
    by_cases q : ns.length = ss.length
    · have HR2 : Hid (R = stTo ns ss ns.length) := hid (by rw [HR.out, decide_eq_true q]; rfl)
      have HQ := hid q
      obtain ⟨n, hn⟩ : ∃ n, n = ns.length := ⟨_, rfl⟩
      have HNN := hid hn
      have q2 : ss.length = n := by omega
      have qB : ((n : Int) != (n : Int)) = false := by simp
      rw [← hn] at hm y0 H0 HR2 RC
      rw [q2] at y1 H0
      clear HR q q2 hm' hn
      go_wp2_with (go_at_call 81; refine RC.out.mono ?_; rintro _ w1 ⟨rfl, hb1⟩
                   have S1 := hid hb1
                   have y0 := cell_later hb1 y0
                   have y1 := cell_later hb1 y1
                   clear hb1)
      go_loopg [3] n (fun gk i wr => ∃ m : Nat, m + gk = n ∧ i = .int .i64 m ∧ Hid (Below V.heap.size V wr) ∧ Hid (stTo ns ss m = true))
      case atStart => exact ⟨0, by omega, rfl, S1, hid rfl⟩
      case round =>
        clear y0 y1
        obtain ⟨m, hm2, rfl, HB, HI⟩ := hrel
        have y0 : wr.cell? ⟨w.heap.size, 0, none⟩ = some (.slice a n ca) := cell_of_row2 ((HB.out.block _ (lt_blkR H0.out)).trans H0.out) 0 rfl
        have y1 : wr.cell? ⟨w.heap.size, 1, none⟩ = some (.slice b n cb) := cell_of_row2 ((HB.out.block _ (lt_blkR H0.out)).trans H0.out) 1 rfl
        by_cases hlt : m < n
        · have hltI : (m : Int) < n := by omega
          have h1 : m < ns.length := by rw [← HNN.out]; exact hlt
          have h2 : m < ss.length := by rw [← HQ.out]; exact h1
          obtain ⟨b1, o1, rfl, _⟩ := HN.out.2.2 (by omega)
          obtain ⟨b2, o2, rfl, _⟩ := HS.out.2.2 (by omega)
          obtain ⟨p0, _⟩ := ((HN.out.later HB.out).at (i := m) h1).all
          obtain ⟨z0, z1, z2⟩ := (HS.out.later HB.out).at (i := m) h2
          have NO := hid (stTo_no (ss := ss) h1)
          rw [← HNN.out] at NO
          have NX : Hid (stB (ns.getD m Nd.no) (ss.getD m St.no) = true → stTo ns ss (m + 1) = true) := hid (fun h => by simp only [stTo, HI.out, h, Bool.and_self])
          unfold stB at NO NX
          clear h1 h2
          generalize ns.getD m Nd.no = x at *
          generalize ss.getD m St.no = s at *
          cases q1 : (s.fid == x.fid) with
          | false =>
            have q1b : (s.fid != x.fid) = true := by simp [bne, q1]
            have EF : Hid (R = false) := hid (by rw [HR2.out]; exact NO.out (by rw [q1]; rfl))
            clear NO NX
            go_wp2
            go_quiet (fail)
            go_wp2
            go_ret
            exact ⟨ret_bool' EF.out.symm, below_drewN (B0.out.trans (HB.out.mono B0.out.size)) _⟩
          | true =>
            have q1b : (s.fid != x.fid) = false := by simp [bne, q1]
            by_cases q3 : 3 < s.wr
            · have q3b : decide (s.wr > 3) = true := decide_eq_true q3
              have EF : Hid (R = false) := hid (by rw [HR2.out]; exact NO.out (by rw [q1, decide_eq_false (by omega)]; rfl))
              clear NO NX
              go_wp2
              go_quiet (fail)
              go_wp2
              go_ret
              exact ⟨ret_bool' EF.out.symm, below_drewN (B0.out.trans (HB.out.mono B0.out.size)) _⟩
            · have q3b : decide (s.wr > 3) = false := decide_eq_false (by omega)
              have EX := hid (NX.out (by rw [q1, decide_eq_true (by omega)]; rfl))
              clear NO NX
              go_wp2
              go_quiet (fail)
              go_wp2
              go_roundg (gk - 1)
              case measure => omega
              case rel => exact ⟨m + 1, by omega, by go_num, hid (below_drewN HB.out _), EX⟩
        · have hge : ¬ (m : Int) < n := by omega
          have EF : Hid (R = true) := hid (by rw [HR2.out, show n = m by omega]; exact HI.out)
          go_wp2
          go_ret
          exact ⟨ret_bool' EF.out.symm, B0.out.trans (HB.out.mono B0.out.size)⟩
    · have EF : Hid (R = false) := hid (by rw [HR.out, decide_eq_false q]; rfl)
      have qB : ((ss.length : Int) != (ns.length : Int)) = true := by rw [bne_iff_ne]; omega
      have h0 := H0.out
      go_wp2_with (go_at_call 81; refine RC.out.mono ?_; rintro _ w1 ⟨rfl, hb1⟩; have B1 := hid (B0.out.trans (hb1.mono B0.out.size)); have y0 := cell_later hb1 y0; have y1 := cell_later hb1 y1; clear hb1)
      go_ret
      exact ⟨ret_bool' EF.out.symm, B1.out⟩
end Go.Proofs.Ytbgninmkglgfeaa
