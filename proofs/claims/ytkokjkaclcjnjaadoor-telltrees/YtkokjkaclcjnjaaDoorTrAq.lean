/-
  The document's tree: Get, kid, dir, Look, what they answer to the letter.
  The document's tree: without, set: lists of nodes that are made anew.
  The document's tree: enter: a directory with an entry more, or less.
  The document's tree: dir, Look, less.
-/
import Derived.Test.YtkokjkaclcjnjaaDoorTrAp
namespace Go.Proofs.YtkokjkaclcjnjaaDoor
open Go.RowKit Go.ChangeShapes Go.WideShapes Go.ChangeAt Go.Maps Go.Shelf
set_option linter.unusedVariables false
set_option linter.unusedSimpArgs false
set_option maxRecDepth 100000
def getF (l : List Nd) (f : Int) : Option Nd := l.find? (fun x => x.fid == f)
theorem getF_none {l : List Nd} {f : Int} (h : ∀ i, i < l.length → (l.getD i Nd.no).fid ≠ f) : getF l f = none := by
 unfold getF
 rw [List.find?_eq_none]
 intro x hx
 obtain ⟨i, hi, rfl⟩ := List.getElem_of_mem hx
 have := h i hi
 rw [List.getD, List.getElem?_eq_getElem hi] at this
 simpa using this
theorem getF_at : ∀ {l : List Nd} {f : Int} {m : Nat}, m < l.length → (∀ i, i < m → (l.getD i Nd.no).fid ≠ f) → (l.getD m Nd.no).fid = f → getF l f = some (l.getD m Nd.no)
 | [], f, m, hm, _, _ => by cases hm
 | x :: t, f, 0, _, _, h1 => by
   have : x.fid = f := h1
   simp [getF, List.getD, this]
 | x :: t, f, m + 1, hm, h0, h1 => by
   have hx : x.fid ≠ f := h0 0 (by omega)
   have hx2 : (x.fid == f) = false := beq_eq_false_iff_ne.2 hx
   have := getF_at (l := t) (f := f) (m := m) (by simpa using hm) (fun i hi => h0 (i + 1) (by omega)) h1
   unfold getF at this ⊢
   rw [List.find?_cons, hx2]
   exact this
theorem getF_mem {l : List Nd} {f : Int} {x : Nd} (h : getF l f = some x) : x ∈ l ∧ x.fid = f := by
 unfold getF at h
 exact ⟨List.mem_of_find?_eq_some h, by simpa using List.find?_some h⟩
theorem getF_ok {w : World} {a : Option Addr} {l : List Nd} {f : Int} {x : Nd} (hn : IsNs w a l) (h : getF l f = some x) : x.Ok w := hn.2.1 x (getF_mem h).1
theorem no_ok (w : World) : Nd.no.Ok w := ⟨⟨by decide, by decide⟩, ⟨by decide, by decide⟩, ⟨by decide, by decide⟩, ⟨by decide, by decide⟩, ⟨rfl, Nat.zero_le _, (fun h => absurd h (by decide)), fun i => by simp [Nd.no]⟩, ⟨Nat.zero_le _, (fun x hx => by cases hx), fun h => absurd h (by decide)⟩⟩
theorem getD_ok {w : World} {a : Option Addr} {l : List Nd} (f : Int) (hn : IsNs w a l) : ((getF l f).getD Nd.no).Ok w := by
 cases h : getF l f with
 | none => exact no_ok w
 | some x => exact getF_ok hn h
def gotV (o : Option Nd) : Value := .tuple #[(o.getD Nd.no).val, .bool o.isSome]
set_option maxHeartbeats 2000000 in
theorem get2_c (a : Option Addr) (cap : Nat) (l : List Nd) (f : Int) (w : World) (h : IsNs w a l) (hm : l.length ≤ 100000) :
   Calls Tryd.prog 66 #[.slice a l.length cap, .int .u32 f] w fun e w' => e = .returned (gotV (getF l f)) ∧ Below w.heap.size w w' := by
 have b0 := below_1 w (.cells Nd.no.cells.toArray 35)
 have h0 := heap_alloc_new w (.cells Nd.no.cells.toArray 35)
 have H := hid (h.later b0)
 have B0 := hid b0
 have H0 := hid h0
 obtain ⟨n, hn⟩ : ∃ n, n = l.length := ⟨_, rfl⟩
 have HN := hid hn
 obtain ⟨R, hR⟩ : ∃ R, R = getF l f := ⟨_, rfl⟩
 have HR := hid hR
 rw [← hR]
 rw [← hn] at hm ⊢
 clear h b0 h0 hn hR
 go_enter Tryd.func66, Tryd.ntmps66
 go_upto_region 1 with fail
 change Code.wp _ _ _ _ (w.alloc (.cells Nd.no.cells.toArray 35))
 generalize (w.alloc (.cells Nd.no.cells.toArray 35)) = V at *
 have fz : ∀ i, V.frozen? ⟨w.heap.size, i, none⟩ = false := fun i => by simp [World.frozen?, H0.out]
 obtain ⟨q0, q1, q2, q3, q4, q5⟩ := nd_cells H0.out
 simp only [Nd.no, List.length_nil] at q0 q1 q2 q3 q4 q5
 go_wp2
 go_loopg [6] n (fun gk i wr => ∃ m : Nat, m + gk = n ∧ i = .int .i64 m ∧ Hid (wr = V) ∧ Hid (∀ i, i < m → (l.getD i Nd.no).fid ≠ f))
 case atStart => exact ⟨0, by omega, rfl, hid rfl, hid (fun i hi => by omega)⟩
 case round =>
   obtain ⟨m, hm2, rfl, HW, HF⟩ := hrel
   have hwr := HW.out
   subst hwr
   by_cases hlt : m < n
   · have hltI : (m : Int) < n := by omega
     have h1 : m < l.length := by rw [← HN.out]; exact hlt
     obtain ⟨b, off, rfl, _⟩ := H.out.2.2 (by omega)
     obtain ⟨y0, y1, y2, y3, y4, y5⟩ := (H.out.at (i := m) h1).all
     have YES := hid (getF_at (f := f) h1 HF.out)
     have NX : Hid ((l.getD m Nd.no).fid ≠ f → ∀ i, i < m + 1 → (l.getD i Nd.no).fid ≠ f) := hid (fun h i hi => by
       by_cases e : i = m
       · rw [e]; exact h
       · exact HF.out i (by omega))
     clear h1
     generalize l.getD m Nd.no = x at *
     by_cases q : x.fid = f
     · have qB : (x.fid == f) = true := by rw [q]; simp
       have ET : Hid (R = some x) := hid (by rw [HR.out]; exact YES.out q)
       clear YES NX HF
       go_wp2
       refine bodyPost_ret (v := .tuple #[x.val, .bool true]) (by simp [results, Tryd.results66, go_sem, Nd.val, q0, q1, q2, q3, q4, q5, q]) rfl ⟨by rw [ET.out]; rfl, ?_⟩
       exact (((((B0.out.setCell (p := ⟨w.heap.size, 0, none⟩) (Nat.le_refl _) _).setCell (p := ⟨w.heap.size, 1, none⟩) (Nat.le_refl _) _).setCell (p := ⟨w.heap.size, 2, none⟩) (Nat.le_refl _) _).setCell (p := ⟨w.heap.size, 3, none⟩) (Nat.le_refl _) _).setCell (p := ⟨w.heap.size, 4, none⟩) (Nat.le_refl _) _).setCell (p := ⟨w.heap.size, 5, none⟩) (Nat.le_refl _) _
     · have qB : (x.fid == f) = false := beq_eq_false_iff_ne.2 q
       have EX := hid (NX.out q)
       clear YES NX HF
       go_wp2
       go_roundg (gk - 1)
       case measure => omega
       case rel => exact ⟨m + 1, by omega, by go_num, hid rfl, EX⟩
   · have hge : ¬ (m : Int) < n := by omega
     have EF : Hid (R = none) := hid (by rw [HR.out]; exact getF_none (fun i hi => HF.out i (by have := HN.out; omega)))
     go_wp2
     refine bodyPost_ret (v := .tuple #[Nd.no.val, .bool false]) (by simp [results, Tryd.results66, go_sem, Nd.val, Nd.no, q0, q1, q2, q3, q4, q5]) rfl ⟨by rw [EF.out]; rfl, ?_⟩
     exact (((((B0.out.setCell (p := ⟨w.heap.size, 0, none⟩) (Nat.le_refl _) _).setCell (p := ⟨w.heap.size, 1, none⟩) (Nat.le_refl _) _).setCell (p := ⟨w.heap.size, 2, none⟩) (Nat.le_refl _) _).setCell (p := ⟨w.heap.size, 3, none⟩) (Nat.le_refl _) _).setCell (p := ⟨w.heap.size, 4, none⟩) (Nat.le_refl _) _).setCell (p := ⟨w.heap.size, 5, none⟩) (Nat.le_refl _) _
def kidI (l : List Kd) (s : ByteArray) : Int := match l.find? (fun k => decide (k.nm = s)) with
 | some k => k.fid
 | none => 0
def OwN (w : World) (base : Nat) (v : Value) (L : List Nd) : Prop := w.ownsRow base 35 6 v L.length (ncells L)
theorem OwN.nil (w : World) (base : Nat) : OwN w base (.slice none 0 0) [] := World.ownsRow_nil _ _ _ _
theorem OwN.later {w w' : World} {base : Nat} {v : Value} {L : List Nd} (h : OwN w base v L) (hb : Below w.heap.size w w') : OwN w' base v L := own_latR h hb
theorem OwN.shape {w : World} {base : Nat} {v : Value} {L : List Nd} (h : OwN w base v L) : ∃ a cap, v = .slice a L.length cap := by
 rcases h.2 with ⟨hv, hn⟩ | ⟨g, cap, cur, hv, hrest⟩
 · exact ⟨none, 0, by rw [hv, hn]⟩
 · exact ⟨_, _, hv⟩
theorem OwN.is {w : World} {base : Nat} {v : Value} {L : List Nd} (h : OwN w base v L) (hk : ∀ x ∈ L, x.Ok w) (hm : L.length ≤ 100000) : ∃ a cap, v = .slice a L.length cap ∧ IsNs w a L := by
 rcases h.2 with ⟨hv, hn⟩ | ⟨g, cap, cur, hv, hrest⟩
 · have e : L = [] := List.eq_nil_of_length_eq_zero hn
   subst e
   exact ⟨none, 0, hv, ⟨Nat.zero_le _, (fun x hx => by cases hx), fun hp => absurd hp (by simp)⟩⟩
 · refine ⟨_, _, hv, ⟨by unfold maxLen; omega, hk, fun hp => ⟨g, 0, rfl, fun i hi => ?_⟩⟩⟩
   intro j u hu
   have hj : j < 6 := by
     have := (List.getElem?_eq_some_iff.1 hu).1
     simpa [Nd.cells] using this
   have e := h.cells (g := g) (by rw [hv]; rfl) (i * 6 + j) u (by rw [ncells_get L i j hi hj]; exact hu)
   rw [← e]
   congr 1
   unfold Addr.add
   split
   · rename_i q; simp [q]
   · simp
def outL (l : List Nd) (f : Int) : List Nd := l.filter (fun x => x.fid != f)
def setS (n : Nd) (p : List Nd × Bool) (x : Nd) : List Nd × Bool :=
 ((if !p.2 && decide (n.fid ≤ x.fid) then p.1 ++ [n] else p.1) ++ (if x.fid != n.fid then [x] else []), p.2 || decide (n.fid ≤ x.fid))
def setL (l : List Nd) (n : Nd) : List Nd := if (l.foldl (setS n) ([], false)).2 then (l.foldl (setS n) ([], false)).1 else (l.foldl (setS n) ([], false)).1 ++ [n]
def OwK (w : World) (base : Nat) (v : Value) (L : List Kd) : Prop := w.ownsRow base 71 2 v L.length (kcells L)
theorem OwK.nil (w : World) (base : Nat) : OwK w base (.slice none 0 0) [] := World.ownsRow_nil _ _ _ _
theorem OwK.later {w w' : World} {base : Nat} {v : Value} {L : List Kd} (h : OwK w base v L) (hb : Below w.heap.size w w') : OwK w' base v L := own_latR h hb
theorem OwK.shape {w : World} {base : Nat} {v : Value} {L : List Kd} (h : OwK w base v L) : ∃ a cap, v = .slice a L.length cap := by
 rcases h.2 with ⟨hv, hn⟩ | ⟨g, cap, cur, hv, hrest⟩
 · exact ⟨none, 0, by rw [hv, hn]⟩
 · exact ⟨_, _, hv⟩
def entS (s : ByteArray) (f : Int) (p : List Kd × Bool) (x : Kd) : List Kd × Bool :=
 ((if !p.2 && leS s x.nm then p.1 ++ [⟨s, f⟩] else p.1) ++ (if decide (x.nm ≠ s) then [x] else []), p.2 || leS s x.nm)
def entL (l : List Kd) (s : ByteArray) (f : Int) : List Kd := if (l.foldl (entS s f) ([], f == 0)).2 then (l.foldl (entS s f) ([], f == 0)).1 else (l.foldl (entS s f) ([], f == 0)).1 ++ [⟨s, f⟩]
def Nd.kids (x : Nd) (ka : Option Addr) (kc : Nat) (ks : List Kd) : Nd := ⟨x.fid, x.k, x.md, x.ln, x.da, x.dc, x.zs, ka, kc, ks⟩
def dirE (o : Option Nd) : Int := match o with
 | none => 5
 | some x => if x.k = 2 then 0 else 7
def dirN (o : Option Nd) : Nd := match o with
 | none => Nd.no
 | some x => if x.k = 2 then x else Nd.no
def lookI (o : Option Nd) (s : ByteArray) : Int := match o with
 | none => 0
 | some x => if x.k = 2 then kidI x.ks s else 0
def lookE (o : Option Nd) (s : ByteArray) : Int := match o with
 | none => 5
 | some x => if x.k = 2 then (if kidI x.ks s = 0 then 5 else 0) else 7
def lessL (l : List Nd) (x : Nd) : List Nd := if x.ln = 1 then outL l x.fid else setL l ⟨x.fid, x.k, x.md, x.ln - 1, x.da, x.dc, x.zs, x.ka, x.kc, x.ks⟩
end Go.Proofs.YtkokjkaclcjnjaaDoor
