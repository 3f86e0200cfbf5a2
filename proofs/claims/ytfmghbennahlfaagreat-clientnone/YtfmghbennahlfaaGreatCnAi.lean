/-
  
-/
import Derived.Test.YtfmghbennahlfaaGreatCnAh
import Derived.BigQuiet
namespace Go.Proofs.YtfmghbennahlfaaGreat
open Go.RowKit Go.ChangeShapes Go.WideShapes Go.ChangeAt Go.Maps
set_option linter.unusedVariables false
set_option linter.unusedSimpArgs false
set_option maxRecDepth 100000
def Nd.er (x : Nd) : Nd := x.lie none 0 none 0
theorem er_no : Nd.no.er = Nd.no := rfl
theorem getD_er (l : List Nd) (i : Nat) : (l.map Nd.er).getD i Nd.no = (l.getD i Nd.no).er := by
 rcases Nat.lt_or_ge i l.length with h | h
 · simp [List.getD, h]
 · simp [List.getD, h, er_no]
theorem plTo_er (l : List Nd) : ∀ m, plTo (l.map Nd.er) m = plTo l m
 | 0 => rfl
 | m + 1 => by
   funext f
   show updF (plTo (l.map Nd.er) m) ((l.map Nd.er).getD m Nd.no).fid (some m) f = updF (plTo l m) (l.getD m Nd.no).fid (some m) f
   rw [plTo_er l m, getD_er]; rfl
theorem N0_er (l : List Nd) (f : Int) : N0 (l.map Nd.er) f = (N0 l f).map fun p => (p.1, p.2.er) := by
 unfold N0 ndF
 rw [List.length_map, plTo_er]
 cases plTo l l.length f with
 | none => rfl
 | some i => simp only [Option.map_some, getD_er]
theorem isDir_er (l : List Nd) (g : Int) : isDirT (N0 (l.map Nd.er)) g = isDirT (N0 l) g := by
 unfold isDirT
 rw [N0_er]
 cases N0 l g with
 | none => rfl
 | some p => rfl
theorem edge_er (l : List Nd) (f g : Int) : Edge (N0 (l.map Nd.er)) f g ↔ Edge (N0 l) f g := by
 constructor
 · rintro ⟨p, x, i, h1, h2, h3, h4⟩
   rw [N0_er] at h1
   cases hN : N0 l f with
   | none => rw [hN] at h1; cases h1
   | some q =>
     rw [hN] at h1
     cases h1
     exact ⟨q.1, q.2, i, hN, h2, h3, by rw [isDir_er] at h4; exact h4⟩
 · rintro ⟨p, x, i, h1, h2, h3, h4⟩
   exact ⟨p, x.er, i, by rw [N0_er, h1]; rfl, h2, h3, by rw [isDir_er]; exact h4⟩
theorem ring_er (l : List Nd) : RingN (N0 (l.map Nd.er)) ↔ RingN (N0 l) := by
 have e : ∀ G, IsPar (N0 (l.map Nd.er)) G ↔ IsPar (N0 l) G := fun G => by
   unfold IsPar
   constructor
   · intro h f g; rw [h f g, edge_er]
   · intro h f g; rw [h f g, edge_er]
 unfold RingN
 simp only [e]
theorem haveTo_er (l : List Nd) (ks : List Kd) : ∀ n, haveTo (N0 (l.map Nd.er)) ks n = haveTo (N0 l) ks n
 | 0 => rfl
 | n + 1 => by
   simp only [haveTo, haveTo_er l ks n, N0_er]
   cases N0 l (ks.getD n Kd.no).fid <;> rfl
theorem upTo_er (l : List Nd) : ∀ m, upTo (l.map Nd.er) m = upTo l m
 | 0 => rfl
 | m + 1 => by
   simp only [upTo, upTo_er l m, getD_er, lastFd]
   rfl
theorem kfs_er (l : List Nd) : kfs (l.map Nd.er) = kfs l := by
 unfold kfs
 rw [List.flatMap_map]
 rfl
theorem linksTo_er (P : List Int) (l : List Nd) : ∀ m, linksTo P (l.map Nd.er) m = linksTo P l m
 | 0 => rfl
 | m + 1 => by
   simp only [linksTo, linksTo_er P l m, getD_er]
   rfl
theorem right_er (l : List Nd) : RightP (l.map Nd.er) ↔ RightP l := by
 unfold RightP fidsUp linksB
 simp only [List.length_map, upTo_er, isDir_er, ring_er, kfs_er, linksTo_er]
 have e : (∀ x ∈ l.map Nd.er, aloneB x = true ∧ haveB (N0 (l.map Nd.er)) x.ks = true) ↔ (∀ x ∈ l, aloneB x = true ∧ haveB (N0 l) x.ks = true) := by
   constructor
   · intro h x hx
     have := h x.er (List.mem_map.2 ⟨x, hx, rfl⟩)
     unfold haveB at this ⊢
     rw [haveTo_er] at this
     exact this
   · intro h x hx
     obtain ⟨y, hy, rfl⟩ := List.mem_map.1 hx
     have := h y hy
     unfold haveB at this ⊢
     rw [haveTo_er]
     exact this
 rw [e]
theorem upTo_pos {l : List Nd} : ∀ {m : Nat}, upTo l m = true → ∀ i, i < m → lastFd l i < (l.getD i Nd.no).fid
 | 0, _, i, hi => by omega
 | m + 1, h, i, hi => by
   unfold upTo at h
   rw [Bool.and_eq_true] at h
   by_cases e : i = m
   · subst e; exact of_decide_eq_true h.2
   · exact upTo_pos h.1 i (by omega)
theorem upTo_pos2 {l : List Nd} {m : Nat} (h : upTo l m = true) : ∀ i, i < m → 0 < (l.getD i Nd.no).fid
 | 0, hi => by have := upTo_pos h 0 hi; simpa [lastFd] using this
 | i + 1, hi => by
   have h1 := upTo_pos h (i + 1) hi
   have h2 := upTo_pos2 h i (by omega)
   rw [lastFd_next] at h1
   omega
theorem kidsTo_of {N : Tab} {l : List Kd} (hp : ∀ f p, N f = some p → f ≠ 0) : ∀ {m : Nat}, namesTo l m = true → haveTo N l m = true → kidsTo l m = true
 | 0, _, _ => rfl
 | m + 1, h, h2 => by
   unfold namesTo at h
   unfold haveTo at h2
   rw [Bool.and_eq_true] at h h2
   unfold kidsTo
   rw [kidsTo_of hp h.1 h2.1, Bool.true_and]
   unfold kOk
   have h3 := h.2
   unfold nmK at h3
   rw [h3, Bool.true_and]
   have h4 := h2.2
   rw [Bool.and_eq_true] at h4
   cases hN : N (l.getD m Kd.no).fid with
   | none => rw [hN] at h4; simp at h4
   | some p => have := hp _ _ hN; simpa using this
def hasTo (l : List Nd) (f : Int) : Nat → Bool
 | 0 => false
 | m + 1 => hasTo l f m || (l.getD m Nd.no).fid == f
def hasF (l : List Nd) (f : Int) : Bool := hasTo l f l.length
theorem has_yes (l : List Nd) (f : Int) (m : Nat) (h : ((l.getD m Nd.no).fid == f) = true) : ∀ d, hasTo l f (m + 1 + d) = true
 | 0 => by simp only [Nat.add_zero, hasTo, h, Bool.or_true]
 | d + 1 => by rw [← Nat.add_assoc]; simp only [hasTo, has_yes l f m h d, Bool.true_or]
theorem hasF_yes {l : List Nd} {f : Int} {m : Nat} (hm : m < l.length) (h : ((l.getD m Nd.no).fid == f) = true) : hasF l f = true := by
 unfold hasF
 obtain ⟨d, hd⟩ : ∃ d, l.length = m + 1 + d := ⟨l.length - (m + 1), by omega⟩
 rw [hd]; exact has_yes l f m h d
def upM (x : Nd) (f acc : Int) : Nat → Int
 | 0 => acc
 | m + 1 => bif (x.ks.getD m Kd.no).fid == f then x.fid else upM x f acc m
def upK (l : List Nd) (f : Int) : Nat → Int
 | 0 => 0
 | k + 1 => upM (l.getD k Nd.no) f (upK l f k) (l.getD k Nd.no).ks.length
def upD (l : List Nd) (f : Int) : Int := upK l f l.length
def abN (l : List Nd) (f : Int) : Nat → Int → Bool
 | 0, _ => false
 | n + 1, at' => bif at' == f then true else bif upD l at' == 0 then false else abN l f n (upD l at')
end Go.Proofs.YtfmghbennahlfaaGreat
namespace Go.Proofs.YtfmghbennahlfaaGreat
open Go.RowKit Go.ChangeShapes Go.WideShapes Go.ChangeAt Go.Maps Go.Shelf
set_option linter.unusedVariables false
set_option linter.unusedSimpArgs false
set_option maxRecDepth 100000
def getF (l : List Nd) (f : Int) : Option Nd := l.find? (fun x => x.fid == f)
theorem getF_mem {l : List Nd} {f : Int} {x : Nd} (h : getF l f = some x) : x ∈ l ∧ x.fid = f := by
 unfold getF at h
 exact ⟨List.mem_of_find?_eq_some h, by simpa using List.find?_some h⟩
theorem no_ok (w : World) : Nd.no.Ok w := ⟨⟨by decide, by decide⟩, ⟨by decide, by decide⟩, ⟨by decide, by decide⟩, ⟨by decide, by decide⟩, ⟨rfl, Nat.zero_le _, (fun h => absurd h (by decide)), fun i => by simp [Nd.no]⟩, ⟨Nat.zero_le _, (fun x hx => by cases hx), fun h => absurd h (by decide)⟩⟩
theorem ba_eq {s t : ByteArray} : (s.toList == t.toList) = decide (s = t) := by
 rw [Bool.eq_iff_iff, decide_eq_true_iff, beq_iff_eq, Lib.toList_data, Lib.toList_data]
 constructor
 · intro h
   cases s; cases t
   simp only at h
   rw [Array.toList_inj.1 h]
 · intro h; rw [h]
def kidI (l : List Kd) (s : ByteArray) : Int := match l.find? (fun k => decide (k.nm = s)) with
 | some k => k.fid
 | none => 0
def OwN (w : World) (base : Nat) (v : Value) (L : List Nd) : Prop := w.ownsRow base 40 6 v L.length (ncells L)
theorem OwN.nil (w : World) (base : Nat) : OwN w base (.slice none 0 0) [] := World.ownsRow_nil _ _ _ _
theorem OwN.later {w w' : World} {base : Nat} {v : Value} {L : List Nd} (h : OwN w base v L) (hb : Below w.heap.size w w') : OwN w' base v L := own_latR h hb
theorem OwN.shape {w : World} {base : Nat} {v : Value} {L : List Nd} (h : OwN w base v L) : ∃ a cap, v = .slice a L.length cap := by
 rcases h.2 with ⟨hv, hn⟩ | ⟨g, cap, cur, hv, hrest⟩
 · exact ⟨none, 0, by rw [hv, hn]⟩
 · exact ⟨_, _, hv⟩
theorem OwN.is {w : World} {base : Nat} {v : Value} {L : List Nd} (h : OwN w base v L) (hk : ∀ x ∈ L, x.Ok w) (hm : L.length ≤ 100000) : ∃ a cap, v = .slice a L.length cap ∧ IsNs w a L := by
 rcases h.2 with ⟨hv, hn⟩ | ⟨g, cap, cur, hv, hrest⟩
 · have e : L = [] := List.eq_nil_of_length_eq_zero hn
   subst e
   exact ⟨none, 0, hv, ⟨Nat.zero_le _, (fun x hx => by cases hx), fun hp => absurd hp (by simp)⟩⟩
 · refine ⟨_, _, hv, ⟨by unfold maxLen; omega, hk, fun hp => ⟨g, 0, rfl, fun i hi => ?_⟩⟩⟩
   intro j u hu
   have hj : j < 6 := by
     have := (List.getElem?_eq_some_iff.1 hu).1
     simpa [Nd.cells] using this
   have e := h.cells (g := g) (by rw [hv]; rfl) (i * 6 + j) u (by rw [ncells_get L i j hi hj]; exact hu)
   rw [← e]
   congr 1
   unfold Addr.add
   split
   · rename_i q; simp [q]
   · simp
theorem below_grownN {B : Nat} {a w w' : World} {base : Nat} {v : Value} {L : List Nd} (h : Below B a w) (hown : OwN w base v L) (hB : B ≤ base) (hBw : B ≤ w.heap.size) (hg : w.grownBy w' v.ownBlock) : Below B a w' := by
 refine ⟨hg.os.trans h.os, hg.tape.trans h.tape, hg.output.trans h.output, Nat.le_trans h.size hg.size, fun k hk => ?_⟩
 rw [hg.block k (by omega) ?_]
 · exact h.block k hk
 · intro e
   rcases hown.2 with ⟨hv, hn⟩ | ⟨g, cap, cur, hv, hb, hrest⟩
   · rw [hv] at e; cases e
   · rw [hv] at e
     cases e
     have hb' : base ≤ g := hb
     have hk' : g < B := hk
     omega
theorem wpList_appNd (w : World) {ops : Array Oper} {rest : List Oper} {o : Oper} {a : Act} {Q : Exit → Act → World → Prop} (hgd : o.guard = none) (s x : Operand)
   (ho : o.op = .call { callee := .builtin .append, args := #[s, x], argTypes := #[49, 49] }) (base : Nat) (v : Value) (L : List Nd) (hs : a.eval s = v) (hown : OwN w base v L)
   (g : Nat) (fr : Nat × Nat) (y : Nd) (hx : a.eval x = .slice (some ⟨g, 0, none⟩) 1 1) (hb : w.heap[g]? = some (.cells y.cells.toArray 40 fr)) (h63 : L.length ≤ 10000) (hbase : base ≤ w.heap.size)
   (h : ∀ v' w', OwN w' base v' (L ++ [y]) → w.grownBy w' v.ownBlock → wpList Tryz.prog ops Q rest (a.put o.dst v') w') : wpList Tryz.prog ops Q (o :: rest) a w := by
 obtain ⟨i0, hi, hz0, hz1, hz2⟩ := info_nd
 refine wpList_append_own w hgd s x 49 ho base 40 i0 Nd.no.val 6 64 Tryz.underlying49 hi hz0 hz1 hz2 (by rfl) (by decide) v L.length (ncells L) hs hown ⟨g, 0, none⟩ 1 1 y.cells hx rfl (nd_news hb) (nd_one y) (by unfold maxLen; omega) (by omega) hbase ?_
 intro v' w' h1 h2 h3
 refine h v' w' ?_ h2
 unfold OwN
 rw [ncells_snoc, List.length_append]
 exact h1
theorem fold_take {α β : Type} (g : β → α → β) (s : β) (l : List α) (d : α) {m : Nat} (h : m < l.length) : (l.take (m + 1)).foldl g s = g ((l.take m).foldl g s) (l.getD m d) := by
 rw [List.take_add_one, List.getElem?_eq_getElem h, List.foldl_append]
 simp [List.getD, h]
def outL (l : List Nd) (f : Int) : List Nd := l.filter (fun x => x.fid != f)
def setS (n : Nd) (p : List Nd × Bool) (x : Nd) : List Nd × Bool :=
 ((if !p.2 && decide (n.fid ≤ x.fid) then p.1 ++ [n] else p.1) ++ (if x.fid != n.fid then [x] else []), p.2 || decide (n.fid ≤ x.fid))
def setL (l : List Nd) (n : Nd) : List Nd := if (l.foldl (setS n) ([], false)).2 then (l.foldl (setS n) ([], false)).1 else (l.foldl (setS n) ([], false)).1 ++ [n]
def OwK (w : World) (base : Nat) (v : Value) (L : List Kd) : Prop := w.ownsRow base 66 2 v L.length (kcells L)
theorem OwK.nil (w : World) (base : Nat) : OwK w base (.slice none 0 0) [] := World.ownsRow_nil _ _ _ _
theorem OwK.later {w w' : World} {base : Nat} {v : Value} {L : List Kd} (h : OwK w base v L) (hb : Below w.heap.size w w') : OwK w' base v L := own_latR h hb
theorem OwK.shape {w : World} {base : Nat} {v : Value} {L : List Kd} (h : OwK w base v L) : ∃ a cap, v = .slice a L.length cap := by
 rcases h.2 with ⟨hv, hn⟩ | ⟨g, cap, cur, hv, hrest⟩
 · exact ⟨none, 0, by rw [hv, hn]⟩
 · exact ⟨_, _, hv⟩
theorem below_grownK {B : Nat} {a w w' : World} {base : Nat} {v : Value} {L : List Kd} (h : Below B a w) (hown : OwK w base v L) (hB : B ≤ base) (hBw : B ≤ w.heap.size) (hg : w.grownBy w' v.ownBlock) : Below B a w' := by
 refine ⟨hg.os.trans h.os, hg.tape.trans h.tape, hg.output.trans h.output, Nat.le_trans h.size hg.size, fun k hk => ?_⟩
 rw [hg.block k (by omega) ?_]
 · exact h.block k hk
 · intro e
   rcases hown.2 with ⟨hv, hn⟩ | ⟨g, cap, cur, hv, hb, hrest⟩
   · rw [hv] at e; cases e
   · rw [hv] at e
     cases e
     have hb' : base ≤ g := hb
     have hk' : g < B := hk
     omega
def entS (s : ByteArray) (f : Int) (p : List Kd × Bool) (x : Kd) : List Kd × Bool :=
 ((if !p.2 && leS s x.nm then p.1 ++ [⟨s, f⟩] else p.1) ++ (if decide (x.nm ≠ s) then [x] else []), p.2 || leS s x.nm)
def entL (l : List Kd) (s : ByteArray) (f : Int) : List Kd := if (l.foldl (entS s f) ([], f == 0)).2 then (l.foldl (entS s f) ([], f == 0)).1 else (l.foldl (entS s f) ([], f == 0)).1 ++ [⟨s, f⟩]
def Nd.kids (x : Nd) (ka : Option Addr) (kc : Nat) (ks : List Kd) : Nd := ⟨x.fid, x.k, x.md, x.ln, x.da, x.dc, x.zs, ka, kc, ks⟩
def dirE (o : Option Nd) : Int := match o with
 | none => 5
 | some x => if x.k = 2 then 0 else 7
def dirN (o : Option Nd) : Nd := match o with
 | none => Nd.no
 | some x => if x.k = 2 then x else Nd.no
def lookI (o : Option Nd) (s : ByteArray) : Int := match o with
 | none => 0
 | some x => if x.k = 2 then kidI x.ks s else 0
def lookE (o : Option Nd) (s : ByteArray) : Int := match o with
 | none => 5
 | some x => if x.k = 2 then (if kidI x.ks s = 0 then 5 else 0) else 7
def lessL (l : List Nd) (x : Nd) : List Nd := if x.ln = 1 then outL l x.fid else setL l ⟨x.fid, x.k, x.md, x.ln - 1, x.da, x.dc, x.zs, x.ka, x.kc, x.ks⟩
def Nd.Nil (x : Nd) : Prop := (x.da = none → x.dc = 0) ∧ (x.ka = none → x.kc = 0)
def Nd.Fit (x : Nd) : Prop := (0 ≤ x.fid ∧ x.fid < 4294967296) ∧ (0 ≤ x.k ∧ x.k < 256) ∧ (0 ≤ x.md ∧ x.md < 65536) ∧ (0 ≤ x.ln ∧ x.ln < 65536) ∧ InB x.zs ∧ (∀ q ∈ x.ks, q.Wf) ∧ x.zs.length ≤ 1000 ∧ x.ks.length ≤ 1000
def NdR (w : World) (base : Nat) (x : Nd) : Prop := x.Fit ∧ x.Nil ∧ RowAt w base 5 x.da (x.zs.map u8V) ∧ RowAt w base 66 x.ka (kcells x.ks)
theorem RowAt.lowR {w : World} {base b : Nat} {t : TypeId} {p : Option Addr} {vs : List Value} (h : RowAt w base t p vs) (hb : b ≤ base) : RowAt w b t p vs := by
 rcases h with h | ⟨g, cs, fr, h1, h2, h3, h4⟩
 · exact .inl h
 · exact .inr ⟨g, cs, fr, h1, by omega, h3, h4⟩
theorem NdR.ok {w : World} {base : Nat} {x : Nd} (h : NdR w base x) : x.Ok w := by
 obtain ⟨⟨h1, h2, h3, h4, h5, h6, h7, h8⟩, _, hd, hk⟩ := h
 refine ⟨h1, h2, h3, h4, ⟨rfl, by unfold maxLen; omega, fun hp => ?_, h5⟩, ⟨by unfold maxLen; omega, h6, fun hp => ?_⟩⟩
 · rcases hd with hd | ⟨g, cs, fr, e1, e2, e3, e4⟩
   · have := congrArg List.length hd
     simp at this
     rw [this] at hp
     exact absurd hp (by simp)
   · refine ⟨g, 0, e1, fun i hi => ?_⟩
     rw [cell_of_row w g _ _ _ fr e3]
     refine e4 (0 + i) _ ?_
     simp [List.getElem?_map, List.getD, hi, u8V]
 · rcases hk with hk | ⟨g, cs, fr, e1, e2, e3, e4⟩
   · have := congrArg List.length hk
     rw [kcells_len] at this
     simp only [List.length_nil] at this
     omega
   · refine ⟨g, 0, e1, fun i hi => ?_⟩
     have key : ∀ j, j < 2 → ∀ u, (x.ks.getD i Kd.no).cells[j]? = some u → w.cell? ⟨g, 0 + i * 2 + j, none⟩ = some u := fun j hj u hu => by
       rw [cell_of_row w g _ _ _ fr e3]
       refine e4 (0 + i * 2 + j) _ ?_
       rw [Nat.zero_add, kcells_get x.ks i j hi hj]
       exact hu
     exact ⟨key 0 (by omega) _ rfl, key 1 (by omega) _ rfl⟩
theorem own_empty_at {w : World} {e : TypeId} {size g base : Nat} (h : w.heap[g]? = some (.cells #[] e (0, 0))) (hb : base ≤ g) : w.ownsRow base e size (.slice (some ⟨g, 0, none⟩) 0 0) 0 [] :=
 ⟨by simp, .inr ⟨g, 0, #[], rfl, hb, h, Nat.le_refl _, Nat.zero_le _, by simp, by simp⟩⟩
theorem wpList_cpB (w : World) {ops : Array Oper} {rest : List Oper} {o : Oper} {a : Act} {Q : Exit → Act → World → Prop} (hgd : o.guard = none) (s x : Operand)
   (ho : o.op = .call { callee := .builtin .append, args := #[s, x], argTypes := #[37, 37] }) (g : Nat) (hs : a.eval s = .slice (some ⟨g, 0, none⟩) 0 0) (hg0 : w.heap[g]? = some (.cells #[] 5 (0, 0)))
   (pa : Option Addr) (m c : Nat) (zs : List Int) (hx : a.eval x = .slice pa m c) (hb : IsB w pa m zs) (hc : pa = none → c = 0) (h63 : m ≤ 1000000)
   (h : ∀ v' w', OwB w' g v' zs → w.grownBy w' (some g) → wpList Tryz.prog ops Q rest (a.put o.dst v') w') : wpList Tryz.prog ops Q (o :: rest) a w := by
 obtain ⟨i0, hi, hz0, hz1, hz2⟩ := info_parts8
 have hown : w.ownsRow g 5 1 (.slice (some ⟨g, 0, none⟩) 0 0) 0 [] := own_empty_at hg0 (Nat.le_refl _)
 have hl := hb.1
 have hgs := lt_blkR hg0
 cases pa with
 | none =>
   have hm : m = 0 := by
     rcases Nat.eq_zero_or_pos m with h0 | h0
     · exact h0
     · obtain ⟨b, off, e, _⟩ := hb.2.2.1 h0; cases e
   subst hm
   have hz : zs = [] := List.eq_nil_of_length_eq_zero hb.1
   subst hz
   have hc0 := hc rfl
   subst hc0
   refine wpList_append_own_none hgd s x 37 ho g 5 i0 1 Tryz.underlying37 hi _ 0 [] hs hown hx ?_
   exact h _ w hown (World.grownBy.refl w _)
 | some ad =>
   by_cases hm : m = 0
   · subst hm
     have hz : zs = [] := List.eq_nil_of_length_eq_zero hb.1
     subst hz
     refine wpList_append_own w hgd s x 37 ho g 5 i0 (.int .u8 0) 1 1 Tryz.underlying37 hi hz0 hz1 hz2 rfl (by decide) _ 0 [] hs hown ad 0 c [] hx rfl (fun j u hu => by simp at hu) (fun u hu => by cases hu) (by unfold maxLen; omega) (by omega) (by omega) ?_
     intro v' w' h1 h2 h3
     exact h v' w' (by unfold OwB; simpa using h1) h2
   · obtain ⟨b, off, e, _⟩ := hb.2.2.1 (by omega)
     cases e
     refine wpList_append_own w hgd s x 37 ho g 5 i0 (.int .u8 0) 1 1 Tryz.underlying37 hi hz0 hz1 hz2 rfl (by decide) _ 0 [] hs hown ⟨b, off, none⟩ m c (zs.map u8V) hx (by simp [hl]) (isB_newsF hb) (u8V_one zs) (by unfold maxLen; omega) (by omega) (by omega) ?_
     intro v' w' h1 h2 h3
     refine h v' w' ?_ h2
     unfold OwB
     rw [hl]
     simpa using h1
theorem ks_news {w : World} {b off : Nat} {l : List Kd} (h : IsKs w (some ⟨b, off, none⟩) l) : ∀ j u, (kcells l)[j]? = some u → w.cell? ((⟨b, off, none⟩ : Addr).add j) = some u := fun j u hu => by
 have hj : j < l.length * 2 := by rw [← kcells_len]; exact (List.getElem?_eq_some_iff.1 hu).1
 have e : (⟨b, off, none⟩ : Addr).add j = ⟨b, off + j, none⟩ := by unfold Addr.add; split <;> simp_all
 have hd : j / 2 * 2 + j % 2 = j := by omega
 have hi : j / 2 < l.length := by omega
 obtain ⟨k0, k1⟩ := h.at hi
 rw [e]
 rw [← hd, kcells_get l (j / 2) (j % 2) hi (by omega)] at hu
 have hm : j % 2 = 0 ∨ j % 2 = 1 := by omega
 rcases hm with hm | hm
 · rw [hm] at hu hd
   have : u = .string (l.getD (j / 2) Kd.no).nm := by simpa [Kd.cells] using hu.symm
   rw [this, ← k0]
   congr 2
   omega
 · rw [hm] at hu hd
   have : u = .int .u32 (l.getD (j / 2) Kd.no).fid := by simpa [Kd.cells] using hu.symm
   rw [this, ← k1]
   congr 2
   omega
theorem kcells_one (l : List Kd) : ∀ u ∈ kcells l, u.oneCell' = true := fun u hu => by
 unfold kcells at hu
 rw [List.mem_flatMap] at hu
 obtain ⟨x, _, hx⟩ := hu
 exact kid_one x u hx
theorem wpList_cpK (w : World) {ops : Array Oper} {rest : List Oper} {o : Oper} {a : Act} {Q : Exit → Act → World → Prop} (hgd : o.guard = none) (s x : Operand)
   (ho : o.op = .call { callee := .builtin .append, args := #[s, x], argTypes := #[38, 38] }) (g : Nat) (hs : a.eval s = .slice (some ⟨g, 0, none⟩) 0 0) (hg0 : w.heap[g]? = some (.cells #[] 66 (0, 0)))
   (pa : Option Addr) (m c : Nat) (l : List Kd) (hx : a.eval x = .slice pa m c) (hb : IsKs w pa l) (hl : m = l.length) (hc : pa = none → c = 0) (h63 : m ≤ 100000)
   (h : ∀ v' w', OwK w' g v' l → w.grownBy w' (some g) → wpList Tryz.prog ops Q rest (a.put o.dst v') w') : wpList Tryz.prog ops Q (o :: rest) a w := by
 obtain ⟨i0, hi, hz0, hz1, hz2⟩ := info_kid
 have hown : w.ownsRow g 66 2 (.slice (some ⟨g, 0, none⟩) 0 0) 0 [] := own_empty_at hg0 (Nat.le_refl _)
 have hgs := lt_blkR hg0
 cases pa with
 | none =>
   have hm : l = [] := by
     cases l with
     | nil => rfl
     | cons y ys => obtain ⟨b, off, e, _⟩ := hb.2.2 (by simp); cases e
   subst hm
   simp only [List.length_nil] at hl
   subst hl
   have hc0 := hc rfl
   subst hc0
   refine wpList_append_own_none hgd s x 38 ho g 66 i0 2 Tryz.underlying38 hi _ 0 [] hs hown hx ?_
   exact h _ w hown (World.grownBy.refl w _)
 | some ad =>
   by_cases hm : l.length = 0
   · have hz : l = [] := List.eq_nil_of_length_eq_zero hm
     subst hz
     subst hl
     refine wpList_append_own w hgd s x 38 ho g 66 i0 Kd.no.val 2 24 Tryz.underlying38 hi hz0 hz1 hz2 (by rfl) (by decide) _ 0 [] hs hown ad 0 c [] hx rfl (fun j u hu => by simp at hu) (fun u hu => by cases hu) (by unfold maxLen; omega) (by omega) (by omega) ?_
     intro v' w' h1 h2 h3
     exact h v' w' (by unfold OwK; exact h1) h2
   · obtain ⟨b, off, e, _⟩ := hb.2.2 (by omega)
     cases e
     subst hl
     refine wpList_append_own w hgd s x 38 ho g 66 i0 Kd.no.val 2 24 Tryz.underlying38 hi hz0 hz1 hz2 (by rfl) (by decide) _ 0 [] hs hown ⟨b, off, none⟩ l.length c (kcells l) hx (by rw [kcells_len]) (ks_news hb) (kcells_one l) (by unfold maxLen; omega) (by omega) (by omega) ?_
     intro v' w' h1 h2 h3
     refine h v' w' ?_ h2
     unfold OwK
     simpa using h1
theorem OwB.shapeR {w : World} {base : Nat} {v : Value} {zs : List Int} (h : OwB w base v zs) : ∃ a cap, v = .slice a zs.length cap ∧ (a = none → cap = 0) ∧ RowAt w base 5 a (zs.map u8V) := by
 have hz : zs.length = 0 → zs.map u8V = [] := fun e => by rw [List.eq_nil_of_length_eq_zero e]; rfl
 rcases h.2 with ⟨hv, hn⟩ | ⟨g, cap, cur, hv, hrest⟩
 · exact ⟨none, 0, by rw [hv, hn], fun _ => rfl, .inl (hz hn)⟩
 · exact ⟨_, _, hv, (fun e => by cases e), RowAt.own h hv hz⟩
theorem OwK.shapeR {w : World} {base : Nat} {v : Value} {l : List Kd} (h : OwK w base v l) : ∃ a cap, v = .slice a l.length cap ∧ (a = none → cap = 0) ∧ RowAt w base 66 a (kcells l) := by
 have hz : l.length = 0 → kcells l = [] := fun e => by rw [List.eq_nil_of_length_eq_zero e]; rfl
 rcases h.2 with ⟨hv, hn⟩ | ⟨g, cap, cur, hv, hrest⟩
 · exact ⟨none, 0, by rw [hv, hn], fun _ => rfl, .inl (hz hn)⟩
 · exact ⟨_, _, hv, (fun e => by cases e), RowAt.own h hv hz⟩
theorem RowAt.setR {w : World} {base : Nat} {t : TypeId} {p : Option Addr} {vs : List Value} {q : Addr} {cs : Array Value} {e : TypeId} {fr : Nat × Nat} (h : RowAt w base t p vs) (hq : w.heap[q.block]? = some (.cells cs e fr)) (hne : t ≠ e) (u : Value) : RowAt (w.setCell q u) base t p vs := by
 rcases h with h | ⟨g, cs', fr', h1, h2, h3, h4⟩
 · exact .inl h
 · refine .inr ⟨g, cs', fr', h1, h2, ?_, h4⟩
   have : g ≠ q.block := fun e1 => by
     subst e1
     rw [hq] at h3
     cases h3
     exact hne rfl
   rw [Below.heap_setCell _ _ _ _ this]
   exact h3
theorem two_alloc (w : World) (a b : Obj) : ((w.alloc a).alloc b).heap[w.heap.size]? = some a := by
 have h := heap_alloc_new w a
 exact ((below_1 (w.alloc a) b).block _ (lt_blkR h)).trans h
def NdP (w : World) (x : Nd) : Prop := x.Ok w ∧ x.Nil ∧ x.zs.length ≤ 1000 ∧ x.ks.length ≤ 1000
theorem NdP.later {w w' : World} {x : Nd} (h : NdP w x) (hb : Below w.heap.size w w') : NdP w' x := ⟨h.1.later hb, h.2⟩
def Tr (w : World) (a : Option Addr) (l : List Nd) : Prop := IsNs w a l ∧ ∀ x ∈ l, x.Nil ∧ x.zs.length ≤ 1000 ∧ x.ks.length ≤ 1000
theorem Tr.later {w w' : World} {a : Option Addr} {l : List Nd} (h : Tr w a l) (hb : Below w.heap.size w w') : Tr w' a l := ⟨h.1.later hb, h.2⟩
theorem Tr.nil (w : World) : Tr w none [] := ⟨⟨Nat.zero_le _, (fun x hx => by cases hx), fun hp => absurd hp (by simp)⟩, fun x hx => by cases hx⟩
theorem Tr.nd {w : World} {a : Option Addr} {l : List Nd} (h : Tr w a l) {x : Nd} (hx : x ∈ l) : NdP w x := ⟨h.1.2.1 x hx, h.2 x hx⟩
theorem Tr.of {w : World} {base : Nat} {v : Value} {L : List Nd} (h : OwN w base v L) (hk : ∀ x ∈ L, NdP w x) (hm : L.length ≤ 100000) : ∃ a cap, v = .slice a L.length cap ∧ Tr w a L := by
 obtain ⟨a, cap, e, hI⟩ := h.is (fun x hx => (hk x hx).1) hm
 exact ⟨a, cap, e, hI, fun x hx => (hk x hx).2⟩
theorem NdR.p {w : World} {base : Nat} {x : Nd} (h : NdR w base x) : NdP w x := ⟨h.ok, h.2.1, h.1.2.2.2.2.2.2.1, h.1.2.2.2.2.2.2.2⟩
theorem setFold_len (n : Nd) : ∀ (l : List Nd) (p : List Nd × Bool), (l.foldl (setS n) p).1.length + (if (l.foldl (setS n) p).2 then 0 else 1) ≤ p.1.length + l.length + (if p.2 then 0 else 1)
 | [], p => Nat.le_refl _
 | x :: t, p => by
   rw [List.foldl_cons]
   have ih := setFold_len n t (setS n p x)
   have : (setS n p x).1.length + (if (setS n p x).2 then 0 else 1) ≤ p.1.length + 1 + (if p.2 then 0 else 1) := by
     unfold setS
     cases p.2 <;> cases decide (n.fid ≤ x.fid) <;> cases (x.fid != n.fid) <;> simp
   simp only [List.length_cons]
   omega
theorem setL_len (l : List Nd) (n : Nd) : (setL l n).length ≤ l.length + 1 := by
 have := setFold_len n l ([], false)
 unfold setL
 split
 · rename_i h; rw [h] at this; simp at this; omega
 · rename_i h
   rw [Bool.not_eq_true] at h
   rw [h] at this
   simp only [List.length_append, List.length_cons, List.length_nil]
   simp at this
   omega
theorem outL_len2 (l : List Nd) (f : Int) : (outL l f).length ≤ l.length := List.length_filter_le _ _
theorem getF_er (l : List Nd) (f : Int) : getF (l.map Nd.er) f = (getF l f).map Nd.er := by
 unfold getF
 rw [List.find?_map]
 rfl
def Nd.lnk (x : Nd) (n : Int) : Nd := ⟨x.fid, x.k, x.md, n, x.da, x.dc, x.zs, x.ka, x.kc, x.ks⟩
theorem lessL_len (l : List Nd) (x : Nd) : (lessL l x).length ≤ l.length + 1 := by
 unfold lessL
 split
 · have := outL_len2 l x.fid; omega
 · exact setL_len _ _
theorem entS_mem (s : ByteArray) (f : Int) (p : List Kd × Bool) (x y : Kd) (h : y ∈ (entS s f p x).1) : y ∈ p.1 ∨ y = ⟨s, f⟩ ∨ y = x := by
 unfold entS at h
 simp only at h
 rcases List.mem_append.1 h with h | h
 · split at h
   · rcases List.mem_append.1 h with h | h
     · exact .inl h
     · exact .inr (.inl (by simpa using h))
   · exact .inl h
 · split at h
   · exact .inr (.inr (by simpa using h))
   · cases h
theorem entFold_mem (s : ByteArray) (f : Int) : ∀ (l : List Kd) (p : List Kd × Bool) (y : Kd), y ∈ (l.foldl (entS s f) p).1 → y ∈ p.1 ∨ y = ⟨s, f⟩ ∨ y ∈ l
 | [], p, y, h => .inl h
 | x :: t, p, y, h => by
   rw [List.foldl_cons] at h
   rcases entFold_mem s f t _ y h with h | h | h
   · rcases entS_mem s f p x y h with h | h | h
     · exact .inl h
     · exact .inr (.inl h)
     · exact .inr (.inr (by rw [h]; exact List.mem_cons_self))
   · exact .inr (.inl h)
   · exact .inr (.inr (List.mem_cons_of_mem _ h))
theorem entL_mem {l : List Kd} {s : ByteArray} {f : Int} {y : Kd} (h : y ∈ entL l s f) : y = ⟨s, f⟩ ∨ y ∈ l := by
 have key : y ∈ (l.foldl (entS s f) ([], f == 0)).1 → y = ⟨s, f⟩ ∨ y ∈ l := fun h => by
   rcases entFold_mem s f l _ y h with h | h | h
   · cases h
   · exact .inl h
   · exact .inr h
 unfold entL at h
 split at h
 · exact key h
 · rcases List.mem_append.1 h with h | h
   · exact key h
   · exact .inl (by simpa using h)
theorem entFold_len (s : ByteArray) (f : Int) : ∀ (l : List Kd) (p : List Kd × Bool), (l.foldl (entS s f) p).1.length + (if (l.foldl (entS s f) p).2 then 0 else 1) ≤ p.1.length + l.length + (if p.2 then 0 else 1)
 | [], p => Nat.le_refl _
 | x :: t, p => by
   rw [List.foldl_cons]
   have ih := entFold_len s f t (entS s f p x)
   have : (entS s f p x).1.length + (if (entS s f p x).2 then 0 else 1) ≤ p.1.length + 1 + (if p.2 then 0 else 1) := by
     unfold entS
     cases p.2 <;> cases leS s x.nm <;> cases decide (x.nm ≠ s) <;> simp
   simp only [List.length_cons]
   omega
theorem entL_len (l : List Kd) (s : ByteArray) (f : Int) : (entL l s f).length ≤ l.length + 1 := by
 have := entFold_len s f l ([], f == 0)
 generalize hq : (f == 0) = q at this
 unfold entL
 rw [hq]
 generalize (l.foldl (entS s f) ([], q)) = r at *
 cases hr : r.2 <;> cases q <;> simp [hr] at this ⊢ <;> omega
end Go.Proofs.YtfmghbennahlfaaGreat
