/-
  
-/
import Derived.Test.YtpolbbdaippclaaGreatNsAq
import Derived.Test.YtpolbbdaippclaaGreatNsAr
import Derived.OneCell
namespace Go.Proofs.YtpolbbdaippclaaGreat
open Go.RowKit Go.ChangeShapes Go.WideShapes Go.ChangeAt Go.Maps Go.Shelf
set_option linter.unusedVariables false
set_option linter.unusedSimpArgs false
set_option maxRecDepth 100000
def stcells (l : List St) : List Value := l.flatMap St.cells
theorem stcells_len (l : List St) : (stcells l).length = l.length * 3 := by
 induction l with
 | nil => rfl
 | cons x t ih =>
   unfold stcells at ih ⊢
   rw [List.flatMap_cons, List.length_append, ih]
   simp [St.cells]; omega
theorem stcells_get (l : List St) (i j : Nat) (hi : i < l.length) (hj : j < 3) : (stcells l)[i * 3 + j]? = (l.getD i St.no).cells[j]? := by
 induction l generalizing i with
 | nil => cases hi
 | cons x t ih =>
   unfold stcells
   rw [List.flatMap_cons]
   rcases i with _ | i
   · rw [List.getElem?_append_left (by simp [St.cells]; omega)]
     simp
   · rw [List.getElem?_append_right (by simp [St.cells]; omega)]
     have e : (i + 1) * 3 + j - x.cells.length = i * 3 + j := by simp [St.cells]; omega
     rw [e]
     have := ih i (by simpa using hi)
     unfold stcells at this
     rw [this]
     simp [List.getD]
theorem ncells_lenC (l : List Nd) : (ncells l).length = l.length * 6 := by
 induction l with
 | nil => rfl
 | cons x t ih =>
   unfold ncells at ih ⊢
   rw [List.flatMap_cons, List.length_append, ih]
   simp [Nd.cells]; omega
theorem info_st : ∃ i : TypeInfo, Tryz.prog.info? 47 = some i ∧ i.zero = some St.no.val ∧ i.size = 3 ∧ i.bytes = 24 := by
 have h : (Tryz.prog.info? 47).map (fun i => (i.zero, i.size, i.bytes)) = some (some St.no.val, 3, 24) := by kernel_rfl
 cases hi : Tryz.prog.info? 47 with
 | none => rw [hi] at h; cases h
 | some i => rw [hi] at h; simp at h; exact ⟨i, rfl, h.1, h.2.1, h.2.2⟩
theorem st_one (x : St) : ∀ u ∈ x.cells, u.oneCell' = true := fun u hu => by
 simp only [St.cells, List.mem_cons, List.mem_nil_iff, or_false] at hu
 rcases hu with rfl | rfl | rfl <;> rfl
theorem stcells_one (l : List St) : ∀ u ∈ stcells l, u.oneCell' = true := fun u hu => by
 unfold stcells at hu
 rw [List.mem_flatMap] at hu
 obtain ⟨x, _, hx⟩ := hu
 exact st_one x u hx
theorem ncells_one (l : List Nd) : ∀ u ∈ ncells l, u.oneCell' = true := fun u hu => by
 unfold ncells at hu
 rw [List.mem_flatMap] at hu
 obtain ⟨x, _, hx⟩ := hu
 exact nd_one x u hx
theorem ss_news {w : World} {b off : Nat} {l : List St} (h : IsSs w (some ⟨b, off, none⟩) l) : ∀ j u, (stcells l)[j]? = some u → w.cell? ((⟨b, off, none⟩ : Addr).add j) = some u := fun j u hu => by
 have hj : j < l.length * 3 := by rw [← stcells_len]; exact (List.getElem?_eq_some_iff.1 hu).1
 have e : (⟨b, off, none⟩ : Addr).add j = ⟨b, off + j, none⟩ := by unfold Addr.add; split <;> simp_all
 have hd : j / 3 * 3 + j % 3 = j := by omega
 have hi : j / 3 < l.length := by omega
 obtain ⟨k0, k1, k2⟩ := h.at hi
 rw [e]
 rw [← hd, stcells_get l (j / 3) (j % 3) hi (by omega)] at hu
 have hm : j % 3 = 0 ∨ j % 3 = 1 ∨ j % 3 = 2 := by omega
 rcases hm with hm | hm | hm <;> rw [hm] at hu hd
 · have : u = .int .u32 (l.getD (j / 3) St.no).fid := by simpa [St.cells] using hu.symm
   rw [this, ← k0]; congr 2; omega
 · have : u = .int .u64 (l.getD (j / 3) St.no).ver := by simpa [St.cells] using hu.symm
   rw [this, ← k1]; congr 2; omega
 · have : u = .int .u8 (l.getD (j / 3) St.no).wr := by simpa [St.cells] using hu.symm
   rw [this, ← k2]; congr 2; omega
theorem ns_news {w : World} {b off : Nat} {l : List Nd} (h : IsNs w (some ⟨b, off, none⟩) l) : ∀ j u, (ncells l)[j]? = some u → w.cell? ((⟨b, off, none⟩ : Addr).add j) = some u := fun j u hu => by
 have hj : j < l.length * 6 := by rw [← ncells_lenC]; exact (List.getElem?_eq_some_iff.1 hu).1
 have e : (⟨b, off, none⟩ : Addr).add j = ⟨b, off + j, none⟩ := by unfold Addr.add; split <;> simp_all
 have hd : j / 6 * 6 + j % 6 = j := by omega
 have hi : j / 6 < l.length := by omega
 obtain ⟨k0, k1, k2, k3, k4, k5⟩ := (h.at hi).all
 rw [e]
 rw [← hd, ncells_get l (j / 6) (j % 6) hi (by omega)] at hu
 have hm : j % 6 = 0 ∨ j % 6 = 1 ∨ j % 6 = 2 ∨ j % 6 = 3 ∨ j % 6 = 4 ∨ j % 6 = 5 := by omega
 have hx : ∀ (o : Nat) v, (l.getD (j / 6) Nd.no).cells[j % 6]? = some v → w.cell? ⟨b, off + j / 6 * 6 + o, none⟩ = some v → o = j % 6 → w.cell? ⟨b, off + j, none⟩ = some u := fun o v h1 h2 h3 => by
   rw [h1] at hu
   cases hu
   rw [← h2]; congr 2; omega
 rcases hm with hm | hm | hm | hm | hm | hm
 · exact hx 0 _ (by rw [hm]; rfl) (by rw [Nat.add_zero]; exact k0) hm.symm
 · exact hx 1 _ (by rw [hm]; rfl) k1 hm.symm
 · exact hx 2 _ (by rw [hm]; rfl) k2 hm.symm
 · exact hx 3 _ (by rw [hm]; rfl) k3 hm.symm
 · exact hx 4 _ (by rw [hm]; rfl) k4 hm.symm
 · exact hx 5 _ (by rw [hm]; rfl) k5 hm.symm
theorem wpList_cpNd (w : World) {ops : Array Oper} {rest : List Oper} {o : Oper} {a : Act} {Q : Exit → Act → World → Prop} (hgd : o.guard = none) (s x : Operand)
   (ho : o.op = .call { callee := .builtin .append, args := #[s, x], argTypes := #[41, 41] }) (g : Nat) (hs : a.eval s = .slice (some ⟨g, 0, none⟩) 0 0) (hg0 : w.heap[g]? = some (.cells #[] 52 (0, 0)))
   (ad : Addr) (m c : Nat) (l : List Nd) (hx : a.eval x = .slice (some ad) m c) (hb : IsNs w (some ad) l) (hl : m = l.length) (h63 : m ≤ 100000)
   (h : ∀ v' w', w'.ownsRow g 52 6 v' l.length (ncells l) → w.grownBy w' (some g) → wpList Tryz.prog ops Q rest (a.put o.dst v') w') : wpList Tryz.prog ops Q (o :: rest) a w := by
 obtain ⟨i0, hi, hz0, hz1, hz2⟩ := info_nd
 have hown : w.ownsRow g 52 6 (.slice (some ⟨g, 0, none⟩) 0 0) 0 [] := own_empty_at hg0 (Nat.le_refl _)
 have hgs := lt_blkR hg0
 by_cases hm : l.length = 0
 · have hz : l = [] := List.eq_nil_of_length_eq_zero hm
   subst hz
   subst hl
   refine wpList_append_own w hgd s x 41 ho g 52 i0 Nd.no.val 6 64 Tryz.underlying41 hi hz0 hz1 hz2 (by rfl) (by decide) _ 0 [] hs hown ad 0 c [] hx rfl (fun j u hu => by simp at hu) (fun u hu => by cases hu) (by unfold maxLen; omega) (by omega) (by omega) ?_
   intro v' w' h1 h2 h3
   exact h v' w' h1 h2
 · obtain ⟨b, off, e, _⟩ := hb.2.2 (by omega)
   cases e
   subst hl
   refine wpList_append_own w hgd s x 41 ho g 52 i0 Nd.no.val 6 64 Tryz.underlying41 hi hz0 hz1 hz2 (by rfl) (by decide) _ 0 [] hs hown ⟨b, off, none⟩ l.length c (ncells l) hx (by rw [ncells_lenC]) (ns_news hb) (ncells_one l) (by unfold maxLen; omega) (by omega) (by omega) ?_
   intro v' w' h1 h2 h3
   exact h v' w' (by simpa using h1) h2
set_option maxHeartbeats 1000000 in
theorem cloneNd_c (ad : Addr) (c : Nat) (l : List Nd) (w : World) (h : IsNs w (some ad) l) (hm : l.length ≤ 1000) :
   Calls Tryz.prog 45 #[.slice (some ad) l.length c] w fun e w' => ∃ v, e = .returned v ∧ w'.ownsRow w.heap.size 52 6 v l.length (ncells l) ∧ Below w.heap.size w w' := by
 have H := hid h
 obtain ⟨n, hn⟩ : ∃ n, n = l.length := ⟨_, rfl⟩
 have HN := hid hn
 rw [← hn] at hm ⊢
 clear h hn
 have hq : ∀ w, (binOp .eql 41 (.slice (some ad) n c) (.slice none 0 0)).run Tryz.prog w = .ok (.bool false) w := fun w => Lib.run_eql_slice_nil w _ _ _ _ _ _ _ Tryz.underlying41
 go_enter Tryz.func45, Tryz.ntmps45
 go_wp2_with (at_builtin; refine wpList_cpNd _ rfl _ _ rfl w.heap.size rfl (heap_alloc_new w _) ad n c l rfl (H.out.later (below_1 _ _)) HN.out (by omega) ?_; intro v3 w3 hO3 hg3)
 go_ret
 exact ⟨_, rfl, by rw [HN.out]; exact hO3, (below_1 w _).grown hg3 (below_1 w _).size (fun k hk => by cases hk; exact Nat.le_refl _)⟩
theorem wpList_cpSt (w : World) {ops : Array Oper} {rest : List Oper} {o : Oper} {a : Act} {Q : Exit → Act → World → Prop} (hgd : o.guard = none) (s x : Operand)
   (ho : o.op = .call { callee := .builtin .append, args := #[s, x], argTypes := #[42, 42] }) (g : Nat) (hs : a.eval s = .slice (some ⟨g, 0, none⟩) 0 0) (hg0 : w.heap[g]? = some (.cells #[] 47 (0, 0)))
   (ad : Addr) (m c : Nat) (l : List St) (hx : a.eval x = .slice (some ad) m c) (hb : IsSs w (some ad) l) (hl : m = l.length) (h63 : m ≤ 100000)
   (h : ∀ v' w', w'.ownsRow g 47 3 v' l.length (stcells l) → w.grownBy w' (some g) → wpList Tryz.prog ops Q rest (a.put o.dst v') w') : wpList Tryz.prog ops Q (o :: rest) a w := by
 obtain ⟨i0, hi, hz0, hz1, hz2⟩ := info_st
 have hown : w.ownsRow g 47 3 (.slice (some ⟨g, 0, none⟩) 0 0) 0 [] := own_empty_at hg0 (Nat.le_refl _)
 have hgs := lt_blkR hg0
 by_cases hm : l.length = 0
 · have hz : l = [] := List.eq_nil_of_length_eq_zero hm
   subst hz
   subst hl
   refine wpList_append_own w hgd s x 42 ho g 47 i0 St.no.val 3 24 Tryz.underlying42 hi hz0 hz1 hz2 (by rfl) (by decide) _ 0 [] hs hown ad 0 c [] hx rfl (fun j u hu => by simp at hu) (fun u hu => by cases hu) (by unfold maxLen; omega) (by omega) (by omega) ?_
   intro v' w' h1 h2 h3
   exact h v' w' h1 h2
 · obtain ⟨b, off, e, _⟩ := hb.2.2 (by omega)
   cases e
   subst hl
   refine wpList_append_own w hgd s x 42 ho g 47 i0 St.no.val 3 24 Tryz.underlying42 hi hz0 hz1 hz2 (by rfl) (by decide) _ 0 [] hs hown ⟨b, off, none⟩ l.length c (stcells l) hx (by rw [stcells_len]) (ss_news hb) (stcells_one l) (by unfold maxLen; omega) (by omega) (by omega) ?_
   intro v' w' h1 h2 h3
   exact h v' w' (by simpa using h1) h2
set_option maxHeartbeats 1000000 in
theorem cloneSt_c (ad : Addr) (c : Nat) (l : List St) (w : World) (h : IsSs w (some ad) l) (hm : l.length ≤ 1000) :
   Calls Tryz.prog 48 #[.slice (some ad) l.length c] w fun e w' => ∃ v, e = .returned v ∧ w'.ownsRow w.heap.size 47 3 v l.length (stcells l) ∧ Below w.heap.size w w' := by
 have H := hid h
 obtain ⟨n, hn⟩ : ∃ n, n = l.length := ⟨_, rfl⟩
 have HN := hid hn
 rw [← hn] at hm ⊢
 clear h hn
 have hq : ∀ w, (binOp .eql 42 (.slice (some ad) n c) (.slice none 0 0)).run Tryz.prog w = .ok (.bool false) w := fun w => Lib.run_eql_slice_nil w _ _ _ _ _ _ _ Tryz.underlying42
 go_enter Tryz.func48, Tryz.ntmps48
 go_wp2_with (at_builtin; refine wpList_cpSt _ rfl _ _ rfl w.heap.size rfl (heap_alloc_new w _) ad n c l rfl (H.out.later (below_1 _ _)) HN.out (by omega) ?_; intro v3 w3 hO3 hg3)
 go_ret
 exact ⟨_, rfl, by rw [HN.out]; exact hO3, (below_1 w _).grown hg3 (below_1 w _).size (fun k hk => by cases hk; exact Nat.le_refl _)⟩
theorem plI_er (l : List Nd) (f : Int) : plI (l.map Nd.er) f = plI l f := by
 have h : (l.map Nd.er).findIdx? (fun x => x.fid == f) = l.findIdx? (fun x => x.fid == f) := by
   rw [List.findIdx?_map]
   congr 1
 unfold plI
 rw [h]
theorem plI_at (l : List Nd) (f : Int) : plI l f = -1 ∨ ∃ i : Nat, i < l.length ∧ plI l f = i := by
 unfold plI
 cases h : l.findIdx? (fun x => x.fid == f) with
 | none => exact .inl rfl
 | some i => exact .inr ⟨i, (List.findIdx?_eq_some_iff_getElem.1 h).1, rfl⟩
def stOfN (l : List Nd) (ss : List St) (f : Int) : St := if plI l f < 0 then St.no else ss.getD (plI l f).toNat St.no
def stampsL (l : List Nd) (ss : List St) (L : List Nd) : List St := L.map fun x => stOfN l ss x.fid
theorem stampsL_len (l : List Nd) (ss : List St) (L : List Nd) : (stampsL l ss L).length = L.length := by simp [stampsL]
theorem stampsL_at (l : List Nd) (ss : List St) (L : List Nd) {i : Nat} (hi : i < L.length) : (stampsL l ss L).getD i St.no = stOfN l ss (L.getD i Nd.no).fid := by
 simp [stampsL, List.getD, List.getElem?_eq_getElem hi]
theorem stampsL_er (l : List Nd) (ss : List St) (L : List Nd) : stampsL (l.map Nd.er) ss (L.map Nd.er) = stampsL l ss L := by
 unfold stampsL
 rw [List.map_map]
 refine List.map_congr_left fun x _ => ?_
 show stOfN (l.map Nd.er) ss x.fid = _
 unfold stOfN
 rw [plI_er]
theorem no_stwf : St.no.Wf := ⟨⟨by decide, by decide⟩, ⟨by decide, by decide⟩, by decide, by decide⟩
theorem stOfN_wf {l : List Nd} {ss : List St} (h : ∀ s ∈ ss, s.Wf) (f : Int) : (stOfN l ss f).Wf := by
 unfold stOfN
 by_cases q : plI l f < 0
 · rw [if_pos q]; exact no_stwf
 · rw [if_neg q]
   by_cases hi : (plI l f).toNat < ss.length
   · exact h _ (getD_mem ss St.no hi)
   · rw [List.getD, List.getElem?_eq_none (by omega)]; exact no_stwf
theorem stampsL_wf {l : List Nd} {ss : List St} (h : ∀ s ∈ ss, s.Wf) (L : List Nd) : ∀ s ∈ stampsL l ss L, s.Wf := fun s hs => by
 unfold stampsL at hs
 obtain ⟨x, _, rfl⟩ := List.mem_map.1 hs
 exact stOfN_wf h _
def stampsS (l : List Nd) (ss : List St) (L : List Nd) (f ver c : Int) : List St := (stampsL l ss L).set (plI L f).toNat ⟨f, ver, c⟩
theorem stampsS_len (l : List Nd) (ss : List St) (L : List Nd) (f ver c : Int) : (stampsS l ss L f ver c).length = L.length := by simp [stampsS, stampsL]
theorem stampsS_wf {l : List Nd} {ss : List St} (h : ∀ s ∈ ss, s.Wf) (L : List Nd) {f ver c : Int} (hw : (⟨f, ver, c⟩ : St).Wf) : ∀ s ∈ stampsS l ss L f ver c, s.Wf := fun s hs => by
 rcases List.mem_or_eq_of_mem_set hs with hs | rfl
 · exact stampsL_wf h L s hs
 · exact hw
theorem stampsS_er (l : List Nd) (ss : List St) (L : List Nd) (f ver c : Int) : stampsS (l.map Nd.er) ss (L.map Nd.er) f ver c = stampsS l ss L f ver c := by
 unfold stampsS
 rw [stampsL_er, plI_er]
theorem stcells_set (l : List St) (i : Nat) (hi : i < l.length) (x : St) : stcells (l.set i x) = (((stcells l).set (i * 3) (.int .u32 x.fid)).set (i * 3 + 1) (.int .u64 x.ver)).set (i * 3 + 2) (.int .u8 x.wr) := by
 refine List.ext_getElem? fun k => ?_
 have hlen : (stcells l).length = l.length * 3 := stcells_len l
 have hlen2 : (stcells (l.set i x)).length = l.length * 3 := by rw [stcells_len]; simp
 by_cases hk : k < l.length * 3
 · have hd : k / 3 * 3 + k % 3 = k := by omega
   have e1 := stcells_get (l.set i x) (k / 3) (k % 3) (by simp; omega) (by omega)
   have e2 := stcells_get l (k / 3) (k % 3) (by omega) (by omega)
   rw [hd] at e1 e2
   rw [e1]
   simp only [List.getElem?_set, List.length_set, hlen]
   by_cases q : k / 3 = i
   · have e3 : (l.set i x).getD (k / 3) St.no = x := by rw [q]; simp [List.getD, hi]
     rw [e3]
     have hm : k % 3 = 0 ∨ k % 3 = 1 ∨ k % 3 = 2 := by omega
     rcases hm with hm | hm | hm
     · rw [hm, if_neg (by omega), if_neg (by omega), if_pos (by omega), if_pos (by omega)]; rfl
     · rw [hm, if_neg (by omega), if_pos (by omega), if_pos (by omega)]; rfl
     · rw [hm, if_pos (by omega), if_pos (by omega)]; rfl
   · have e3 : (l.set i x).getD (k / 3) St.no = l.getD (k / 3) St.no := by
       simp only [List.getD, List.getElem?_set]
       rw [if_neg (by omega)]
     rw [e3, if_neg (by omega), if_neg (by omega), if_neg (by omega), e2]
 · rw [List.getElem?_eq_none (by omega), List.getElem?_eq_none (by simp [hlen]; omega)]
theorem own_put {w : World} {base e size g n cap : Nat} {xs : List Value} (h : w.ownsRow base e size (.slice (some ⟨g, 0, none⟩) n cap) n xs) (k : Nat) (hk : k < n * size) (u : Value) : (w.setCell ⟨g, k, none⟩ u).ownsRow base e size (.slice (some ⟨g, 0, none⟩) n cap) n (xs.set k u) := by
 refine ⟨by rw [List.length_set]; exact h.1, ?_⟩
 rcases h.2 with ⟨e1, _⟩ | ⟨g', cap', cur, e1, hb, hg, hn, hc, hs, ht⟩
 · cases e1
 · cases e1
   refine .inr ⟨g, cap, cur.setIfInBounds k u, rfl, hb, heap_setCell_same w g k cur e u hg, hn, hc, by simpa using hs, ?_⟩
   rw [Array.toList_setIfInBounds, List.take_set, ht]
theorem own_setQ {w : World} {base e size n : Nat} {v : Value} {xs : List Value} {q : Addr} {cs : Array Value} {e' : TypeId} {fr : Nat × Nat} (h : w.ownsRow base e size v n xs) (hq : w.heap[q.block]? = some (.cells cs e' fr)) (hne : e ≠ e') (u : Value) : (w.setCell q u).ownsRow base e size v n xs := by
 refine ownsRow_setCell_other h ?_ u
 rcases h.2 with ⟨e1, _⟩ | ⟨g, cap, cur, e1, _, hg, _⟩
 · rw [e1]; intro q; cases q
 · rw [e1]
   intro q2
   have q3 : g = q.block := by cases q2; rfl
   rw [q3, hq] at hg
   cases hg
   exact hne rfl
theorem own_of {w : World} {base e size m g n cap : Nat} {xs : List Value} (h : w.ownsRow base e size (.slice (some ⟨g, 0, none⟩) n cap) m xs) : base ≤ g ∧ m = n ∧ n ≤ cap ∧ ∃ cur : Array Value, w.heap[g]? = some (.cells cur e (0, 0)) ∧ cur.size = cap * size ∧ ∀ (k : Nat) (u : Value), xs[k]? = some u → cur[k]? = some u := by
 rcases h.2 with ⟨e1, _⟩ | ⟨g', cap', cur, e1, hb, hg, hn, hc, hs, ht⟩
 · cases e1
 · simp only [Value.slice.injEq, Option.some.injEq, Addr.mk.injEq] at e1
   obtain ⟨⟨rfl, _⟩, rfl, rfl⟩ := e1
   refine ⟨hb, rfl, hn, cur, hg, hs, fun k u hk => ?_⟩
   rw [← ht, List.getElem?_take] at hk
   split at hk
   · rw [← Array.getElem?_toList]; exact hk
   · cases hk
theorem blk_ne {w : World} {b g : Nat} {cs cs' : Array Value} {t t' : TypeId} {fr fr' : Nat × Nat} (h : w.heap[b]? = some (.cells cs t fr)) (h' : w.heap[g]? = some (.cells cs' t' fr')) (hne : t ≠ t') : b ≠ g := by
 rintro rfl
 rw [h] at h'
 cases h'
 exact hne rfl
theorem own_block {w : World} {base e size n : Nat} {v : Value} {xs : List Value} (h : w.ownsRow base e size v n xs) (hn : 0 < n) : ∃ g cap cur, v = .slice (some ⟨g, 0, none⟩) n cap ∧ base ≤ g ∧ n ≤ cap ∧ w.heap[g]? = some (.cells cur e (0, 0)) ∧ ∀ (k : Nat) (u : Value), xs[k]? = some u → cur[k]? = some u := by
 rcases h.2 with ⟨_, e2⟩ | ⟨g, cap, cur, e1, hb, hg, hn2, hc, hs, ht⟩
 · omega
 · refine ⟨g, cap, cur, e1, hb, hn2, hg, fun k u hk => ?_⟩
   rw [← ht] at hk
   rw [List.getElem?_take] at hk
   split at hk
   · rw [← Array.getElem?_toList]; exact hk
   · cases hk
theorem ncells_set (l : List Nd) (i : Nat) (hi : i < l.length) (y : Nd) (h0 : y.fid = (l.getD i Nd.no).fid) (h1 : y.k = (l.getD i Nd.no).k) (h2 : y.md = (l.getD i Nd.no).md) (h3 : y.ln = (l.getD i Nd.no).ln) :
   ncells (l.set i y) = ((ncells l).set (i * 6 + 4) (.slice y.da y.zs.length y.dc)).set (i * 6 + 5) (.slice y.ka y.ks.length y.kc) := by
 refine List.ext_getElem? fun k => ?_
 have hlen : (ncells l).length = l.length * 6 := ncells_lenC l
 have hlen2 : (ncells (l.set i y)).length = l.length * 6 := by rw [ncells_lenC]; simp
 by_cases hk : k < l.length * 6
 · have hd : k / 6 * 6 + k % 6 = k := by omega
   have e1 := ncells_get (l.set i y) (k / 6) (k % 6) (by simp; omega) (by omega)
   have e2 := ncells_get l (k / 6) (k % 6) (by omega) (by omega)
   rw [hd] at e1 e2
   rw [e1]
   simp only [List.getElem?_set, List.length_set, hlen]
   by_cases q : k / 6 = i
   · have e3 : (l.set i y).getD (k / 6) Nd.no = y := by rw [q]; simp [List.getD, hi]
     rw [e3]
     rw [q] at e2
     have hm : k % 6 = 0 ∨ k % 6 = 1 ∨ k % 6 = 2 ∨ k % 6 = 3 ∨ k % 6 = 4 ∨ k % 6 = 5 := by omega
     rcases hm with hm | hm | hm | hm | hm | hm
     · rw [if_neg (by omega), if_neg (by omega), e2, hm]
       show some _ = some _
       rw [h0]
     · rw [if_neg (by omega), if_neg (by omega), e2, hm]
       show some _ = some _
       rw [h1]
     · rw [if_neg (by omega), if_neg (by omega), e2, hm]
       show some _ = some _
       rw [h2]
     · rw [if_neg (by omega), if_neg (by omega), e2, hm]
       show some _ = some _
       rw [h3]
     · rw [hm, if_neg (by omega), if_pos (by omega), if_pos (by omega)]; rfl
     · rw [hm, if_pos (by omega), if_pos (by omega)]; rfl
   · have e3 : (l.set i y).getD (k / 6) Nd.no = l.getD (k / 6) Nd.no := by
       simp only [List.getD, List.getElem?_set]
       rw [if_neg (by omega)]
     rw [e3, if_neg (by omega), if_neg (by omega), e2]
 · rw [List.getElem?_eq_none (by omega), List.getElem?_eq_none (by simp [hlen]; omega)]
theorem OwN.put {w : World} {base g cap : Nat} {L : List Nd} (h : OwN w base (.slice (some ⟨g, 0, none⟩) L.length cap) L) (i : Nat) (hi : i < L.length) (y : Nd) (h0 : y.fid = (L.getD i Nd.no).fid) (h1 : y.k = (L.getD i Nd.no).k) (h2 : y.md = (L.getD i Nd.no).md) (h3 : y.ln = (L.getD i Nd.no).ln) :
   OwN ((w.setCell ⟨g, i * 6 + 4, none⟩ (.slice y.da y.zs.length y.dc)).setCell ⟨g, i * 6 + 5, none⟩ (.slice y.ka y.ks.length y.kc)) base (.slice (some ⟨g, 0, none⟩) L.length cap) (L.set i y) := by
 have := own_put (own_put h (i * 6 + 4) (by omega) (.slice y.da y.zs.length y.dc)) (i * 6 + 5) (by omega) (.slice y.ka y.ks.length y.kc)
 unfold OwN
 rw [List.length_set, ncells_set L i hi y h0 h1 h2 h3]
 exact this
theorem map_set_er (L : List Nd) (i : Nat) (hi : i < L.length) (y : Nd) (h : y.er = (L.getD i Nd.no).er) : (L.set i y).map Nd.er = L.map Nd.er := by
 rw [List.map_set, h]
 refine List.ext_getElem? fun k => ?_
 rw [List.getElem?_set]
 by_cases q : i = k
 · subst q
   simp [hi, List.getD]
 · rw [if_neg q]
def OwT (w : World) (base : Nat) (v : Value) (l : List St) : Prop := w.ownsRow base 47 3 v l.length (stcells l)
theorem OwT.later {w w' : World} {base : Nat} {v : Value} {l : List St} (h : OwT w base v l) (hb : Below w.heap.size w w') : OwT w' base v l := own_latR h hb
theorem OwT.is {w : World} {base : Nat} {v : Value} {l : List St} (h : OwT w base v l) (hw : ∀ s ∈ l, s.Wf) (hn : 0 < l.length) (hm : l.length ≤ 100000) : ∃ g cap, v = .slice (some ⟨g, 0, none⟩) l.length cap ∧ base ≤ g ∧ IsSs w (some ⟨g, 0, none⟩) l := by
 obtain ⟨g, cap, cur, e, hb, _, hg, hc⟩ := own_block h hn
 refine ⟨g, cap, e, hb, by unfold maxLen; omega, hw, fun _ => ⟨g, 0, rfl, fun i hi => ?_⟩⟩
 have hx : ∀ j v, (l.getD i St.no).cells[j]? = some v → w.cell? ⟨g, 0 + i * 3 + j, none⟩ = some v := fun j v hv => by
   have hj : j < 3 := by
     have := (List.getElem?_eq_some_iff.1 hv).1
     simpa [St.cells] using this
   rw [Nat.zero_add, cell_of_row w g _ _ _ _ hg]
   exact hc _ _ (by rw [stcells_get l i j hi hj]; exact hv)
 exact ⟨hx 0 _ rfl, hx 1 _ rfl, hx 2 _ rfl⟩
theorem OwN.trN {w : World} {base : Nat} {v : Value} {L : List Nd} (h : OwN w base v L) (hr : ∀ x ∈ L, NdR w base x) (hn : 0 < L.length) (hm : L.length ≤ 100000) : ∃ g cap, v = .slice (some ⟨g, 0, none⟩) L.length cap ∧ base ≤ g ∧ Tr w (some ⟨g, 0, none⟩) L := by
 obtain ⟨g, cap, cur, e, hb, _, hg, hc⟩ := own_block h hn
 obtain ⟨a, c, e2, h2⟩ := Tr.of h (fun x hx => (hr x hx).p) hm
 rw [e] at e2
 cases e2
 exact ⟨g, cap, e, hb, h2⟩
end Go.Proofs.YtpolbbdaippclaaGreat
