/-
  
-/
import Derived.Test.YtfmghbennahlfaaGreatCnAo
namespace Go.Proofs.YtfmghbennahlfaaGreat
open Go.RowKit Go.ChangeShapes Go.WideShapes Go.ChangeAt Go.Maps Go.Shelf
set_option linter.unusedVariables false
set_option linter.unusedSimpArgs false
set_option maxRecDepth 100000
theorem pl_has (l : List Nd) (f : Int) : ∀ m, (plTo l m f).isSome = hasTo l f m
 | 0 => rfl
 | m + 1 => by
   have e : plTo l (m + 1) f = updF (plTo l m) (l.getD m Nd.no).fid (some m) f := rfl
   rw [e, hasTo, ← pl_has l f m]
   unfold updF
   split
   · rename_i h; rw [h]; simp
   · rename_i h
     have : ((l.getD m Nd.no).fid == f) = false := beq_eq_false_iff_ne.2 (fun q => h q.symm)
     rw [this]; simp
theorem N0_has (l : List Nd) (f : Int) : (N0 l f).isSome = hasF l f := by
 unfold N0 ndF hasF
 rw [Option.isSome_map, pl_has]
theorem up_mono {l : List Nd} {m : Nat} (h : upTo l m = true) : ∀ j i, i < j → j < m → (l.getD i Nd.no).fid < (l.getD j Nd.no).fid
 | 0, i, hi, _ => by omega
 | j + 1, i, hi, hj => by
   have h1 := upTo_pos h (j + 1) hj
   rw [lastFd_next] at h1
   by_cases e : i = j
   · subst e; exact h1
   · have := up_mono h j i (by omega) (by omega)
     omega
theorem up_inj {l : List Nd} (h : upTo l l.length = true) {i j : Nat} (hi : i < l.length) (hj : j < l.length) (e : (l.getD i Nd.no).fid = (l.getD j Nd.no).fid) : i = j := by
 rcases Nat.lt_trichotomy i j with q | q | q
 · have := up_mono h j i q hj; omega
 · exact q
 · have := up_mono h i j q hi; omega
theorem N0_at {l : List Nd} (h : upTo l l.length = true) {i : Nat} (hi : i < l.length) : ∃ p, N0 l (l.getD i Nd.no).fid = some (p, l.getD i Nd.no) := by
 have h1 : (plTo l l.length (l.getD i Nd.no).fid).isSome = true := by rw [pl_has]; exact hasF_yes hi (by simp)
 cases hq : plTo l l.length (l.getD i Nd.no).fid with
 | none => rw [hq] at h1; cases h1
 | some j =>
   obtain ⟨lj, ej⟩ := plTo_lt l _ hq
   obtain rfl := up_inj h lj hi ej
   unfold N0 ndF
   rw [hq]
   exact ⟨_, rfl⟩
theorem N0_of {l : List Nd} {f : Int} {p : Addr} {x : Nd} (h : N0 l f = some (p, x)) : ∃ i, i < l.length ∧ l.getD i Nd.no = x ∧ x.fid = f := by
 unfold N0 ndF at h
 cases hq : plTo l l.length f with
 | none => rw [hq] at h; cases h
 | some j =>
   rw [hq] at h
   cases h
   obtain ⟨lj, ej⟩ := plTo_lt l _ hq
   exact ⟨j, lj, rfl, ej⟩
def HasK (x : Nd) (g : Int) : Prop := ∃ i, i < x.ks.length ∧ (x.ks.getD i Kd.no).fid = g
theorem edge_iff {l : List Nd} (h : upTo l l.length = true) (f g : Int) : Edge (N0 l) f g ↔ ∃ i, i < l.length ∧ (l.getD i Nd.no).fid = f ∧ HasK (l.getD i Nd.no) g ∧ isDirT (N0 l) g = true := by
 constructor
 · rintro ⟨p, x, i, h1, h2, h3, h4⟩
   obtain ⟨j, lj, rfl, ej⟩ := N0_of h1
   exact ⟨j, lj, ej, ⟨i, h2, h3⟩, h4⟩
 · rintro ⟨j, lj, rfl, ⟨i, h2, h3⟩, h4⟩
   obtain ⟨p, hp⟩ := N0_at h lj
   exact ⟨p, _, i, hp, h2, h3, h4⟩
theorem upM_ne (x : Nd) (g acc : Int) : ∀ m, upM x g acc m ≠ acc → upM x g acc m = x.fid ∧ ∃ i, i < m ∧ (x.ks.getD i Kd.no).fid = g
 | 0, h => absurd rfl h
 | m + 1, h => by
   unfold upM at h ⊢
   cases q : ((x.ks.getD m Kd.no).fid == g) with
   | true => exact ⟨rfl, m, by omega, by simpa using q⟩
   | false =>
     rw [q] at h
     obtain ⟨h1, i, hi, e⟩ := upM_ne x g acc m h
     exact ⟨h1, i, by omega, e⟩
theorem upM_or (x : Nd) (g acc : Int) : ∀ m, upM x g acc m = acc ∨ upM x g acc m = x.fid
 | 0 => .inl rfl
 | m + 1 => by
   unfold upM
   cases q : ((x.ks.getD m Kd.no).fid == g) with
   | true => exact .inr rfl
   | false => exact upM_or x g acc m
theorem upM_in (x : Nd) (g acc : Int) : ∀ m i, i < m → (x.ks.getD i Kd.no).fid = g → upM x g acc m = x.fid
 | 0, i, hi, _ => by omega
 | m + 1, i, hi, e => by
   unfold upM
   cases q : ((x.ks.getD m Kd.no).fid == g) with
   | true => rfl
   | false =>
     have hne : i ≠ m := fun h => by
       rw [h] at e
       have := beq_eq_false_iff_ne.1 q
       exact this e
     exact upM_in x g acc m i (by omega) e
theorem upK_ne (l : List Nd) (g : Int) : ∀ m, upK l g m ≠ 0 → ∃ i, i < m ∧ (l.getD i Nd.no).fid = upK l g m ∧ HasK (l.getD i Nd.no) g
 | 0, h => absurd rfl h
 | m + 1, h => by
   unfold upK at h ⊢
   by_cases q : upM (l.getD m Nd.no) g (upK l g m) (l.getD m Nd.no).ks.length = upK l g m
   · rw [q] at h ⊢
     obtain ⟨i, hi, e, hk⟩ := upK_ne l g m h
     exact ⟨i, by omega, e, hk⟩
   · obtain ⟨h1, i, hi, e⟩ := upM_ne _ _ _ _ q
     exact ⟨m, by omega, h1.symm, i, hi, e⟩
theorem upK_has {l : List Nd} {g : Int} : ∀ {m : Nat}, (∀ i, i < m → (l.getD i Nd.no).fid ≠ 0) → ∀ i, i < m → HasK (l.getD i Nd.no) g → upK l g m ≠ 0
 | 0, _, i, hi, _ => by omega
 | m + 1, hp, i, hi, hk => by
   unfold upK
   by_cases e : i = m
   · subst e
     obtain ⟨j, hj, ej⟩ := hk
     rw [upM_in _ _ _ _ j hj ej]
     exact hp i (by omega)
   · have ih := upK_has (g := g) (m := m) (fun i hi => hp i (by omega)) i (by omega) hk
     rcases upM_or (l.getD m Nd.no) g (upK l g m) (l.getD m Nd.no).ks.length with q | q
     · rw [q]; exact ih
     · rw [q]; exact hp m (by omega)
def Base (l : List Nd) : Prop := l.length ≤ 40 ∧ fidsUp l = true ∧ isDirT (N0 l) 1 = true ∧ (∀ x ∈ l, aloneB x = true ∧ haveB (N0 l) x.ks = true) ∧ linksB l = true
section
variable {l : List Nd} (B : Base l)
include B
theorem Base.pos : ∀ i, i < l.length → 0 < (l.getD i Nd.no).fid := upTo_pos2 B.2.1
theorem Base.one : OneUp (N0 l) := one_up (a := none) B.2.2.2.2 (fun x hx => (B.2.2.2.1 x hx).2)
theorem Base.ne1 {f g : Int} (h : Edge (N0 l) f g) : g ≠ 1 := by
 obtain ⟨i, hi, _, ⟨j, hj, e⟩, _⟩ := (edge_iff B.2.1 f g).1 h
 have := (haveTo_all (B.2.2.2.1 _ (getD_mem l Nd.no hi)).2 j hj).1
 rw [e] at this
 exact this
theorem Base.upOf {f g : Int} (h : Edge (N0 l) f g) : upD l g = f := by
 obtain ⟨i, hi, e, hk, hd⟩ := (edge_iff B.2.1 f g).1 h
 have hne : upD l g ≠ 0 := upK_has (fun i hi => by have := B.pos i hi; omega) i hi hk
 obtain ⟨j, hj, ej, hkj⟩ := upK_ne l g _ hne
 have : Edge (N0 l) (upD l g) g := (edge_iff B.2.1 _ g).2 ⟨j, hj, ej, hkj, hd⟩
 exact B.one _ _ _ this h
theorem Base.dirUp {f g : Int} (h : Edge (N0 l) f g) : isDirT (N0 l) f = true := by
 obtain ⟨i, hi, rfl, ⟨j, hj, e⟩, _⟩ := (edge_iff B.2.1 f g).1 h
 obtain ⟨p, hp⟩ := N0_at B.2.1 hi
 unfold isDirT
 rw [hp]
 have ha := (B.2.2.2.1 _ (getD_mem l Nd.no hi)).1
 generalize l.getD i Nd.no = x at *
 unfold aloneB at ha
 cases q : (x.k == 1 || x.k == 3) with
 | true =>
   rw [q] at ha
   simp only [cond_true, Bool.and_eq_true, decide_eq_true_eq] at ha
   omega
 | false =>
   rw [q] at ha
   cases q2 : (x.k == 2) with
   | true => exact q2
   | false => rw [q2] at ha; cases ha
theorem Base.hasUp {g : Int} (hd : isDirT (N0 l) g = true) (hne : g ≠ 1) : Edge (N0 l) (upD l g) g := by
 have hd2 := hd
 unfold isDirT at hd
 cases hN : N0 l g with
 | none => rw [hN] at hd; cases hd
 | some q =>
   obtain ⟨p, x⟩ := q
   rw [hN] at hd
   obtain ⟨i, hi, rfl, e⟩ := N0_of hN
   have hb := linksTo_all B.2.2.2.2 i hi
   unfold linkB at hb
   rw [e] at hb
   have hne2 : (g == 1) = false := beq_eq_false_iff_ne.2 hne
   rw [hne2] at hb
   simp only [Bool.false_or, Bool.and_eq_true, Bool.not_eq_true', Bool.or_eq_false_iff, decide_eq_false_iff_not] at hb
   have hc : 0 < (kfs l).count g := by omega
   rw [List.count_pos_iff] at hc
   unfold kfs at hc
   rw [List.mem_flatMap] at hc
   obtain ⟨y, hy, hg⟩ := hc
   rw [List.mem_map] at hg
   obtain ⟨kd, hkd, ek⟩ := hg
   obtain ⟨j, hj, rfl⟩ := List.getElem_of_mem hy
   obtain ⟨t, ht, rfl⟩ := List.getElem_of_mem hkd
   have hk : HasK (l.getD j Nd.no) g := by
     have e1 : l.getD j Nd.no = l[j] := by simp [List.getD, hj]
     rw [e1]
     exact ⟨t, ht, by simpa [List.getD, ht] using ek⟩
   have hE : Edge (N0 l) (l.getD j Nd.no).fid g := (edge_iff B.2.1 _ g).2 ⟨j, hj, rfl, hk, hd2⟩
   rw [B.upOf hE]
   exact hE
end
def upG (l : List Nd) (g : Int) : Option Int := bif isDirT (N0 l) g && g != 1 then some (upD l g) else none
theorem upG_par {l : List Nd} (B : Base l) : IsPar (N0 l) (upG l) := fun f g => by
 unfold upG
 constructor
 · intro h
   cases q : (isDirT (N0 l) g && g != 1) with
   | false => rw [q] at h; cases h
   | true =>
     rw [q] at h
     cases h
     rw [Bool.and_eq_true] at q
     exact B.hasUp q.1 (by simpa using q.2)
 · intro h
   have h1 := B.ne1 h
   have h2 := B.upOf h
   obtain ⟨_, _, _, _, _, _, h3⟩ := h
   rw [h3, h2, show (g != 1) = true by simpa using h1]
   rfl
def dirK (l : List Nd) : List Int := (l.filter fun x => x.k == 2 && x.fid != 1).map (·.fid)
theorem nodup_fids {l : List Nd} (h : upTo l l.length = true) : l.Pairwise (fun x y => x.fid ≠ y.fid) := by
 rw [List.pairwise_iff_getElem]
 intro i j hi hj hij e
 have := up_mono h j i hij hj
 simp [List.getD, hi, hj] at this
 omega
theorem dirK_nodup {l : List Nd} (h : upTo l l.length = true) : (dirK l).Pairwise (· ≠ ·) := by
 unfold dirK
 rw [List.pairwise_map]
 exact (nodup_fids h).filter _
theorem dirK_mem {l : List Nd} (h : upTo l l.length = true) (g : Int) : g ∈ dirK l ↔ (upG l g).isSome = true := by
 unfold dirK upG
 rw [List.mem_map]
 constructor
 · rintro ⟨x, hx, rfl⟩
   rw [List.mem_filter, Bool.and_eq_true] at hx
   obtain ⟨hx, h1, h2⟩ := hx
   obtain ⟨i, hi, rfl⟩ := List.getElem_of_mem hx
   obtain ⟨p, hp⟩ := N0_at h hi
   rw [show l.getD i Nd.no = l[i] by simp [List.getD, hi]] at hp
   unfold isDirT
   rw [hp]
   simp only [h1, h2, Bool.and_self]
   rfl
 · intro hq
   cases q : (isDirT (N0 l) g && g != 1) with
   | false => rw [q] at hq; cases hq
   | true =>
     rw [Bool.and_eq_true] at q
     have hd := q.1
     unfold isDirT at hd
     cases hN : N0 l g with
     | none => rw [hN] at hd; cases hd
     | some r =>
       obtain ⟨p, x⟩ := r
       rw [hN] at hd
       obtain ⟨i, hi, rfl, e⟩ := N0_of hN
       refine ⟨_, List.mem_filter.2 ⟨getD_mem l Nd.no hi, ?_⟩, e⟩
       rw [e]
       simp only [Bool.and_eq_true]
       exact ⟨hd, q.2⟩
theorem dirK_len (l : List Nd) : (dirK l).length ≤ l.length := by
 unfold dirK
 rw [List.length_map]
 exact List.length_filter_le _ _
theorem ring_iff {l : List Nd} (B : Base l) : RingN (N0 l) ↔ ∃ f p, upG l f = some p ∧ leadB (upG l) (dirK l).length f p = true :=
 ring_of (dirK_nodup B.2.1) (dirK_mem B.2.1) rfl (upG_par B)
theorem ab_ring {l : List Nd} (B : Base l) {f p : Int} (hp : upG l f = some p) {n : Nat} (hl : leadB (upG l) n f p = true) : ∀ (k : Nat) (g : Int), (∃ m, leadB (upG l) m f g = true) → abN l 1 k g = false
 | 0, g, _ => rfl
 | k + 1, g, hm => by
   have key : ∃ g', upG l g = some g' ∧ ∃ m, leadB (upG l) m f g' = true := by
     obtain ⟨m, hm⟩ := hm
     by_cases e : g = f
     · subst e; exact ⟨p, hp, n, hl⟩
     · unfold leadB at hm
       have e2 : (g == f) = false := beq_eq_false_iff_ne.2 e
       rw [e2, Bool.false_or] at hm
       cases m with
       | zero => cases hm
       | succ m =>
         unfold upB at hm
         cases hG : upG l g with
         | none => rw [hG] at hm; cases hm
         | some g' => rw [hG] at hm; exact ⟨g', rfl, m, hm⟩
   obtain ⟨g', hg, hm'⟩ := key
   have hE := (upG_par B g' g).1 hg
   have h1 := B.ne1 hE
   have h2 := B.upOf hE
   obtain ⟨i, hi, e, _⟩ := (edge_iff B.2.1 g' g).1 hE
   have h3 := B.pos i hi
   unfold abN
   rw [h2, show (g == 1) = false from beq_eq_false_iff_ne.2 h1, show (g' == 0) = false from beq_eq_false_iff_ne.2 (by omega)]
   exact ab_ring B hp hl k g' hm'
def chain (l : List Nd) (g : Int) : Nat → Int
 | 0 => g
 | n + 1 => upD l (chain l g n)
theorem chain_next (l : List Nd) (g : Int) : ∀ n, chain l (upD l g) n = chain l g (n + 1)
 | 0 => rfl
 | n + 1 => by unfold chain; rw [chain_next l g n]
theorem ab_chain {l : List Nd} (B : Base l) : ∀ (k : Nat) (g : Int), isDirT (N0 l) g = true → abN l 1 k g = false → ∀ i, i < k → isDirT (N0 l) (chain l g i) = true ∧ chain l g i ≠ 1
 | 0, g, _, _, i, hi => by omega
 | k + 1, g, hd, ha, i, hi => by
   have hne : g ≠ 1 := fun e => by
     unfold abN at ha
     rw [e] at ha
     cases ha
   cases i with
   | zero => exact ⟨hd, hne⟩
   | succ i =>
     have hE := B.hasUp hd hne
     obtain ⟨j, hj, e, _⟩ := (edge_iff B.2.1 _ g).1 hE
     have h3 := B.pos j hj
     unfold abN at ha
     rw [show (g == 1) = false from beq_eq_false_iff_ne.2 hne, show (upD l g == 0) = false from beq_eq_false_iff_ne.2 (by omega)] at ha
     have := ab_chain B k (upD l g) (B.dirUp hE) ha i (by omega)
     rw [chain_next] at this
     exact this
theorem pigeon (c : Nat → Int) (ks : List Int) (h : ∀ i, i ≤ ks.length → c i ∈ ks) : ∃ i j, i < j ∧ j ≤ ks.length ∧ c i = c j := by
 by_cases hq : ∃ i j, i < j ∧ j ≤ ks.length ∧ c i = c j
 · exact hq
 · exfalso
   have hp : ((List.range (ks.length + 1)).map c).Pairwise (· ≠ ·) := by
     rw [List.pairwise_map, List.pairwise_iff_getElem]
     intro i j hi hj hij
     simp only [List.getElem_range]
     simp at hj
     exact fun e => hq ⟨i, j, hij, by omega, e⟩
   have := nodup_len hp (b := ks) (fun x hx => by
     obtain ⟨i, hi, rfl⟩ := List.mem_map.1 hx
     exact h i (by have := List.mem_range.1 hi; omega))
   simp at this
   omega
theorem up_chain {l : List Nd} {g top : Int} : ∀ (m i : Nat), (∀ t, i ≤ t → t ≤ i + m → upG l (chain l g t) = some (chain l g (t + 1))) → chain l g (i + m + 1) = top → upB (upG l) top (m + 1) (chain l g i) = true
 | 0, i, h, e => by
   unfold upB
   rw [h i (by omega) (by omega)]
   simp only [Nat.add_zero] at e
   rw [e]; simp
 | m + 1, i, h, e => by
   unfold upB
   rw [h i (by omega) (by omega)]
   have := up_chain (top := top) m (i + 1) (fun t h1 h2 => h t (by omega) (by omega)) (by rw [← e]; congr 1; omega)
   simp only [this, Bool.or_true]
theorem upB_more (G : Int → Option Int) (top : Int) : ∀ (k n : Nat) (f : Int), k ≤ n → upB G top k f = true → upB G top n f = true
 | 0, n, f, _, h => by cases h
 | k + 1, 0, f, hk, h => by omega
 | k + 1, n + 1, f, hk, h => by
   unfold upB at h ⊢
   cases hG : G f with
   | none => rw [hG] at h; cases h
   | some p =>
     rw [hG] at h
     simp only [Bool.or_eq_true] at h ⊢
     rcases h with h | h
     · exact .inl h
     · exact .inr (upB_more G top k n p (by omega) h)
theorem ring_ab {l : List Nd} (B : Base l) : (¬ RingN (N0 l)) ↔ ∀ i, i < l.length → lkU l (l.getD i Nd.no) = true := by
 constructor
 · intro hr i hi
   unfold lkU
   cases q : ((l.getD i Nd.no).k == 2) with
   | false => rfl
   | true =>
     simp only [Bool.not_true, Bool.false_or]
     cases ha : abN l 1 (l.length + 1) (l.getD i Nd.no).fid with
     | true => rfl
     | false =>
       exfalso
       apply hr
       rw [ring_iff B]
       have hd : isDirT (N0 l) (l.getD i Nd.no).fid = true := by
         obtain ⟨p, hp⟩ := N0_at B.2.1 hi
         unfold isDirT
         rw [hp]; exact q
       generalize (l.getD i Nd.no).fid = g at *
       have hc := ab_chain B _ g hd ha
       have hG : ∀ t, t < l.length + 1 → upG l (chain l g t) = some (chain l g (t + 1)) := fun t ht => by
         obtain ⟨h1, h2⟩ := hc t ht
         exact (upG_par B _ _).2 (B.hasUp h1 h2)
       have hlen := dirK_len l
       obtain ⟨s, j, hsj, hj, e⟩ := pigeon (chain l g) (dirK l) (fun t ht => by rw [dirK_mem B.2.1, hG t (by omega)]; rfl)
       refine ⟨chain l g s, chain l g (s + 1), hG s (by omega), ?_⟩
       unfold leadB
       by_cases e1 : chain l g (s + 1) = chain l g s
       · rw [e1]; simp
       · have hne : s + 1 ≠ j := fun h => e1 (by rw [h, e])
         have := up_chain (l := l) (g := g) (top := chain l g s) (j - s - 2) (s + 1) (fun t h1 h2 => hG t (by omega)) (by rw [e]; congr 1; omega)
         rw [upB_more _ _ _ _ _ (by omega) this]
         simp
 · intro h hr
   rw [ring_iff B] at hr
   obtain ⟨f, p, hp, hl⟩ := hr
   have hE := (upG_par B p f).1 hp
   have hd : isDirT (N0 l) f = true := by obtain ⟨_, _, _, _, _, _, h4⟩ := hE; exact h4
   have ha := ab_ring B hp hl (l.length + 1) f ⟨0, by unfold leadB; simp⟩
   unfold isDirT at hd
   cases hN : N0 l f with
   | none => rw [hN] at hd; cases hd
   | some r =>
     obtain ⟨pp, x⟩ := r
     rw [hN] at hd
     obtain ⟨i, hi, rfl, e⟩ := N0_of hN
     have := h i hi
     unfold lkU at this
     have hd2 : ((l.getD i Nd.no).k == 2) = true := hd
     rw [e, ha, hd2] at this
     cases this
end Go.Proofs.YtfmghbennahlfaaGreat
