/-
  
-/
import Derived.Test.YtpolbbdaippclaaGreatNsAo
import Derived.Test.YtpolbbdaippclaaGreatNsAl
import Derived.Laws.IdiomStrings
import Derived.Deep.RegionHeld3
import Derived.BigQuiet
namespace Go.Proofs.YtpolbbdaippclaaGreat
open Go.RowKit Go.ChangeShapes Go.WideShapes Go.ChangeAt Go.Maps Go.Shelf
set_option linter.unusedVariables false
set_option linter.unusedSimpArgs false
set_option maxRecDepth 100000
theorem pl_has (l : List Nd) (f : Int) : ∀ m, (plTo l m f).isSome = hasTo l f m
 | 0 => rfl
 | m + 1 => by
   have e : plTo l (m + 1) f = updF (plTo l m) (l.getD m Nd.no).fid (some m) f := rfl
   rw [e, hasTo, ← pl_has l f m]
   unfold updF
   split
   · rename_i h; rw [h]; simp
   · rename_i h
     have : ((l.getD m Nd.no).fid == f) = false := beq_eq_false_iff_ne.2 (fun q => h q.symm)
     rw [this]; simp
theorem N0_has (l : List Nd) (f : Int) : (N0 l f).isSome = hasF l f := by
 unfold N0 ndF hasF
 rw [Option.isSome_map, pl_has]
theorem up_mono {l : List Nd} {m : Nat} (h : upTo l m = true) : ∀ j i, i < j → j < m → (l.getD i Nd.no).fid < (l.getD j Nd.no).fid
 | 0, i, hi, _ => by omega
 | j + 1, i, hi, hj => by
   have h1 := upTo_pos h (j + 1) hj
   rw [lastFd_next] at h1
   by_cases e : i = j
   · subst e; exact h1
   · have := up_mono h j i (by omega) (by omega)
     omega
theorem up_inj {l : List Nd} (h : upTo l l.length = true) {i j : Nat} (hi : i < l.length) (hj : j < l.length) (e : (l.getD i Nd.no).fid = (l.getD j Nd.no).fid) : i = j := by
 rcases Nat.lt_trichotomy i j with q | q | q
 · have := up_mono h j i q hj; omega
 · exact q
 · have := up_mono h i j q hi; omega
theorem N0_at {l : List Nd} (h : upTo l l.length = true) {i : Nat} (hi : i < l.length) : ∃ p, N0 l (l.getD i Nd.no).fid = some (p, l.getD i Nd.no) := by
 have h1 : (plTo l l.length (l.getD i Nd.no).fid).isSome = true := by rw [pl_has]; exact hasF_yes hi (by simp)
 cases hq : plTo l l.length (l.getD i Nd.no).fid with
 | none => rw [hq] at h1; cases h1
 | some j =>
   obtain ⟨lj, ej⟩ := plTo_lt l _ hq
   obtain rfl := up_inj h lj hi ej
   unfold N0 ndF
   rw [hq]
   exact ⟨_, rfl⟩
theorem N0_of {l : List Nd} {f : Int} {p : Addr} {x : Nd} (h : N0 l f = some (p, x)) : ∃ i, i < l.length ∧ l.getD i Nd.no = x ∧ x.fid = f := by
 unfold N0 ndF at h
 cases hq : plTo l l.length f with
 | none => rw [hq] at h; cases h
 | some j =>
   rw [hq] at h
   cases h
   obtain ⟨lj, ej⟩ := plTo_lt l _ hq
   exact ⟨j, lj, rfl, ej⟩
def HasK (x : Nd) (g : Int) : Prop := ∃ i, i < x.ks.length ∧ (x.ks.getD i Kd.no).fid = g
theorem edge_iff {l : List Nd} (h : upTo l l.length = true) (f g : Int) : Edge (N0 l) f g ↔ ∃ i, i < l.length ∧ (l.getD i Nd.no).fid = f ∧ HasK (l.getD i Nd.no) g ∧ isDirT (N0 l) g = true := by
 constructor
 · rintro ⟨p, x, i, h1, h2, h3, h4⟩
   obtain ⟨j, lj, rfl, ej⟩ := N0_of h1
   exact ⟨j, lj, ej, ⟨i, h2, h3⟩, h4⟩
 · rintro ⟨j, lj, rfl, ⟨i, h2, h3⟩, h4⟩
   obtain ⟨p, hp⟩ := N0_at h lj
   exact ⟨p, _, i, hp, h2, h3, h4⟩
theorem upM_ne (x : Nd) (g acc : Int) : ∀ m, upM x g acc m ≠ acc → upM x g acc m = x.fid ∧ ∃ i, i < m ∧ (x.ks.getD i Kd.no).fid = g
 | 0, h => absurd rfl h
 | m + 1, h => by
   unfold upM at h ⊢
   cases q : ((x.ks.getD m Kd.no).fid == g) with
   | true => exact ⟨rfl, m, by omega, by simpa using q⟩
   | false =>
     rw [q] at h
     obtain ⟨h1, i, hi, e⟩ := upM_ne x g acc m h
     exact ⟨h1, i, by omega, e⟩
theorem upM_or (x : Nd) (g acc : Int) : ∀ m, upM x g acc m = acc ∨ upM x g acc m = x.fid
 | 0 => .inl rfl
 | m + 1 => by
   unfold upM
   cases q : ((x.ks.getD m Kd.no).fid == g) with
   | true => exact .inr rfl
   | false => exact upM_or x g acc m
theorem upM_in (x : Nd) (g acc : Int) : ∀ m i, i < m → (x.ks.getD i Kd.no).fid = g → upM x g acc m = x.fid
 | 0, i, hi, _ => by omega
 | m + 1, i, hi, e => by
   unfold upM
   cases q : ((x.ks.getD m Kd.no).fid == g) with
   | true => rfl
   | false =>
     have hne : i ≠ m := fun h => by
       rw [h] at e
       have := beq_eq_false_iff_ne.1 q
       exact this e
     exact upM_in x g acc m i (by omega) e
theorem upK_ne (l : List Nd) (g : Int) : ∀ m, upK l g m ≠ 0 → ∃ i, i < m ∧ (l.getD i Nd.no).fid = upK l g m ∧ HasK (l.getD i Nd.no) g
 | 0, h => absurd rfl h
 | m + 1, h => by
   unfold upK at h ⊢
   by_cases q : upM (l.getD m Nd.no) g (upK l g m) (l.getD m Nd.no).ks.length = upK l g m
   · rw [q] at h ⊢
     obtain ⟨i, hi, e, hk⟩ := upK_ne l g m h
     exact ⟨i, by omega, e, hk⟩
   · obtain ⟨h1, i, hi, e⟩ := upM_ne _ _ _ _ q
     exact ⟨m, by omega, h1.symm, i, hi, e⟩
theorem upK_has {l : List Nd} {g : Int} : ∀ {m : Nat}, (∀ i, i < m → (l.getD i Nd.no).fid ≠ 0) → ∀ i, i < m → HasK (l.getD i Nd.no) g → upK l g m ≠ 0
 | 0, _, i, hi, _ => by omega
 | m + 1, hp, i, hi, hk => by
   unfold upK
   by_cases e : i = m
   · subst e
     obtain ⟨j, hj, ej⟩ := hk
     rw [upM_in _ _ _ _ j hj ej]
     exact hp i (by omega)
   · have ih := upK_has (g := g) (m := m) (fun i hi => hp i (by omega)) i (by omega) hk
     rcases upM_or (l.getD m Nd.no) g (upK l g m) (l.getD m Nd.no).ks.length with q | q
     · rw [q]; exact ih
     · rw [q]; exact hp m (by omega)
def Base (l : List Nd) : Prop := l.length ≤ 40 ∧ fidsUp l = true ∧ isDirT (N0 l) 1 = true ∧ (∀ x ∈ l, aloneB x = true ∧ haveB (N0 l) x.ks = true) ∧ linksB l = true
section
variable {l : List Nd} (B : Base l)
include B
theorem Base.pos : ∀ i, i < l.length → 0 < (l.getD i Nd.no).fid := upTo_pos2 B.2.1
theorem Base.one : OneUp (N0 l) := one_up (a := none) B.2.2.2.2 (fun x hx => (B.2.2.2.1 x hx).2)
theorem Base.ne1 {f g : Int} (h : Edge (N0 l) f g) : g ≠ 1 := by
 obtain ⟨i, hi, _, ⟨j, hj, e⟩, _⟩ := (edge_iff B.2.1 f g).1 h
 have := (haveTo_all (B.2.2.2.1 _ (getD_mem l Nd.no hi)).2 j hj).1
 rw [e] at this
 exact this
theorem Base.upOf {f g : Int} (h : Edge (N0 l) f g) : upD l g = f := by
 obtain ⟨i, hi, e, hk, hd⟩ := (edge_iff B.2.1 f g).1 h
 have hne : upD l g ≠ 0 := upK_has (fun i hi => by have := B.pos i hi; omega) i hi hk
 obtain ⟨j, hj, ej, hkj⟩ := upK_ne l g _ hne
 have : Edge (N0 l) (upD l g) g := (edge_iff B.2.1 _ g).2 ⟨j, hj, ej, hkj, hd⟩
 exact B.one _ _ _ this h
theorem Base.dirUp {f g : Int} (h : Edge (N0 l) f g) : isDirT (N0 l) f = true := by
 obtain ⟨i, hi, rfl, ⟨j, hj, e⟩, _⟩ := (edge_iff B.2.1 f g).1 h
 obtain ⟨p, hp⟩ := N0_at B.2.1 hi
 unfold isDirT
 rw [hp]
 have ha := (B.2.2.2.1 _ (getD_mem l Nd.no hi)).1
 generalize l.getD i Nd.no = x at *
 unfold aloneB at ha
 cases q : (x.k == 1 || x.k == 3) with
 | true =>
   rw [q] at ha
   simp only [cond_true, Bool.and_eq_true, decide_eq_true_eq] at ha
   omega
 | false =>
   rw [q] at ha
   cases q2 : (x.k == 2) with
   | true => exact q2
   | false => rw [q2] at ha; cases ha
theorem Base.hasUp {g : Int} (hd : isDirT (N0 l) g = true) (hne : g ≠ 1) : Edge (N0 l) (upD l g) g := by
 have hd2 := hd
 unfold isDirT at hd
 cases hN : N0 l g with
 | none => rw [hN] at hd; cases hd
 | some q =>
   obtain ⟨p, x⟩ := q
   rw [hN] at hd
   obtain ⟨i, hi, rfl, e⟩ := N0_of hN
   have hb := linksTo_all B.2.2.2.2 i hi
   unfold linkB at hb
   rw [e] at hb
   have hne2 : (g == 1) = false := beq_eq_false_iff_ne.2 hne
   rw [hne2] at hb
   simp only [Bool.false_or, Bool.and_eq_true, Bool.not_eq_true', Bool.or_eq_false_iff, decide_eq_false_iff_not] at hb
   have hc : 0 < (kfs l).count g := by omega
   rw [List.count_pos_iff] at hc
   unfold kfs at hc
   rw [List.mem_flatMap] at hc
   obtain ⟨y, hy, hg⟩ := hc
   rw [List.mem_map] at hg
   obtain ⟨kd, hkd, ek⟩ := hg
   obtain ⟨j, hj, rfl⟩ := List.getElem_of_mem hy
   obtain ⟨t, ht, rfl⟩ := List.getElem_of_mem hkd
   have hk : HasK (l.getD j Nd.no) g := by
     have e1 : l.getD j Nd.no = l[j] := by simp [List.getD, hj]
     rw [e1]
     exact ⟨t, ht, by simpa [List.getD, ht] using ek⟩
   have hE : Edge (N0 l) (l.getD j Nd.no).fid g := (edge_iff B.2.1 _ g).2 ⟨j, hj, rfl, hk, hd2⟩
   rw [B.upOf hE]
   exact hE
end
def upG (l : List Nd) (g : Int) : Option Int := bif isDirT (N0 l) g && g != 1 then some (upD l g) else none
theorem upG_par {l : List Nd} (B : Base l) : IsPar (N0 l) (upG l) := fun f g => by
 unfold upG
 constructor
 · intro h
   cases q : (isDirT (N0 l) g && g != 1) with
   | false => rw [q] at h; cases h
   | true =>
     rw [q] at h
     cases h
     rw [Bool.and_eq_true] at q
     exact B.hasUp q.1 (by simpa using q.2)
 · intro h
   have h1 := B.ne1 h
   have h2 := B.upOf h
   obtain ⟨_, _, _, _, _, _, h3⟩ := h
   rw [h3, h2, show (g != 1) = true by simpa using h1]
   rfl
def dirK (l : List Nd) : List Int := (l.filter fun x => x.k == 2 && x.fid != 1).map (·.fid)
theorem nodup_fids {l : List Nd} (h : upTo l l.length = true) : l.Pairwise (fun x y => x.fid ≠ y.fid) := by
 rw [List.pairwise_iff_getElem]
 intro i j hi hj hij e
 have := up_mono h j i hij hj
 simp [List.getD, hi, hj] at this
 omega
theorem dirK_nodup {l : List Nd} (h : upTo l l.length = true) : (dirK l).Pairwise (· ≠ ·) := by
 unfold dirK
 rw [List.pairwise_map]
 exact (nodup_fids h).filter _
theorem dirK_mem {l : List Nd} (h : upTo l l.length = true) (g : Int) : g ∈ dirK l ↔ (upG l g).isSome = true := by
 unfold dirK upG
 rw [List.mem_map]
 constructor
 · rintro ⟨x, hx, rfl⟩
   rw [List.mem_filter, Bool.and_eq_true] at hx
   obtain ⟨hx, h1, h2⟩ := hx
   obtain ⟨i, hi, rfl⟩ := List.getElem_of_mem hx
   obtain ⟨p, hp⟩ := N0_at h hi
   rw [show l.getD i Nd.no = l[i] by simp [List.getD, hi]] at hp
   unfold isDirT
   rw [hp]
   simp only [h1, h2, Bool.and_self]
   rfl
 · intro hq
   cases q : (isDirT (N0 l) g && g != 1) with
   | false => rw [q] at hq; cases hq
   | true =>
     rw [Bool.and_eq_true] at q
     have hd := q.1
     unfold isDirT at hd
     cases hN : N0 l g with
     | none => rw [hN] at hd; cases hd
     | some r =>
       obtain ⟨p, x⟩ := r
       rw [hN] at hd
       obtain ⟨i, hi, rfl, e⟩ := N0_of hN
       refine ⟨_, List.mem_filter.2 ⟨getD_mem l Nd.no hi, ?_⟩, e⟩
       rw [e]
       simp only [Bool.and_eq_true]
       exact ⟨hd, q.2⟩
theorem dirK_len (l : List Nd) : (dirK l).length ≤ l.length := by
 unfold dirK
 rw [List.length_map]
 exact List.length_filter_le _ _
theorem ring_iff {l : List Nd} (B : Base l) : RingN (N0 l) ↔ ∃ f p, upG l f = some p ∧ leadB (upG l) (dirK l).length f p = true :=
 ring_of (dirK_nodup B.2.1) (dirK_mem B.2.1) rfl (upG_par B)
theorem ab_ring {l : List Nd} (B : Base l) {f p : Int} (hp : upG l f = some p) {n : Nat} (hl : leadB (upG l) n f p = true) : ∀ (k : Nat) (g : Int), (∃ m, leadB (upG l) m f g = true) → abN l 1 k g = false
 | 0, g, _ => rfl
 | k + 1, g, hm => by
   have key : ∃ g', upG l g = some g' ∧ ∃ m, leadB (upG l) m f g' = true := by
     obtain ⟨m, hm⟩ := hm
     by_cases e : g = f
     · subst e; exact ⟨p, hp, n, hl⟩
     · unfold leadB at hm
       have e2 : (g == f) = false := beq_eq_false_iff_ne.2 e
       rw [e2, Bool.false_or] at hm
       cases m with
       | zero => cases hm
       | succ m =>
         unfold upB at hm
         cases hG : upG l g with
         | none => rw [hG] at hm; cases hm
         | some g' => rw [hG] at hm; exact ⟨g', rfl, m, hm⟩
   obtain ⟨g', hg, hm'⟩ := key
   have hE := (upG_par B g' g).1 hg
   have h1 := B.ne1 hE
   have h2 := B.upOf hE
   obtain ⟨i, hi, e, _⟩ := (edge_iff B.2.1 g' g).1 hE
   have h3 := B.pos i hi
   unfold abN
   rw [h2, show (g == 1) = false from beq_eq_false_iff_ne.2 h1, show (g' == 0) = false from beq_eq_false_iff_ne.2 (by omega)]
   exact ab_ring B hp hl k g' hm'
def chain (l : List Nd) (g : Int) : Nat → Int
 | 0 => g
 | n + 1 => upD l (chain l g n)
theorem chain_next (l : List Nd) (g : Int) : ∀ n, chain l (upD l g) n = chain l g (n + 1)
 | 0 => rfl
 | n + 1 => by unfold chain; rw [chain_next l g n]
theorem ab_chain {l : List Nd} (B : Base l) : ∀ (k : Nat) (g : Int), isDirT (N0 l) g = true → abN l 1 k g = false → ∀ i, i < k → isDirT (N0 l) (chain l g i) = true ∧ chain l g i ≠ 1
 | 0, g, _, _, i, hi => by omega
 | k + 1, g, hd, ha, i, hi => by
   have hne : g ≠ 1 := fun e => by
     unfold abN at ha
     rw [e] at ha
     cases ha
   cases i with
   | zero => exact ⟨hd, hne⟩
   | succ i =>
     have hE := B.hasUp hd hne
     obtain ⟨j, hj, e, _⟩ := (edge_iff B.2.1 _ g).1 hE
     have h3 := B.pos j hj
     unfold abN at ha
     rw [show (g == 1) = false from beq_eq_false_iff_ne.2 hne, show (upD l g == 0) = false from beq_eq_false_iff_ne.2 (by omega)] at ha
     have := ab_chain B k (upD l g) (B.dirUp hE) ha i (by omega)
     rw [chain_next] at this
     exact this
theorem pigeon (c : Nat → Int) (ks : List Int) (h : ∀ i, i ≤ ks.length → c i ∈ ks) : ∃ i j, i < j ∧ j ≤ ks.length ∧ c i = c j := by
 by_cases hq : ∃ i j, i < j ∧ j ≤ ks.length ∧ c i = c j
 · exact hq
 · exfalso
   have hp : ((List.range (ks.length + 1)).map c).Pairwise (· ≠ ·) := by
     rw [List.pairwise_map, List.pairwise_iff_getElem]
     intro i j hi hj hij
     simp only [List.getElem_range]
     simp at hj
     exact fun e => hq ⟨i, j, hij, by omega, e⟩
   have := nodup_len hp (b := ks) (fun x hx => by
     obtain ⟨i, hi, rfl⟩ := List.mem_map.1 hx
     exact h i (by have := List.mem_range.1 hi; omega))
   simp at this
   omega
theorem up_chain {l : List Nd} {g top : Int} : ∀ (m i : Nat), (∀ t, i ≤ t → t ≤ i + m → upG l (chain l g t) = some (chain l g (t + 1))) → chain l g (i + m + 1) = top → upB (upG l) top (m + 1) (chain l g i) = true
 | 0, i, h, e => by
   unfold upB
   rw [h i (by omega) (by omega)]
   simp only [Nat.add_zero] at e
   rw [e]; simp
 | m + 1, i, h, e => by
   unfold upB
   rw [h i (by omega) (by omega)]
   have := up_chain (top := top) m (i + 1) (fun t h1 h2 => h t (by omega) (by omega)) (by rw [← e]; congr 1; omega)
   simp only [this, Bool.or_true]
theorem upB_more (G : Int → Option Int) (top : Int) : ∀ (k n : Nat) (f : Int), k ≤ n → upB G top k f = true → upB G top n f = true
 | 0, n, f, _, h => by cases h
 | k + 1, 0, f, hk, h => by omega
 | k + 1, n + 1, f, hk, h => by
   unfold upB at h ⊢
   cases hG : G f with
   | none => rw [hG] at h; cases h
   | some p =>
     rw [hG] at h
     simp only [Bool.or_eq_true] at h ⊢
     rcases h with h | h
     · exact .inl h
     · exact .inr (upB_more G top k n p (by omega) h)
theorem ring_ab {l : List Nd} (B : Base l) : (¬ RingN (N0 l)) ↔ ∀ i, i < l.length → lkU l (l.getD i Nd.no) = true := by
 constructor
 · intro hr i hi
   unfold lkU
   cases q : ((l.getD i Nd.no).k == 2) with
   | false => rfl
   | true =>
     simp only [Bool.not_true, Bool.false_or]
     cases ha : abN l 1 (l.length + 1) (l.getD i Nd.no).fid with
     | true => rfl
     | false =>
       exfalso
       apply hr
       rw [ring_iff B]
       have hd : isDirT (N0 l) (l.getD i Nd.no).fid = true := by
         obtain ⟨p, hp⟩ := N0_at B.2.1 hi
         unfold isDirT
         rw [hp]; exact q
       generalize (l.getD i Nd.no).fid = g at *
       have hc := ab_chain B _ g hd ha
       have hG : ∀ t, t < l.length + 1 → upG l (chain l g t) = some (chain l g (t + 1)) := fun t ht => by
         obtain ⟨h1, h2⟩ := hc t ht
         exact (upG_par B _ _).2 (B.hasUp h1 h2)
       have hlen := dirK_len l
       obtain ⟨s, j, hsj, hj, e⟩ := pigeon (chain l g) (dirK l) (fun t ht => by rw [dirK_mem B.2.1, hG t (by omega)]; rfl)
       refine ⟨chain l g s, chain l g (s + 1), hG s (by omega), ?_⟩
       unfold leadB
       by_cases e1 : chain l g (s + 1) = chain l g s
       · rw [e1]; simp
       · have hne : s + 1 ≠ j := fun h => e1 (by rw [h, e])
         have := up_chain (l := l) (g := g) (top := chain l g s) (j - s - 2) (s + 1) (fun t h1 h2 => hG t (by omega)) (by rw [e]; congr 1; omega)
         rw [upB_more _ _ _ _ _ (by omega) this]
         simp
 · intro h hr
   rw [ring_iff B] at hr
   obtain ⟨f, p, hp, hl⟩ := hr
   have hE := (upG_par B p f).1 hp
   have hd : isDirT (N0 l) f = true := by obtain ⟨_, _, _, _, _, _, h4⟩ := hE; exact h4
   have ha := ab_ring B hp hl (l.length + 1) f ⟨0, by unfold leadB; simp⟩
   unfold isDirT at hd
   cases hN : N0 l f with
   | none => rw [hN] at hd; cases hd
   | some r =>
     obtain ⟨pp, x⟩ := r
     rw [hN] at hd
     obtain ⟨i, hi, rfl, e⟩ := N0_of hN
     have := h i hi
     unfold lkU at this
     have hd2 : ((l.getD i Nd.no).k == 2) = true := hd
     rw [e, ha, hd2] at this
     cases this
end Go.Proofs.YtpolbbdaippclaaGreat
namespace Go.Proofs.YtpolbbdaippclaaGreat
open Go.RowKit Go.ChangeShapes Go.WideShapes Go.ChangeAt Go.Maps
set_option linter.unusedVariables false
set_option linter.unusedSimpArgs false
set_option maxRecDepth 100000
theorem right_ok {l : List Nd} (h : RightP l) : ∀ x ∈ l, nodeOk x = true := by
 obtain ⟨h1, h2, h3, h4, h5, h6⟩ := h
 intro x hx
 obtain ⟨i, hi, rfl⟩ := List.getElem_of_mem hx
 have hg : l.getD i Nd.no = l[i] := by simp [List.getD, hi]
 have hf := upTo_pos2 h2 i hi
 rw [hg] at hf
 obtain ⟨ha, hh⟩ := h4 _ hx
 have hp : ∀ f p, N0 l f = some p → f ≠ 0 := fun f p e => by
   unfold N0 ndF at e
   cases hq : plTo l l.length f with
   | none => rw [hq] at e; cases e
   | some j =>
     obtain ⟨q1, q2⟩ := plTo_lt l _ hq
     have := upTo_pos2 h2 j q1
     omega
 generalize l[i] = y at *
 unfold nodeOk
 have f0 : (y.fid == 0) = false := beq_eq_false_iff_ne.2 (by omega)
 rw [f0]
 have h12 := alone_few ha
 unfold aloneB at ha
 cases q : (y.k == 1 || y.k == 3) with
 | true =>
   rw [q] at ha
   simp only [cond_true, Bool.and_eq_true, decide_eq_true_eq] at ha ⊢
   simp [ha.2]
   omega
 | false =>
   rw [q] at ha
   cases q2 : (y.k == 2) with
   | true =>
     rw [q2] at ha
     simp only [cond_false, cond_true, Bool.and_eq_true, decide_eq_true_eq] at ha ⊢
     have := kidsTo_of hp ha.2.2 hh
     have hk : kidsOk y.ks = true := this
     rw [hk]
     simp [ha.1]
     omega
   | false => rw [q2] at ha; cases ha
end Go.Proofs.YtpolbbdaippclaaGreat
namespace Go.Proofs.YtpolbbdaippclaaGreat
open Go.RowKit Go.ChangeShapes Go.WideShapes Go.ChangeAt Go.Maps Go.Shelf
set_option linter.unusedVariables false
set_option linter.unusedSimpArgs false
set_option maxRecDepth 100000
theorem dKid_have (l : List Nd) (ks : List Kd) : ∀ m, dKid l ks m = haveTo (N0 l) ks m
 | 0 => rfl
 | m + 1 => by
   unfold dKid haveTo
   rw [dKid_have l ks m, N0_has, Bool.and_comm (hasF l _)]
theorem dTo_mk {l : List Nd} : ∀ {m : Nat}, (∀ i, i < m → dOne l i = true) → dTo l m = true
 | 0, _ => rfl
 | m + 1, h => by
   unfold dTo
   rw [dTo_mk (fun i hi => h i (by omega)), h m (by omega)]; rfl
theorem lkTo_mk {l : List Nd} : ∀ {m : Nat}, (∀ i, i < m → lkOne l (l.getD i Nd.no) = true) → lkTo l m = true
 | 0, _ => rfl
 | m + 1, h => by
   unfold lkTo
   rw [lkTo_mk (fun i hi => h i (by omega)), h m (by omega)]; rfl
theorem lkTo_at {l : List Nd} : ∀ {m : Nat}, lkTo l m = true → ∀ i, i < m → lkOne l (l.getD i Nd.no) = true
 | 0, _, i, hi => by omega
 | m + 1, h, i, hi => by
   unfold lkTo at h
   rw [Bool.and_eq_true] at h
   by_cases e : i = m
   · subst e; exact h.2
   · exact lkTo_at h.1 i (by omega)
theorem upTo_mk {l : List Nd} : ∀ {m : Nat}, (∀ i, i < m → lastFd l i < (l.getD i Nd.no).fid) → upTo l m = true
 | 0, _ => rfl
 | m + 1, h => by
   unfold upTo
   rw [upTo_mk (fun i hi => h i (by omega)), decide_eq_true (h m (by omega))]; rfl
theorem linksTo_mk {P : List Int} {l : List Nd} : ∀ {m : Nat}, (∀ i, i < m → linkB P (l.getD i Nd.no) = true) → linksTo P l m = true
 | 0, _ => rfl
 | m + 1, h => by
   unfold linksTo
   rw [linksTo_mk (fun i hi => h i (by omega)), h m (by omega)]; rfl
theorem rtTo_ex {l : List Nd} : ∀ {m : Nat}, rtTo l m = true → ∃ i, i < m ∧ rtB (l.getD i Nd.no) = true
 | 0, h => by cases h
 | m + 1, h => by
   unfold rtTo at h
   rw [Bool.or_eq_true] at h
   rcases h with h | h
   · obtain ⟨i, hi, e⟩ := rtTo_ex h
     exact ⟨i, by omega, e⟩
   · exact ⟨m, by omega, h⟩
theorem rtTo_mk {l : List Nd} : ∀ {m : Nat} {i : Nat}, i < m → rtB (l.getD i Nd.no) = true → rtTo l m = true
 | 0, i, hi, _ => by omega
 | m + 1, i, hi, h => by
   unfold rtTo
   by_cases e : i = m
   · subst e; rw [h, Bool.or_true]
   · rw [rtTo_mk (i := i) (by omega) h, Bool.true_or]
theorem namesTo_of {l : List Kd} : ∀ {m : Nat}, kidsTo l m = true → namesTo l m = true
 | 0, _ => rfl
 | m + 1, h => by
   unfold kidsTo kOk at h
   rw [Bool.and_eq_true, Bool.and_eq_true] at h
   unfold namesTo nmK
   rw [namesTo_of h.1, h.2.1]; rfl
theorem alone_of {x : Nd} (h : nodeOk x = true) : aloneB x = true := by
 unfold nodeOk at h
 rw [Bool.and_eq_true] at h
 obtain ⟨ha, hb⟩ := h
 simp only [Bool.not_eq_true', Bool.or_eq_false_iff, decide_eq_false_iff_not] at ha
 obtain ⟨⟨_, l1⟩, l2⟩ := ha
 unfold aloneB
 cases q1 : (x.k == 1 || x.k == 3) with
 | true =>
   rw [q1] at hb
   simp only [cond_true, decide_eq_true_eq, Bool.and_eq_true] at hb ⊢
   exact ⟨by omega, hb⟩
 | false =>
   rw [q1] at hb
   cases q2 : (x.k == 2) with
   | false => rw [q2] at hb; cases hb
   | true =>
     rw [q2] at hb
     simp only [cond_false, cond_true, Bool.and_eq_true, decide_eq_true_eq] at hb ⊢
     exact ⟨hb.1, by omega, namesTo_of hb.2⟩
theorem no_root {l : List Nd} (h : ∀ x ∈ l, haveB (N0 l) x.ks = true) : (kfs l).count 1 = 0 := by
 rw [List.count_eq_zero]
 intro hm
 unfold kfs at hm
 rw [List.mem_flatMap] at hm
 obtain ⟨x, hx, hg⟩ := hm
 rw [List.mem_map] at hg
 obtain ⟨kd, hkd, ek⟩ := hg
 obtain ⟨t, ht, rfl⟩ := List.getElem_of_mem hkd
 have := (haveTo_all (h x hx) t ht).1
 rw [show x.ks.getD t Kd.no = x.ks[t] by simp [List.getD, ht]] at this
 exact this ek
theorem rightD_iff (l : List Nd) : RightP l ↔ rightD l = true := by
 constructor
 · intro h
   obtain ⟨h1, h2, h3, h4, h5, h6⟩ := h
   have B : Base l := ⟨h1, h2, h3, h4, h5⟩
   have hU := (ring_ab B).1 h6
   have hz := no_root (fun x hx => (h4 x hx).2)
   have hd : dTo l l.length = true := dTo_mk (fun i hi => by
     unfold dOne dA
     rw [right_ok ⟨h1, h2, h3, h4, h5, h6⟩ _ (getD_mem l Nd.no hi), decide_eq_true (upTo_pos h2 i hi), dKid_have]
     exact (h4 _ (getD_mem l Nd.no hi)).2)
   have hr : rtTo l l.length = true := by
     have hd := h3
     unfold isDirT at hd
     cases hN : N0 l 1 with
     | none => rw [hN] at hd; cases hd
     | some r =>
       obtain ⟨p, x⟩ := r
       rw [hN] at hd
       obtain ⟨i, hi, rfl, e⟩ := N0_of hN
       refine rtTo_mk hi ?_
       have hb := linksTo_all h5 i hi
       unfold linkB at hb
       rw [e, hz, Bool.and_eq_true] at hb
       unfold rtB
       rw [e]
       have hd2 : ((l.getD i Nd.no).k == 2) = true := hd
       rw [hd2]
       exact hb.1
   have hl : lkTo l l.length = true := lkTo_mk (fun i hi => by
     have hb := linksTo_all h5 i hi
     have hu := hU i hi
     unfold lkOne
     rw [hu, Bool.and_true]
     generalize l.getD i Nd.no = x at *
     unfold linkB at hb
     unfold lkA
     generalize ((kfs l).count x.fid : Int) = c at *
     rw [Bool.and_eq_true] at hb
     obtain ⟨hb1, hb2⟩ := hb
     cases q : (x.fid == 1) with
     | true => rfl
     | false =>
       rw [q] at hb2
       have e : x.ln = c := by simpa using hb1
       simp only [Bool.false_or, Bool.not_eq_true', Bool.or_eq_false_iff, decide_eq_false_iff_not] at hb2 ⊢
       refine ⟨hb2.1, by rw [e]; simp, ?_⟩
       cases q2 : (x.k == 2) with
       | false => rfl
       | true =>
         have := hb2.2
         rw [q2] at this
         simp only [Bool.true_and, decide_eq_false_iff_not] at this ⊢
         have e1 : c = 1 := by have := hb2.1; omega
         rw [e1]; rfl)
   unfold rightD
   rw [decide_eq_true h1, hd, hr, hl]; rfl
 · intro h
   unfold rightD at h
   simp only [Bool.and_eq_true, decide_eq_true_eq] at h
   obtain ⟨h1, hd, hr, hl⟩ := h
   have hone := fun i hi => dTo_at hd i hi
   unfold dOne dA at hone
   simp only [Bool.and_eq_true, decide_eq_true_eq] at hone
   have h2 : fidsUp l = true := upTo_mk (fun i hi => (hone i hi).1.2)
   have h4 : ∀ x ∈ l, aloneB x = true ∧ haveB (N0 l) x.ks = true := fun x hx => by
     obtain ⟨i, hi, rfl⟩ := List.getElem_of_mem hx
     have e : l.getD i Nd.no = l[i] := by simp [List.getD, hi]
     have hq := hone i hi
     rw [e, dKid_have] at hq
     exact ⟨alone_of hq.1.1, hq.2⟩
   obtain ⟨r, hrl, hrb⟩ := rtTo_ex hr
   unfold rtB at hrb
   simp only [Bool.and_eq_true] at hrb
   have hrf : (l.getD r Nd.no).fid = 1 := by simpa using hrb.1
   have hz := no_root (fun x hx => (h4 x hx).2)
   have h3 : isDirT (N0 l) 1 = true := by
     obtain ⟨p, hp⟩ := N0_at h2 hrl
     rw [hrf] at hp
     unfold isDirT
     rw [hp]
     exact hrb.2.1
   have h5 : linksB l = true := linksTo_mk (fun i hi => by
     have hk := lkTo_at hl i hi
     unfold lkOne at hk
     rw [Bool.and_eq_true] at hk
     unfold linkB
     cases q : ((l.getD i Nd.no).fid == 1) with
     | true =>
       have e1 : (l.getD i Nd.no).fid = 1 := by simpa using q
       obtain rfl := up_inj h2 hi hrl (by rw [e1, hrf])
       rw [e1, hz]
       have := hrb.2.2
       simp only [Bool.true_or, Bool.and_true]
       simpa using this
     | false =>
       have hk1 := hk.1
       generalize l.getD i Nd.no = x at *
       unfold lkA at hk1
       generalize ((kfs l).count x.fid : Int) = c at *
       rw [q] at hk1
       simp only [Bool.false_or, Bool.not_eq_true', Bool.or_eq_false_iff, decide_eq_false_iff_not] at hk1
       obtain ⟨a1, a2, a3⟩ := hk1
       have e : c = x.ln := by simpa using a2
       rw [← e, decide_eq_false a1]
       simp only [beq_self_eq_true, Bool.true_and, Bool.false_or]
       cases q2 : (x.k == 2) with
       | false => rfl
       | true =>
         rw [q2] at a3
         have e1 : c = 1 := by simpa using a3
         rw [e1]; rfl)
   have B : Base l := ⟨h1, h2, h3, h4, h5⟩
   refine ⟨h1, h2, h3, h4, h5, (ring_ab B).2 (fun i hi => ?_)⟩
   have hk := lkTo_at hl i hi
   unfold lkOne at hk
   rw [Bool.and_eq_true] at hk
   exact hk.2
structure TOK (l : List Nd) : Prop where
 few : l.length ≤ 40
 kids : ∀ x ∈ l, x.ks.length ≤ 12
 data : ∀ x ∈ l, x.zs.length ≤ 64
 links : ∀ x ∈ l, x.ln ≤ 60000
 made : ∀ x ∈ l, ∀ q ∈ x.ks, ∃ y, getF l q.fid = some y ∧ 1 ≤ y.ln
def writeL (l : List Nd) (o : Rec) : Int × List Nd :=
 if (getF l o.fid).isSome = false then (5, [])
 else if o.k = 9 then (0, setL l ⟨((getF l o.fid).getD Nd.no).fid, ((getF l o.fid).getD Nd.no).k, o.md, ((getF l o.fid).getD Nd.no).ln, none, 0, ((getF l o.fid).getD Nd.no).zs, none, 0, ((getF l o.fid).getD Nd.no).ks⟩)
 else if ((getF l o.fid).getD Nd.no).k = 2 then (8, [])
 else if ((getF l o.fid).getD Nd.no).k = 3 then (3, [])
 else (0, setL l ⟨((getF l o.fid).getD Nd.no).fid, ((getF l o.fid).getD Nd.no).k, ((getF l o.fid).getD Nd.no).md, ((getF l o.fid).getD Nd.no).ln, none, 0, txB o.dt, none, 0, ((getF l o.fid).getD Nd.no).ks⟩)
def applyL (l : List Nd) (o : Rec) : Int × List Nd :=
 if o.k = 1 ∨ o.k = 2 ∨ o.k = 3 then createL l o
 else if o.k = 4 then hardL l o
 else if o.k = 5 ∨ o.k = 6 then removeL l o
 else if o.k = 7 then renameL l o
 else writeL l o
theorem kidI_mem {l : List Kd} {s : ByteArray} (h : kidI l s ≠ 0) : ∃ q ∈ l, q.nm = s ∧ kidI l s = q.fid := by
 unfold kidI at h ⊢
 cases hf : l.find? (fun k => decide (k.nm = s)) with
 | none => rw [hf] at h; exact absurd rfl h
 | some k => exact ⟨k, List.mem_of_find?_eq_some hf, by simpa using List.find?_some hf, rfl⟩
theorem TOK.look {l : List Nd} (h : TOK l) {f : Int} {s : ByteArray} (e : lookE (getF l f) s = 0) : ∃ x, getF l (lookI (getF l f) s) = some x ∧ 1 ≤ x.ln := by
 obtain ⟨e1, e2, e3, e4⟩ := lookE_ok e
 rw [e3] at e4 ⊢
 obtain ⟨q, hq, _, e5⟩ := kidI_mem e4
 rw [e5]
 exact h.made _ (getF_mem e1).1 q hq
theorem TOK.old {l : List Nd} (h : TOK l) {f : Int} {s : ByteArray} {x : Nd} (hx : getF l (kidI (dirN (getF l f)).ks s) = some x) (hz : ∀ x ∈ l, x.fid ≠ 0) : 1 ≤ x.ln := by
 by_cases e : kidI (dirN (getF l f)).ks s = 0
 · rw [e] at hx
   exact absurd (getF_mem hx).2 (hz x (getF_mem hx).1)
 · obtain ⟨q, hq, _, e5⟩ := kidI_mem e
   cases hd : getF l f with
   | none => rw [hd] at hq; cases hq
   | some d =>
     have hm : dirN (getF l f) ∈ l ∨ (dirN (getF l f)).ks = [] := by
       rw [hd]
       unfold dirN
       simp only
       split
       · exact .inl (getF_mem hd).1
       · exact .inr rfl
     rcases hm with hm | hm
     · obtain ⟨y, hy, h1⟩ := h.made _ hm q hq
       rw [e5] at hx
       rw [hy] at hx
       cases hx
       exact h1
     · rw [hm] at hq; cases hq
theorem count_kfs {l : List Nd} {f : Int} : ∀ (n : Nat), l.length ≤ n → (∀ x ∈ l, x.ks.length ≤ 12) → (kfs l).count f ≤ 12 * n := by
 intro n hn hk
 refine Nat.le_trans List.count_le_length ?_
 have : ∀ m : List Nd, (∀ x ∈ m, x.ks.length ≤ 12) → (kfs m).length ≤ 12 * m.length := by
   intro m
   induction m with
   | nil => intro _; simp [kfs]
   | cons x t ih =>
     intro h
     have h1 := ih (fun y hy => h y (List.mem_cons_of_mem _ hy))
     have h2 := h x List.mem_cons_self
     unfold kfs at h1 ⊢
     rw [List.flatMap_cons, List.length_append, List.length_map, List.length_cons]
     omega
 have h2 := this l hk
 omega
theorem kidsTo_all {l : List Kd} : ∀ {m : Nat}, kidsTo l m = true → ∀ i, i < m → kOk l i = true
 | 0, _, i, hi => by omega
 | m + 1, h, i, hi => by
   unfold kidsTo at h
   rw [Bool.and_eq_true] at h
   by_cases e : i = m
   · subst e; exact h.2
   · exact kidsTo_all h.1 i (by omega)
theorem nodeOk_kid {x : Nd} (h : nodeOk x = true) {j : Nat} (hj : j < x.ks.length) : (x.ks[j]).fid ≠ 0 := by
 unfold nodeOk at h
 rw [Bool.and_eq_true] at h
 have h2 := h.2
 cases q1 : (x.k == 1 || x.k == 3) with
 | true =>
   rw [q1] at h2
   simp only [cond_true, decide_eq_true_eq] at h2
   omega
 | false =>
   rw [q1] at h2
   cases q2 : (x.k == 2) with
   | false => rw [q2] at h2; cases h2
   | true =>
     rw [q2] at h2
     simp only [cond_false, cond_true, Bool.and_eq_true] at h2
     have := kidsTo_all h2.2 j hj
     unfold kOk at this
     rw [show x.ks.getD j Kd.no = x.ks[j] by simp [List.getD, hj]] at this
     simp only [Bool.and_eq_true, bne_iff_ne] at this
     exact this.2
theorem stored {V : World} {G C : Nat} {f k m n : Int} {dt : ByteArray} {d e : Value} (h : V.heap[G]? = some (.cells #[.int .u32 f, .int .u8 k, .int .u16 m, .int .u16 n, d, e] 52)) :
   (((V.setCell ⟨G, 4, none⟩ (.slice (some ⟨V.heap.size, 0, none⟩) dt.size C)).alloc (.cells (bytesRow dt C) 5 ((bytesRow dt C).size, (bytesRow dt C).size + 1))).drew.heap[G]? = some (.cells #[.int .u32 f, .int .u8 k, .int .u16 m, .int .u16 n, .slice (some ⟨V.heap.size, 0, none⟩) dt.size C, e] 52)) ∧
   RowAt ((V.setCell ⟨G, 4, none⟩ (.slice (some ⟨V.heap.size, 0, none⟩) dt.size C)).alloc (.cells (bytesRow dt C) 5 ((bytesRow dt C).size, (bytesRow dt C).size + 1))).drew 0 5 (some ⟨V.heap.size, 0, none⟩) ((txB dt).map u8V) ∧
   Below G V ((V.setCell ⟨G, 4, none⟩ (.slice (some ⟨V.heap.size, 0, none⟩) dt.size C)).alloc (.cells (bytesRow dt C) 5 ((bytesRow dt C).size, (bytesRow dt C).size + 1))).drew := by
 have h2 := heap_setCell_same V G 4 _ _ (.slice (some ⟨V.heap.size, 0, none⟩) dt.size C) h
 have hs : (V.setCell ⟨G, 4, none⟩ (.slice (some ⟨V.heap.size, 0, none⟩) dt.size C)).heap.size = V.heap.size := by simp
 have hl := lt_blkR h
 have h3 := heap_alloc_new (V.setCell ⟨G, 4, none⟩ (.slice (some ⟨V.heap.size, 0, none⟩) dt.size C)) (.cells (bytesRow dt C) 5 ((bytesRow dt C).size, (bytesRow dt C).size + 1))
 rw [hs] at h3
 refine ⟨?_, ?_, ?_⟩
 · exact ((below_1 _ _).block G (by rw [hs]; exact hl)).trans h2
 · exact row_text (fr := ((bytesRow dt C).size, (bytesRow dt C).size + 1)) h3 (Nat.zero_le _)
 · exact Below.drew (((Below.refl G V).setCell (p := ⟨G, 4, none⟩) (Nat.le_refl _) _).alloc (by rw [hs]; omega) _)
theorem rightD_tok {l : List Nd} (h : rightD l = true) : TOK l ∧ ∀ x ∈ l, x.fid ≠ 0 := by
 unfold rightD at h
 simp only [Bool.and_eq_true, decide_eq_true_eq] at h
 obtain ⟨h40, hd, hr, hl⟩ := h
 have hok := dTo_ok hd
 have hk : ∀ x ∈ l, x.ks.length ≤ 12 := fun x hx => nodeOk_few (hok x hx)
 have hc : ∀ x ∈ l, lkA ((kfs l).count x.fid : Int) x = true := fun x hx => by
   obtain ⟨i, hi, rfl⟩ := List.getElem_of_mem hx
   have := lkTo_at hl i hi
   unfold lkOne at this
   rw [Bool.and_eq_true, show l.getD i Nd.no = l[i] by simp [List.getD, hi]] at this
   exact this.1
 have hcount : ∀ x ∈ l, x.fid ≠ 1 → 1 ≤ x.ln ∧ x.ln = ((kfs l).count x.fid : Int) := fun x hx hne => by
   have := hc x hx
   unfold lkA at this
   have e : (x.fid == 1) = false := beq_eq_false_iff_ne.2 hne
   rw [e] at this
   simp only [Bool.false_or, Bool.not_eq_true', Bool.or_eq_false_iff, decide_eq_false_iff_not, bne_eq_false_iff_eq] at this
   obtain ⟨h1, h2, _⟩ := this
   omega
 refine ⟨⟨h40, hk, fun x hx => ?_, fun x hx => ?_, fun x hx q hq => ?_⟩, fun x hx => nodeOk_pos (hok x hx)⟩
 · have := hok x hx
   unfold nodeOk at this
   simp only [Bool.and_eq_true, Bool.not_eq_true', Bool.or_eq_false_iff, decide_eq_false_iff_not] at this
   omega
 · by_cases e : x.fid = 1
   · obtain ⟨i, hi, hi2⟩ := rtTo_ex hr
     unfold rtB at hi2
     simp only [Bool.and_eq_true, beq_iff_eq] at hi2
     have hu : upTo l l.length = true := upTo_mk (fun j hj => by
       have := dTo_at hd j hj
       unfold dOne dA at this
       simp only [Bool.and_eq_true, decide_eq_true_eq] at this
       exact this.1.2)
     obtain ⟨j, hj, rfl⟩ := List.getElem_of_mem hx
     have : i = j := up_inj hu hi hj (by rw [hi2.1, show l.getD j Nd.no = l[j] by simp [List.getD, hj], e])
     subst this
     have e3 := hi2.2.2
     rw [show l.getD i Nd.no = l[i] by simp [List.getD, hj]] at e3
     omega
   · have h1 := (hcount x hx e).2
     have h2 := count_kfs (f := x.fid) 40 h40 hk
     omega
 · obtain ⟨i, hi, rfl⟩ := List.getElem_of_mem hx
   have h1 := dTo_at hd i hi
   unfold dOne at h1
   rw [Bool.and_eq_true, dKid_have] at h1
   have h2 := h1.2
   rw [show l.getD i Nd.no = l[i] by simp [List.getD, hi]] at h2
   obtain ⟨j, hj, rfl⟩ := List.getElem_of_mem hq
   have h3 := haveTo_all h2 j hj
   rw [show (l[i]).ks.getD j Kd.no = (l[i]).ks[j] by simp [List.getD, hj]] at h3
   rw [N0_has] at h3
   cases hg : getF l ((l[i]).ks[j]).fid with
   | none =>
     exfalso
     have := h3.2
     unfold getF at hg
     rw [List.find?_eq_none] at hg
     have hno : ∀ m, hasTo l ((l[i]).ks[j]).fid m = false := fun m => by
       induction m with
       | zero => rfl
       | succ m ih =>
         simp only [hasTo, ih, Bool.false_or]
         by_cases hm : m < l.length
         · have := hg _ (getD_mem l Nd.no hm)
           simpa using this
         · have : l.getD m Nd.no = Nd.no := by simp [List.getD, hm]
           rw [this]
           refine beq_eq_false_iff_ne.2 (fun e => ?_)
           have hp := nodeOk_kid (hok _ (List.getElem_mem hi)) hj
           exact hp e.symm
     unfold hasF at this
     rw [hno] at this
     cases this
   | some y =>
     refine ⟨y, rfl, (hcount y (getF_mem hg).1 (fun e => ?_)).1⟩
     have := (getF_mem hg).2
     rw [e] at this
     exact h3.1 this.symm
def ApplyL (l : List Nd) (o : Rec) : Int × List Nd := if (rightD l && rightF o) = true then applyL l o else (3, [])
theorem rightD_er (l : List Nd) : rightD (l.map Nd.er) = rightD l := by
 rw [Bool.eq_iff_iff, ← rightD_iff, ← rightD_iff]
 exact right_er l
theorem rightF_dt {o : Rec} (h : rightF o = true) : o.dt.size ≤ 64 := by
 unfold rightF at h
 simp only [Bool.and_eq_true] at h
 have h1 : datF (pData o.k) o.dt = true := by
   obtain ⟨_, h2⟩ := h
   simp_all
 unfold datF at h1
 split at h1
 · exact of_decide_eq_true h1
 · have := (ba_nil o.dt).1 h1
   rw [this]; decide
def Gd (n : Nat) (r : Int × List Nd) : Prop := (r.1 ≠ 0 → r.2 = []) ∧ r.2.length ≤ n
theorem Gd.err (n : Nat) (c : Int) : Gd n (c, []) := ⟨fun _ => rfl, Nat.zero_le _⟩
theorem Gd.ok {n : Nat} {L : List Nd} (h : L.length ≤ n) : Gd n (0, L) := ⟨fun h => absurd rfl h, h⟩
theorem Gd.ite {n : Nat} {c : Prop} [Decidable c] {a b : Int × List Nd} (h1 : Gd n a) (h2 : Gd n b) : Gd n (if c then a else b) := by split <;> assumption
theorem applyL_gd (l : List Nd) (o : Rec) : Gd (l.length + 3) (applyL l o) := by
 have s1 := fun (m : List Nd) (x : Nd) => setL_len m x
 have s2 := fun (m : List Nd) (x : Nd) => lessL_len m x
 unfold applyL
 refine Gd.ite ?_ (Gd.ite ?_ (Gd.ite ?_ (Gd.ite ?_ ?_)))
 · exact Gd.ite (Gd.err _ _) (Gd.ite (Gd.err _ _) (Gd.ite (Gd.err _ _) (Gd.ok (Nat.le_trans (s1 _ _) (by have := s1 l ((dirN (getF l o.dir)).kids none 0 (entL (dirN (getF l o.dir)).ks o.nm o.fid)); omega)))))
 · exact Gd.ite (Gd.err _ _) (Gd.ite (Gd.err _ _) (Gd.ite (Gd.err _ _) (Gd.ite (Gd.err _ _) (Gd.ite (Gd.err _ _) (Gd.ok (Nat.le_trans (s1 _ _) (by have := s1 l ((dirN (getF l o.dir)).kids none 0 (entL (dirN (getF l o.dir)).ks o.nm o.fid)); omega)))))))
 · exact Gd.ite (Gd.err _ _) (Gd.ite (Gd.err _ _) (Gd.ite (Gd.err _ _) (Gd.ite (Gd.err _ _) (Gd.ok (Nat.le_trans (s2 _ _) (by have := s1 l (((getF l o.dir).getD Nd.no).kids none 0 (entL ((getF l o.dir).getD Nd.no).ks o.nm 0)); omega))))))
 · refine Gd.ite (Gd.err _ _) (Gd.ite (Gd.err _ _) (Gd.ite (Gd.err _ _) (Gd.ite (Gd.ok (by omega)) (Gd.ite (Gd.err _ _) (Gd.ite (Gd.err _ _) (Gd.ite (Gd.err _ _) (Gd.ite (Gd.err _ _) (Gd.ok ?_))))))))
   have hf : ∀ q : Option Nd, (freeL l q).length ≤ l.length + 1 := fun q => by
     cases q with
     | none => simp [freeL]
     | some x => exact s2 l x
   unfold movedL
   refine Nat.le_trans (s1 _ _) ?_
   refine Nat.le_trans (Nat.succ_le_succ (s1 _ _)) ?_
   have := hf (getF l (kidI (dirN (getF l o.to)).ks o.nm2))
   omega
 · exact Gd.ite (Gd.err _ _) (Gd.ite (Gd.ok (by have := s1 l ⟨((getF l o.fid).getD Nd.no).fid, ((getF l o.fid).getD Nd.no).k, o.md, ((getF l o.fid).getD Nd.no).ln, none, 0, ((getF l o.fid).getD Nd.no).zs, none, 0, ((getF l o.fid).getD Nd.no).ks⟩; omega)) (Gd.ite (Gd.err _ _) (Gd.ite (Gd.err _ _) (Gd.ok (by have := s1 l ⟨((getF l o.fid).getD Nd.no).fid, ((getF l o.fid).getD Nd.no).k, ((getF l o.fid).getD Nd.no).md, ((getF l o.fid).getD Nd.no).ln, none, 0, txB o.dt, none, 0, ((getF l o.fid).getD Nd.no).ks⟩; omega)))))
theorem ApplyL_gd (l : List Nd) (o : Rec) : Gd 43 (ApplyL l o) := by
 unfold ApplyL
 split
 · rename_i h
   rw [Bool.and_eq_true] at h
   have h40 := (rightD_tok h.1).1.few
   obtain ⟨h1, h2⟩ := applyL_gd l o
   exact ⟨h1, by omega⟩
 · exact Gd.err _ _
def NsO (w : World) (base : Nat) (v : Value) (l : List Nd) : Prop := OwN w base v l ∧ ∀ x ∈ l, NdR w base x
theorem NsO.nil (w : World) (base : Nat) : NsO w base (.slice none 0 0) [] := ⟨OwN.nil _ _, fun x hx => by cases hx⟩
theorem NsO.later {w w' : World} {base : Nat} {v : Value} {l : List Nd} (h : NsO w base v l) (hb : Below w.heap.size w w') : NsO w' base v l := ⟨h.1.later hb, fun x hx => (h.2 x hx).later hb⟩
theorem NsO.low {w : World} {base b : Nat} {v : Value} {l : List Nd} (h : NsO w base v l) (hb : b ≤ base) : NsO w b v l := ⟨own_low h.1 hb, fun x hx => (h.2 x hx).low hb⟩
theorem NsO.tr {w : World} {base : Nat} {v : Value} {l : List Nd} (h : NsO w base v l) (hm : l.length ≤ 100000) : ∃ a c, v = .slice a l.length c ∧ Tr w a l := Tr.of h.1 (fun x hx => (h.2 x hx).p) hm
def ResO (w : World) (r : Int × List Nd) (e : Ending) (w' : World) : Prop := ∃ v l', e = .returned (.tuple #[v, .int .i64 r.1]) ∧ NsO w' w.heap.size v l' ∧ l'.map Nd.er = r.2 ∧ Below w.heap.size w w'
theorem ResO.err {w w' : World} {r : Int × List Nd} {c : Int} (h : r = (c, [])) (hb : Below w.heap.size w w') : ResO w r (.returned (.tuple #[.slice none 0 0, .int .i64 c])) w' := ⟨_, [], by rw [h], NsO.nil _ _, by rw [h]; rfl, hb⟩
def erV (x : Int) : Value := .int .i64 x
def OwE (w : World) (base : Nat) (v : Value) (es : List Int) : Prop := w.ownsRow base 28 1 v es.length (es.map erV)
theorem OwE.nil (w : World) (base : Nat) : OwE w base (.slice none 0 0) [] := World.ownsRow_nil _ _ _ _
theorem OwE.later {w w' : World} {base : Nat} {v : Value} {L : List Int} (h : OwE w base v L) (hb : Below w.heap.size w w') : OwE w' base v L := own_latR h hb
theorem OwE.shape {w : World} {base : Nat} {v : Value} {L : List Int} (h : OwE w base v L) : ∃ a cap, v = .slice a L.length cap := by
 rcases h.2 with ⟨hv, hn⟩ | ⟨g, cap, cur, hv, hrest⟩
 · exact ⟨none, 0, by rw [hv, hn]⟩
 · exact ⟨_, _, hv⟩
def IsEs (w : World) (a : Option Addr) (es : List Int) : Prop := 0 < es.length → ∃ b off, a = some ⟨b, off, none⟩ ∧ ∀ i, i < es.length → w.cell? ⟨b, off + i, none⟩ = some (erV (es.getD i 0))
theorem IsEs.later {w w' : World} {a : Option Addr} {es : List Int} (h : IsEs w a es) (hb : Below w.heap.size w w') : IsEs w' a es := fun hp => by
 obtain ⟨b, off, e, hc⟩ := h hp
 exact ⟨b, off, e, fun i hi => cell_later hb (hc i hi)⟩
theorem OwE.is {w : World} {base : Nat} {v : Value} {L : List Int} (h : OwE w base v L) : ∃ a cap, v = .slice a L.length cap ∧ IsEs w a L := by
 rcases h.2 with ⟨hv, hn⟩ | ⟨g, cap, cur, hv, hrest⟩
 · exact ⟨none, 0, by rw [hv, hn], fun hp => by rw [hn] at hp; cases hp⟩
 · refine ⟨_, _, hv, fun hp => ⟨g, 0, rfl, fun i hi => ?_⟩⟩
   have e := h.cells (g := g) (by rw [hv]; rfl) i (erV (L.getD i 0)) (by simp [List.getElem?_map, List.getD, hi])
   rw [← e]
   congr 1
   unfold Addr.add
   split
   · rename_i q; simp [q]
   · simp
theorem own_other {w w' : World} {base b e e' size size' n n' : Nat} {v u : Value} {xs ys : List Value} (h : w.ownsRow base e size v n xs) (k : w.ownsRow b e' size' u n' ys) (hne : e ≠ e') (hg : w.grownBy w' u.ownBlock) : w'.ownsRow base e size v n xs := by
 refine ⟨h.1, ?_⟩
 rcases h.2 with q | ⟨g, cap, cur, hv, hb, hh, hr⟩
 · exact .inl q
 · refine .inr ⟨g, cap, cur, hv, hb, (hg.block g (lt_blkR hh) (fun q => ?_)).trans hh, hr⟩
   rcases k.2 with ⟨rfl, _⟩ | ⟨g', cap', cur', rfl, _, hh', _⟩
   · cases q
   · cases q
     rw [hh'] at hh
     cases hh
     exact hne rfl
def newL : List Nd := [⟨1, 2, 0, 0, none, 0, [], none, 0, []⟩]
def foldS (p : List Nd × List Int) (o : Rec) : List Nd × List Int := (if (ApplyL p.1 o).1 = 0 then (ApplyL p.1 o).2 else p.1, p.2 ++ [(ApplyL p.1 o).1])
end Go.Proofs.YtpolbbdaippclaaGreat
