/-
  The document's LoadCallee.
-/
import Derived.Test.YtmoeljieafninaaRfR
import Derived.Test.YtmoeljieafninaaRRk
import Derived.Test.YtmoeljieafninaaRLc
import Derived.Deep.Cut
namespace Go.Proofs.Ytmoeljieafninaa
open Go.RowKit Go.ChangeShapes Go.WideShapes Go.ChangeAt
set_option linter.unusedVariables false
set_option linter.unusedSimpArgs false
set_option maxRecDepth 100000
theorem Kf.ou {r : Nat} {w w' : World} (h : Kf r w w') : Ou (fun k => k = r) w w' := ⟨h.os, h.tape, h.output, h.size, fun k hk hn => h.block k hk hn⟩
theorem IsRK.upd1 {w : World} {g : Nat} {F : Nat → Tk} (h : IsRK w g F) (t : Tk) : IsRK ((((w.setCell ⟨g, 4, none⟩ (.int .i64 t.st)).setCell ⟨g, 5, none⟩ (.int .u32 t.ep)).setCell ⟨g, 6, none⟩ (.int .u32 t.num)).setCell ⟨g, 7, none⟩ (.string t.body)) g (updK F 1 t) :=
  row_set 7 _ (row_set 6 _ (row_set 5 _ (row_set 4 _ h)))
theorem IsRK.upd2 {w : World} {g : Nat} {F : Nat → Tk} (h : IsRK w g F) (t : Tk) : IsRK ((((w.setCell ⟨g, 8, none⟩ (.int .i64 t.st)).setCell ⟨g, 9, none⟩ (.int .u32 t.ep)).setCell ⟨g, 10, none⟩ (.int .u32 t.num)).setCell ⟨g, 11, none⟩ (.string t.body)) g (updK F 2 t) :=
  row_set 11 _ (row_set 10 _ (row_set 9 _ (row_set 8 _ h)))
theorem IsRK.upd3 {w : World} {g : Nat} {F : Nat → Tk} (h : IsRK w g F) (t : Tk) : IsRK ((((w.setCell ⟨g, 12, none⟩ (.int .i64 t.st)).setCell ⟨g, 13, none⟩ (.int .u32 t.ep)).setCell ⟨g, 14, none⟩ (.int .u32 t.num)).setCell ⟨g, 15, none⟩ (.string t.body)) g (updK F 3 t) :=
  row_set 15 _ (row_set 14 _ (row_set 13 _ (row_set 12 _ h)))
/-- The reader as it stands: bad, and what is left. -/
abbrev Rs := Bool × List Int
def nuV (s : Rs) (k : Nat) : Int := if s.1 = false ∧ k ≤ s.2.length then numF (s.2.take k) else 0
def nuS (s : Rs) (k : Nat) : Rs := if s.1 = false ∧ k ≤ s.2.length then (false, s.2.drop k) else (true, s.2)
theorem nu_c {w : World} {r : Nat} {s : Rs} (h : RdR w r s.1 s.2) (k : Nat) (hk0 : 1 ≤ k) (hk : k ≤ 8) :
    Calls Try.prog 19 #[.pointer (some ⟨r, 0, none⟩), .int .i64 k] w fun e w' => e = .returned (.int .u64 (nuV s k)) ∧ RdR w' r (nuS s k).1 (nuS s k).2 ∧ Ou (fun k => k = r) w w' := by
  refine (rdNumber_c h k hk0 hk).mono ?_
  rintro e w' ⟨hk, hp⟩
  unfold nuV nuS
  split at hp
  · rename_i hc
    rw [if_pos hc, if_pos hc]
    exact ⟨hp.1, hp.2, hk.ou⟩
  · rename_i hc
    rw [if_neg hc, if_neg hc]
    exact ⟨hp.1, hp.2, hk.ou⟩
def taL (s : Rs) (n : Nat) : List Int := if s.1 = false ∧ n ≤ s.2.length then s.2.take n else []
def taS (s : Rs) (n : Nat) : Rs := if s.1 = false ∧ n ≤ s.2.length then (false, s.2.drop n) else (true, s.2)
theorem ta_c {w : World} {r : Nat} {s : Rs} (h : RdR w r s.1 s.2) (n : Nat) (hn : n < 70000) :
    Calls Try.prog 20 #[.pointer (some ⟨r, 0, none⟩), .int .i64 n] w fun e w' => ∃ p m c, e = .returned (.slice p m c) ∧ IsB w' p m (taL s n) ∧ RdR w' r (taS s n).1 (taS s n).2 ∧ Ou (fun k => k = r) w w' := by
  refine (rdTake_c h n hn).mono ?_
  rintro e w' ⟨hk, hp⟩
  unfold taL taS
  split at hp
  · rename_i hc
    rw [if_pos hc, if_pos hc]
    obtain ⟨⟨p, c, h1, h2⟩, h3⟩ := hp
    exact ⟨p, n, c, h1, h2, h3, hk.ou⟩
  · rename_i hc
    rw [if_neg hc, if_neg hc]
    exact ⟨none, 0, 0, hp.1, ⟨rfl, Nat.zero_le _, fun h => absurd h (by omega), fun i => by simp⟩, hp.2, hk.ou⟩
theorem RdR.bytes {w : World} {r : Nat} {bd : Bool} {zs : List Int} (h : RdR w r bd zs) : ∀ i, 0 ≤ zs.getD i 0 ∧ zs.getD i 0 ≤ 255 := by
  obtain ⟨a, len, c, h1, h2, h3⟩ := h
  exact h2.2.2.2
theorem RdR.cells {w : World} {r : Nat} {bd : Bool} {zs : List Int} (h : RdR w r bd zs) : ∃ a c, w.cell? ⟨r, 0, none⟩ = some (.slice a zs.length c) ∧ w.cell? ⟨r, 1, none⟩ = some (.bool bd) ∧ w.frozen? ⟨r, 0, none⟩ = false ∧ w.frozen? ⟨r, 1, none⟩ = false := by
  obtain ⟨a, len, c, h1, h2, h3⟩ := h
  obtain ⟨c0, c1, f0, f1⟩ := cellsF h1
  exact ⟨a, c, by rw [c0, h2.1], c1, f0, f1⟩
theorem RdR.out {S : Nat → Prop} {w w' : World} {r : Nat} {bd : Bool} {zs : List Int} (h : RdR w r bd zs) (ho : Ou S w w') (hS : ∀ k, S k → r < k) : RdR w' r bd zs := by
  have hrl := h.lt
  obtain ⟨a, len, c, h1, h2, h3, h4⟩ := h
  refine ⟨a, len, c, (ho.block r (lt_blkF h1) (fun e => by have := hS r e; omega)).trans h1, ?_, h3, h4⟩
  rcases h4 with ⟨rfl, _⟩ | ⟨b, off, rfl, hb⟩
  · exact isB_noneF _ _ h2
  · exact isB_blkF h2 (ho.block b (by omega) (fun e => by have := hS b e; omega))
theorem nuV_bd (s : Rs) (hz : ∀ i, 0 ≤ s.2.getD i 0 ∧ s.2.getD i 0 ≤ 255) (k : Nat) : 0 ≤ nuV s k ∧ nuV s k < 256 ^ k := by
  unfold nuV
  split
  · rename_i hc
    exact numF_bd s.2 hz k hc.2
  · exact ⟨Int.le_refl _, by have : (0 : Int) < 256 ^ k := Int.pow_pos (by decide); exact this⟩
theorem nuS_bd (s : Rs) (hz : ∀ i, 0 ≤ s.2.getD i 0 ∧ s.2.getD i 0 ≤ 255) (k : Nat) : ∀ i, 0 ≤ (nuS s k).2.getD i 0 ∧ (nuS s k).2.getD i 0 ≤ 255 := by
  unfold nuS
  split
  · exact byte_drop hz k
  · exact hz
/-- Where the reader stands behind j clients. -/
def LS (zs : List Int) (j : Nat) (s : Rs) (F : Nat → Tk) : Prop := s.1 = true ∧ ldK zs = none ∨ s.1 = false ∧ ldR j zs = some (s.2, F)
theorem ldR_zero {zs : List Int} : ∀ (j : Nat) {ys : List Int} {F : Nat → Tk}, ldR j zs = some (ys, F) → ∀ k, j < k → F k = ⟨0, 0, 0, ⟨#[]⟩⟩
  | 0, ys, F, h => by cases h; intro k _; rfl
  | j + 1, ys, F, h => by
    rcases h1 : ldR j zs with _ | ⟨xs, G⟩
    · rw [ldR_none h1] at h; cases h
    rcases h2 : ldT xs with _ | ⟨t, n⟩
    · rw [ldR_stop h1 h2] at h; cases h
    rw [ldR_next h1 h2] at h
    cases h
    intro k hk
    unfold updK
    rw [if_neg (by omega)]
    exact ldR_zero j h1 k (by omega)
theorem one_num (ys : List Int) (h : 1 ≤ ys.length) : numF (ys.take 1) = ys.getD 0 0 := by
  rw [take_one ys (by omega)]; simp [numF]
theorem ls_zero {zs : List Int} {j : Nat} {s : Rs} {F : Nat → Tk} (hj : j < 3) (h : LS zs j s F) (hv : nuV s 1 = 0) : LS zs (j + 1) (nuS s 1) F := by
  rcases h with ⟨h1, h2⟩ | ⟨h1, h2⟩
  · left
    refine ⟨?_, h2⟩
    unfold nuS
    rw [if_neg (by rw [h1]; simp)]
  · unfold nuV at hv
    unfold nuS
    by_cases hl : 1 ≤ s.2.length
    · rw [if_pos ⟨h1, hl⟩, one_num _ hl] at hv
      rw [if_pos ⟨h1, hl⟩]
      right
      refine ⟨rfl, ?_⟩
      have ht : ldT s.2 = some (⟨0, 0, 0, ⟨#[]⟩⟩, 1) := by unfold ldT; rw [if_neg (by omega), if_pos hv]
      rw [ldR_next h2 ht]
      congr 2
      funext k
      unfold updK
      split
      · rename_i e; rw [e]; exact (ldR_zero j h2 (j + 1) (by omega)).symm
      · rfl
    · rw [if_neg (fun e => hl e.2)]
      left
      refine ⟨rfl, ldK_none (by omega) (ldR_stop h2 ?_)⟩
      unfold ldT
      rw [if_pos (by omega)]
theorem ls_ne {zs : List Int} {j : Nat} {s : Rs} {F : Nat → Tk} (h : LS zs j s F) (hv : nuV s 1 ≠ 0) : s.1 = false ∧ ldR j zs = some (s.2, F) ∧ 1 ≤ s.2.length ∧ s.2.getD 0 0 = nuV s 1 ∧ nuS s 1 = (false, s.2.drop 1) := by
  have hs : s.1 = false ∧ 1 ≤ s.2.length := by
    by_cases hc : s.1 = false ∧ 1 ≤ s.2.length
    · exact hc
    · exfalso; apply hv; unfold nuV; rw [if_neg hc]
  refine ⟨hs.1, ?_, hs.2, ?_, ?_⟩
  · rcases h with ⟨h1, h2⟩ | ⟨h1, h2⟩
    · rw [hs.1] at h1; cases h1
    · exact h2
  · unfold nuV; rw [if_pos hs, one_num _ hs.2]
  · unfold nuS; rw [if_pos hs]
theorem ls_big {zs : List Int} {j : Nat} {s : Rs} {F : Nat → Tk} (hj : j < 3) (h : LS zs j s F) (hv : 2 < nuV s 1) : LS zs (j + 1) (true, (nuS s 1).2) F := by
  obtain ⟨h1, h2, h3, h4, h5⟩ := ls_ne h (by omega)
  left
  refine ⟨rfl, ldK_none (by omega) (ldR_stop h2 ?_)⟩
  unfold ldT
  rw [if_neg (by omega), if_neg (by omega), if_neg (by omega), if_neg (by omega)]
/-- The reader is bad, if a number is nought. -/
def nzS (q : Int) (s : Rs) : Rs := if q = 0 then (true, s.2) else s
def bgS (n : Int) (s : Rs) : Rs := if 16384 < n then (true, s.2) else s
theorem nuS_bad {s : Rs} (h : s.1 = true) (k : Nat) : nuS s k = (true, s.2) := by unfold nuS; rw [if_neg (by rw [h]; simp)]
theorem nuS_short {s : Rs} (k : Nat) (h : s.2.length < k) : nuS s k = (true, s.2) := by unfold nuS; rw [if_neg (fun e => by omega)]
theorem nuS_ok {s : Rs} (h1 : s.1 = false) {k : Nat} (h : k ≤ s.2.length) : nuS s k = (false, s.2.drop k) ∧ nuV s k = numF (s.2.take k) := by unfold nuS nuV; rw [if_pos ⟨h1, h⟩, if_pos ⟨h1, h⟩]; exact ⟨rfl, rfl⟩
theorem nzS_bad {s : Rs} (h : s.1 = true) (q : Int) : (nzS q s).1 = true := by
  unfold nzS
  split
  · rfl
  · exact h
/-- Two numbers of four bytes. -/
theorem two_nums (ys : List Int) : (ys.length < 8 → (nuS (nuS (false, ys) 4) 4).1 = true) ∧ (8 ≤ ys.length → nuV (false, ys) 4 = numF (sbF ys 0 4) ∧ nuV (nuS (false, ys) 4) 4 = numF (sbF ys 4 4) ∧ nuS (nuS (false, ys) 4) 4 = (false, ys.drop 8)) := by
  constructor
  · intro h
    by_cases h4 : 4 ≤ ys.length
    · rw [(nuS_ok (s := (false, ys)) rfl (k := 4) h4).1, nuS_short 4 (by show (ys.drop 4).length < 4; rw [List.length_drop]; omega)]
    · rw [nuS_short (s := (false, ys)) 4 (by show ys.length < 4; omega), nuS_bad rfl]
  · intro h
    obtain ⟨a1, a2⟩ := nuS_ok (s := (false, ys)) rfl (k := 4) (by show 4 ≤ ys.length; omega)
    obtain ⟨b1, b2⟩ := nuS_ok (s := (false, ys.drop 4)) rfl (k := 4) (by show 4 ≤ (ys.drop 4).length; rw [List.length_drop]; omega)
    rw [a1, a2, b1, b2]
    refine ⟨rfl, rfl, ?_⟩
    show (false, (ys.drop 4).drop 4) = _
    rw [List.drop_drop]
theorem sb_drop (ys : List Int) (i k m : Nat) : sbF (ys.drop i) k m = sbF ys (i + k) m := by unfold sbF; rw [List.drop_drop]
theorem ls_one {zs : List Int} {j : Nat} {s : Rs} {F : Nat → Tk} (hj : j < 3) (h : LS zs j s F) (hv : nuV s 1 = 1) :
    LS zs (j + 1) (nzS (nuV (nuS (nuS s 1) 4) 4) (nuS (nuS (nuS s 1) 4) 4)) (updK F (j + 1) ⟨1, nuV (nuS s 1) 4, nuV (nuS (nuS s 1) 4) 4, ⟨#[]⟩⟩) := by
  obtain ⟨h1, h2, h3, h4, h5⟩ := ls_ne h (by omega)
  rw [h5]
  obtain ⟨t1, t2⟩ := two_nums (s.2.drop 1)
  by_cases hl : 9 ≤ s.2.length
  · obtain ⟨e1, e2, e3⟩ := t2 (by rw [List.length_drop]; omega)
    rw [e1, e2, e3, sb_drop, sb_drop]
    unfold nzS
    by_cases hq : numF (sbF s.2 (1 + 4) 4) = 0
    · rw [if_pos hq]
      left
      refine ⟨rfl, ldK_none (by omega) (ldR_stop h2 ?_)⟩
      unfold ldT
      rw [if_neg (by omega), if_neg (by omega), if_pos (by omega), if_neg (by omega), if_pos hq]
    · rw [if_neg hq]
      right
      refine ⟨rfl, ?_⟩
      have ht : ldT s.2 = some (⟨1, numF (sbF s.2 1 4), numF (sbF s.2 5 4), ⟨#[]⟩⟩, 9) := by
        unfold ldT
        rw [if_neg (by omega), if_neg (by omega), if_pos (by omega), if_neg (by omega), if_neg hq]
      rw [ldR_next h2 ht]
      show some (s.2.drop 9, _) = some ((s.2.drop 1).drop 8, _)
      rw [List.drop_drop]
  · left
    refine ⟨nzS_bad (t1 (by rw [List.length_drop]; omega)) _, ldK_none (by omega) (ldR_stop h2 ?_)⟩
    unfold ldT
    rw [if_neg (by omega), if_neg (by omega), if_pos (by omega), if_pos (by omega)]
theorem taS_bad {s : Rs} (h : s.1 = true) (n : Nat) : (taS s n).1 = true := by unfold taS; rw [if_neg (by rw [h]; simp)]
theorem bgS_bad {s : Rs} (h : s.1 = true) (n : Int) : (bgS n s).1 = true := by
  unfold bgS
  split
  · rfl
  · exact h
theorem ls_two {zs : List Int} {j : Nat} {s s3 s5 : Rs} {F : Nat → Tk} {e q n : Int} (hj : j < 3) (h : LS zs j s F) (hv : nuV s 1 = 2) (hz : ∀ i, 0 ≤ s.2.getD i 0 ∧ s.2.getD i 0 ≤ 255)
    (he : e = nuV (nuS s 1) 4) (hq : q = nuV (nuS (nuS s 1) 4) 4) (h3 : s3 = nzS q (nuS (nuS (nuS s 1) 4) 4)) (hn : n = nuV s3 2) (h5 : s5 = bgS n (nuS s3 2)) :
    LS zs (j + 1) (taS s5 n.toNat) (updK F (j + 1) ⟨2, e, q, Fr.tx (taL s5 n.toNat)⟩) := by
  obtain ⟨h1, h2, hl1, h4, hs0⟩ := ls_ne h (by omega)
  rw [hs0] at he hq h3
  obtain ⟨t1, t2⟩ := two_nums (s.2.drop 1)
  have bad : s3.1 = true → s5.1 = true := fun hb => by rw [h5, nuS_bad hb]; exact bgS_bad rfl _
  by_cases hl : 9 ≤ s.2.length
  · obtain ⟨e1, e2, e3⟩ := t2 (by rw [List.length_drop]; omega)
    rw [e1, sb_drop] at he
    rw [e2, sb_drop] at hq
    rw [e3, List.drop_drop] at h3
    by_cases hl2 : 11 ≤ s.2.length
    · by_cases hq0 : q = 0
      · have hb : s3.1 = true := by rw [h3]; unfold nzS; rw [if_pos hq0]
        left
        refine ⟨taS_bad (bad hb) _, ldK_none (by omega) (ldR_stop h2 ?_)⟩
        unfold ldT
        rw [if_neg (by omega), if_neg (by omega), if_neg (by omega), if_pos (by omega), if_neg (by omega)]
        split
        · rfl
        · rw [if_pos (by rw [← hq0, hq])]
      · have e3' : s3 = (false, s.2.drop 9) := by rw [h3]; unfold nzS; rw [if_neg hq0]
        obtain ⟨a1, a2⟩ := nuS_ok (s := s3) (by rw [e3']) (k := 2) (by rw [e3']; show 2 ≤ (s.2.drop 9).length; rw [List.length_drop]; omega)
        rw [a2, e3'] at hn
        have hn' : n = numF (sbF s.2 9 2) := hn
        have hnb := numF_bd (sbF s.2 9 2) (byte_sb hz 9 2) 2 (by rw [sbF_len _ _ _ (by omega)]; exact Nat.le_refl _)
        rw [List.take_of_length_le (by rw [sbF_len _ _ _ (by omega)]; exact Nat.le_refl _)] at hnb
        rw [a1, e3'] at h5
        have h5' : s5 = bgS n (false, s.2.drop 11) := by rw [h5]; show bgS n (false, (s.2.drop 9).drop 2) = _; rw [List.drop_drop]
        have hnt : (numF (sbF s.2 9 2)).toNat = n.toNat := by rw [hn']
        by_cases hbig : 16384 < n
        · have hb : s5.1 = true := by rw [h5']; unfold bgS; rw [if_pos hbig]
          left
          refine ⟨taS_bad hb _, ldK_none (by omega) (ldR_stop h2 ?_)⟩
          unfold ldT
          rw [if_neg (by omega), if_neg (by omega), if_neg (by omega), if_pos (by omega), if_neg (by omega), hnt]
          split
          · rfl
          · rw [if_neg (by rw [← show q = numF (sbF s.2 5 4) from hq]; exact hq0), if_pos (by omega)]
        · have e5 : s5 = (false, s.2.drop 11) := by rw [h5']; unfold bgS; rw [if_neg hbig]
          by_cases hfit : 11 + n.toNat ≤ s.2.length
          · have hok : s5.1 = false ∧ n.toNat ≤ s5.2.length := by rw [e5]; exact ⟨rfl, by show n.toNat ≤ (s.2.drop 11).length; rw [List.length_drop]; omega⟩
            right
            unfold taS taL
            rw [if_pos hok, if_pos hok, e5]
            refine ⟨rfl, ?_⟩
            have ht : ldT s.2 = some (⟨2, numF (sbF s.2 1 4), numF (sbF s.2 5 4), Fr.tx (sbF s.2 11 n.toNat)⟩, 11 + n.toNat) := by
              unfold ldT
              rw [if_neg (by omega), if_neg (by omega), if_neg (by omega), if_pos (by omega), if_neg (by omega), hnt, if_neg (by omega), if_neg (by rw [← show q = numF (sbF s.2 5 4) from hq]; exact hq0), if_neg (by omega)]
            rw [ldR_next h2 ht, he, hq]
            show some (s.2.drop (11 + n.toNat), _) = some ((s.2.drop 11).drop n.toNat, _)
            rw [List.drop_drop]
            rfl
          · have hno : ¬ (s5.1 = false ∧ n.toNat ≤ s5.2.length) := by rw [e5]; rintro ⟨_, hx⟩; have : n.toNat ≤ (s.2.drop 11).length := hx; rw [List.length_drop] at this; omega
            left
            unfold taS
            rw [if_neg hno]
            refine ⟨rfl, ldK_none (by omega) (ldR_stop h2 ?_)⟩
            unfold ldT
            rw [if_neg (by omega), if_neg (by omega), if_neg (by omega), if_pos (by omega), if_neg (by omega), hnt, if_pos (by omega)]
    · left
      have hb : s5.1 = true := by
        by_cases hq0 : q = 0
        · exact bad (by rw [h3]; unfold nzS; rw [if_pos hq0])
        · have e3' : s3 = (false, s.2.drop 9) := by rw [h3]; unfold nzS; rw [if_neg hq0]
          rw [h5, nuS_short 2 (by rw [e3']; show (s.2.drop 9).length < 2; rw [List.length_drop]; omega)]
          exact bgS_bad rfl _
      refine ⟨taS_bad hb _, ldK_none (by omega) (ldR_stop h2 ?_)⟩
      unfold ldT
      rw [if_neg (by omega), if_neg (by omega), if_neg (by omega), if_pos (by omega), if_pos (by omega)]
  · left
    have hb : s3.1 = true := by rw [h3]; exact nzS_bad (t1 (by rw [List.length_drop]; omega)) _
    refine ⟨taS_bad (bad hb) _, ldK_none (by omega) (ldR_stop h2 ?_)⟩
    unfold ldT
    rw [if_neg (by omega), if_neg (by omega), if_neg (by omega), if_pos (by omega), if_pos (by omega)]
end Go.Proofs.Ytmoeljieafninaa
