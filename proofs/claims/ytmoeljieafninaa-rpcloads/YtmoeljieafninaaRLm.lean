/-
  What bytes say of all clients; it is written as it was read.
-/
import Derived.Test.YtmoeljieafninaaRLd
namespace Go.Proofs.Ytmoeljieafninaa
open Go.RowKit Go.ChangeShapes Go.WideShapes Go.ChangeAt
set_option linter.unusedVariables false
set_option linter.unusedSimpArgs false
set_option maxRecDepth 100000
abbrev K0l : Nat → Tk := fun _ => ⟨0, 0, 0, ⟨#[]⟩⟩
/-- Behind j clients: the bytes that are left, and what was said. -/
def ldR : Nat → List Int → Option (List Int × (Nat → Tk))
  | 0, zs => some (zs, K0l)
  | j + 1, zs => match ldR j zs with
    | none => none
    | some (ys, F) => match ldT ys with
      | none => none
      | some (t, n) => some (ys.drop n, updK F (j + 1) t)
def ldK (zs : List Int) : Option (Nat → Tk) := match ldR 3 zs with
  | none => none
  | some (ys, F) => if ys.length = 0 then some F else none
theorem ldR_next {j : Nat} {zs ys : List Int} {F : Nat → Tk} (h : ldR j zs = some (ys, F)) {t : Tk} {n : Nat} (ht : ldT ys = some (t, n)) : ldR (j + 1) zs = some (ys.drop n, updK F (j + 1) t) := by
  show (match ldR j zs with | none => none | some (ys, F) => match ldT ys with | none => none | some (t, n) => some (ys.drop n, updK F (j + 1) t)) = _
  rw [h]
  show (match ldT ys with | none => none | some (t, n) => some (ys.drop n, updK F (j + 1) t)) = _
  rw [ht]
theorem ldR_stop {j : Nat} {zs ys : List Int} {F : Nat → Tk} (h : ldR j zs = some (ys, F)) (ht : ldT ys = none) : ldR (j + 1) zs = none := by
  show (match ldR j zs with | none => none | some (ys, F) => match ldT ys with | none => none | some (t, n) => some (ys.drop n, updK F (j + 1) t)) = _
  rw [h]
  show (match ldT ys with | none => none | some (t, n) => some (ys.drop n, updK F (j + 1) t)) = _
  rw [ht]
theorem ldR_none {j : Nat} {zs : List Int} (h : ldR j zs = none) : ldR (j + 1) zs = none := by
  show (match ldR j zs with | none => none | some (ys, F) => match ldT ys with | none => none | some (t, n) => some (ys.drop n, updK F (j + 1) t)) = _
  rw [h]
theorem ldK_none {j : Nat} {zs : List Int} (hj : j ≤ 3) (h : ldR j zs = none) : ldK zs = none := by
  have h3 : ldR 3 zs = none := by
    rcases j with _ | _ | _ | _ | j
    · cases h
    · exact ldR_none (ldR_none h)
    · exact ldR_none h
    · exact h
    · omega
  unfold ldK
  rw [h3]
theorem ldK_all {zs ys : List Int} {F : Nat → Tk} (h : ldR 3 zs = some (ys, F)) : ldK zs = if ys.length = 0 then some F else none := by
  unfold ldK
  rw [h]
theorem byte_sb {zs : List Int} (hz : ∀ i, 0 ≤ zs.getD i 0 ∧ zs.getD i 0 ≤ 255) (i m : Nat) : ∀ k, 0 ≤ (sbF zs i m).getD k 0 ∧ (sbF zs i m).getD k 0 ≤ 255 := fun k => by
  unfold sbF
  by_cases hk : k < m
  · have := hz (i + k)
    simpa [List.getD, List.getElem?_take, List.getElem?_drop, hk] using this
  · simp [List.getD, List.getElem?_take, hk]
theorem be4_num {l : List Int} (hl : l.length = 4) (hz : ∀ i, 0 ≤ l.getD i 0 ∧ l.getD i 0 ≤ 255) : be4 (numF l) = l ∧ 0 ≤ numF l ∧ numF l < 4294967296 := by
  match l, hl with
  | [a, b, c, d], _ =>
    have h0 := hz 0
    have h1 := hz 1
    have h2 := hz 2
    have h3 := hz 3
    simp only [List.getD_cons_zero, List.getD_cons_succ] at h0 h1 h2 h3
    have e : numF [a, b, c, d] = ((a * 256 + b) * 256 + c) * 256 + d := by simp [numF]
    rw [e]
    refine ⟨?_, by omega, by omega⟩
    unfold be4
    congr 1
    · omega
    congr 1
    · omega
    congr 1
    · omega
    congr 1
    omega
theorem be2_num {l : List Int} (hl : l.length = 2) (hz : ∀ i, 0 ≤ l.getD i 0 ∧ l.getD i 0 ≤ 255) : be2 (numF l) = l ∧ 0 ≤ numF l ∧ numF l < 65536 := by
  match l, hl with
  | [a, b], _ =>
    have h0 := hz 0
    have h1 := hz 1
    simp only [List.getD_cons_zero, List.getD_cons_succ] at h0 h1
    have e : numF [a, b] = a * 256 + b := by simp [numF]
    rw [e]
    refine ⟨?_, by omega, by omega⟩
    unfold be2
    congr 1
    · omega
    congr 1
    omega
theorem take_sb (zs : List Int) (i m : Nat) : zs.take (i + m) = zs.take i ++ sbF zs i m := by
  unfold sbF; rw [List.take_add]
theorem take_one (zs : List Int) (h : 0 < zs.length) : zs.take 1 = [zs.getD 0 0] := by
  match zs, h with
  | x :: t, _ => rfl
theorem mem_byte {l : List Int} (hz : ∀ i, 0 ≤ l.getD i 0 ∧ l.getD i 0 ≤ 255) : ∀ x ∈ l, 0 ≤ x ∧ x ≤ 255 := fun x hx => by
  obtain ⟨i, hi, rfl⟩ := List.getElem_of_mem hx
  have := hz i
  simpa [List.getD, hi] using this
/-- What was read is written the same; it is within its limits. -/
theorem ldT_back {zs : List Int} (hz : ∀ i, 0 ≤ zs.getD i 0 ∧ zs.getD i 0 ≤ 255) {t : Tk} {n : Nat} (h : ldT zs = some (t, n)) : t.Wf ∧ tkB t = zs.take n ∧ n ≤ zs.length := by
  unfold ldT at h
  split at h
  · cases h
  rename_i hl
  split at h
  · rename_i h0
    cases h
    refine ⟨⟨(show (0 : Int) ≤ 0 ∧ (0 : Int) ≤ 2 by decide), (show (0 : Int) ≤ 0 ∧ (0 : Int) < 4294967296 by decide), (show (0 : Int) ≤ 0 ∧ (0 : Int) < 4294967296 by decide), (show (⟨#[]⟩ : ByteArray).size ≤ 16384 by decide)⟩, ?_, by omega⟩
    rw [take_one zs (by omega), h0]; rfl
  split at h
  · rename_i h1
    split at h
    · cases h
    rename_i hl9
    split at h
    · cases h
    cases h
    have a1 := be4_num (sbF_len zs 1 4 (by omega)) (byte_sb hz 1 4)
    have a5 := be4_num (sbF_len zs 5 4 (by omega)) (byte_sb hz 5 4)
    refine ⟨⟨(show (0 : Int) ≤ 1 ∧ (1 : Int) ≤ 2 by decide), a1.2, a5.2, (show (⟨#[]⟩ : ByteArray).size ≤ 16384 by decide)⟩, ?_, by omega⟩
    unfold tkB
    simp only
    rw [if_neg (by decide), if_pos (by first | rfl | trivial), a1.1, a5.1]
    rw [show zs.take 9 = zs.take (5 + 4) from rfl, take_sb zs 5 4, show zs.take 5 = zs.take (1 + 4) from rfl, take_sb zs 1 4, take_one zs (by omega), h1]
    simp
  split at h
  · rename_i h2
    split at h
    · cases h
    rename_i hl11
    split at h
    · cases h
    rename_i hfit
    split at h
    · cases h
    split at h
    · cases h
    rename_i hbig
    cases h
    have a1 := be4_num (sbF_len zs 1 4 (by omega)) (byte_sb hz 1 4)
    have a5 := be4_num (sbF_len zs 5 4 (by omega)) (byte_sb hz 5 4)
    have a9 := be2_num (sbF_len zs 9 2 (by omega)) (byte_sb hz 9 2)
    obtain ⟨m, hm⟩ : ∃ m, m = (numF (sbF zs 9 2)).toNat := ⟨_, rfl⟩
    have hmi : numF (sbF zs 9 2) = (m : Int) := by omega
    rw [← hm] at hfit hbig ⊢
    have hsz : (Fr.tx (sbF zs 11 m)).size = m := by rw [Fr.tx_size, sbF_len zs 11 m (by omega)]
    refine ⟨⟨(show (0 : Int) ≤ 2 ∧ (2 : Int) ≤ 2 by decide), a1.2, a5.2, ?_⟩, ?_, by omega⟩
    · show (Fr.tx (sbF zs 11 m)).size ≤ 16384
      rw [hsz]; omega
    unfold tkB
    simp only
    rw [if_neg (by decide), if_neg (by decide), a1.1, a5.1, hsz, ← hmi, a9.1, Fr.bs_tx _ (mem_byte (byte_sb hz 11 m))]
    rw [take_sb zs 11 m, show zs.take 11 = zs.take (9 + 2) from rfl, take_sb zs 9 2, show zs.take 9 = zs.take (5 + 4) from rfl, take_sb zs 5 4, show zs.take 5 = zs.take (1 + 4) from rfl, take_sb zs 1 4, take_one zs (by omega), h2]
    simp
  · cases h
theorem byte_drop {zs : List Int} (hz : ∀ i, 0 ≤ zs.getD i 0 ∧ zs.getD i 0 ≤ 255) (n : Nat) : ∀ i, 0 ≤ (zs.drop n).getD i 0 ∧ (zs.drop n).getD i 0 ≤ 255 := fun i => by
  have := hz (n + i)
  simpa [List.getD, List.getElem?_drop] using this
theorem ldR_wf {zs : List Int} (hz : ∀ i, 0 ≤ zs.getD i 0 ∧ zs.getD i 0 ≤ 255) : ∀ (j : Nat) {ys : List Int} {F : Nat → Tk}, ldR j zs = some (ys, F) → (∀ i, (F i).Wf) ∧ ∀ i, 0 ≤ ys.getD i 0 ∧ ys.getD i 0 ≤ 255
  | 0, ys, F, h => by
    cases h
    exact ⟨fun i => ⟨(show (0 : Int) ≤ 0 ∧ (0 : Int) ≤ 2 by decide), (show (0 : Int) ≤ 0 ∧ (0 : Int) < 4294967296 by decide), (show (0 : Int) ≤ 0 ∧ (0 : Int) < 4294967296 by decide), (show (⟨#[]⟩ : ByteArray).size ≤ 16384 by decide)⟩, hz⟩
  | j + 1, ys, F, h => by
    rcases h1 : ldR j zs with _ | ⟨xs, G⟩
    · rw [ldR_none h1] at h; cases h
    · obtain ⟨i1, i2⟩ := ldR_wf hz j h1
      rcases h2 : ldT xs with _ | ⟨t, n⟩
      · rw [ldR_stop h1 h2] at h; cases h
      · rw [ldR_next h1 h2] at h
        cases h
        obtain ⟨b1, b2, b3⟩ := ldT_back i2 h2
        refine ⟨fun i => ?_, byte_drop i2 n⟩
        unfold updK
        split
        · exact b1
        · exact i1 i
theorem ldR_back {zs : List Int} (hz : ∀ i, 0 ≤ zs.getD i 0 ∧ zs.getD i 0 ≤ 255) {ys : List Int} {F : Nat → Tk} (h : ldR 3 zs = some (ys, F)) : zs = keB F ++ ys := by
  rcases h1 : ldR 1 zs with _ | ⟨xs, G⟩
  · rw [ldR_none (ldR_none h1)] at h; cases h
  rcases h2 : ldR 2 zs with _ | ⟨us, G2⟩
  · rw [ldR_none h2] at h; cases h
  have w1 := (ldR_wf hz 1 h1).2
  have w2 := (ldR_wf hz 2 h2).2
  rcases q1 : ldT zs with _ | ⟨t1, n1⟩
  · rw [ldR_stop (j := 0) rfl q1] at h1; cases h1
  rw [ldR_next (j := 0) rfl q1] at h1
  cases h1
  rcases q2 : ldT (zs.drop n1) with _ | ⟨t2, n2⟩
  · rw [ldR_stop (ldR_next (j := 0) rfl q1) q2] at h2; cases h2
  rw [ldR_next (ldR_next (j := 0) rfl q1) q2] at h2
  cases h2
  rcases q3 : ldT ((zs.drop n1).drop n2) with _ | ⟨t3, n3⟩
  · rw [ldR_stop (ldR_next (ldR_next (j := 0) rfl q1) q2) q3] at h; cases h
  rw [ldR_next (ldR_next (ldR_next (j := 0) rfl q1) q2) q3] at h
  cases h
  have r1 := (ldT_back hz q1).2.1
  have r2 := (ldT_back w1 q2).2.1
  have r3 := (ldT_back w2 q3).2.1
  show zs = (tkB t1 ++ tkB t2 ++ tkB t3) ++ _
  rw [r1, r2, r3, List.append_assoc, List.take_append_drop, List.append_assoc, List.take_append_drop, List.take_append_drop]
theorem ldK_back {zs : List Int} (hz : ∀ i, 0 ≤ zs.getD i 0 ∧ zs.getD i 0 ≤ 255) {F : Nat → Tk} (h : ldK zs = some F) : keB F = zs ∧ ∀ i, (F i).Wf := by
  rcases h3 : ldR 3 zs with _ | ⟨ys, G⟩
  · rw [ldK_none (Nat.le_refl _) h3] at h; cases h
  rw [ldK_all h3] at h
  split at h
  · rename_i hl
    cases h
    have := ldR_back hz h3
    have hy : ys = [] := List.eq_nil_of_length_eq_zero hl
    rw [hy, List.append_nil] at this
    exact ⟨this.symm, (ldR_wf hz 3 h3).1⟩
  · cases h
end Go.Proofs.Ytmoeljieafninaa
