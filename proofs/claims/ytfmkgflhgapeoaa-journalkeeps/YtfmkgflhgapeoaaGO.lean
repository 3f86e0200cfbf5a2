/-
  What the statement on torn journals whose last sector is kept asks: what two Torns leave, journals beside one another, numbers in a row.
-/
import Derived.Test.YtfmkgflhgapeoaaGN
namespace Go.Proofs.Ytfmkgflhgapeoaa
open Go.RowKit Go.ChangeShapes Go.WideShapes Go.ChangeAt Go.Maps
set_option linter.unusedVariables false
set_option linter.unusedSimpArgs false
/-- A journal stays where another one's maps turn. -/
theorem IsJ.far {w w' : World} {j d b1 b2 N d' p1 p2 M : Nat} {on on' : Int → Sec} {c c' : Int → Option Sec} (h : IsJ w j d b1 b2 N on c) (h' : IsD w d' p1 p2 M on' c') (ho : Out (fun k => k = p1 ∨ k = p2) w w') (h1 : b1 ≠ p1 ∧ b1 ≠ p2) (h2 : b2 ≠ p1 ∧ b2 ≠ p2) : IsJ w' j d b1 b2 N on c := by
  refine ⟨row_disk h.1 h' ho, h.2.1.out ho (fun e => ?_) (fun e => by omega) (fun e => by omega), h.2.2⟩
  have hd := h.2.1.1
  have hk := kc_disk h' ho
  obtain ⟨⟨es, cl, q2⟩, es', cl', q1⟩ := h'.mapAt
  rcases e with e | e
  · rw [e, q1] at hd; cases hd
  · rw [e, q2] at hd; cases hd
theorem torn_all {v on : Int → Sec} {N : Nat} {g : Jo.Gr} {zs : List Int} (hz : ∀ k : Nat, k < N → (k : Int) ∈ zs) (k : Nat) (hk : k < N) : tornAF v on N g 1 zs (k : Int) = added v N g (k : Int) ∧ tornRF v on N g 1 zs (k : Int) = setTo v N g (k : Int) := by
  have h := hz k hk
  have e : ∀ a b c : Int → Sec, tornF 1 zs a b c (k : Int) = if (k : Int) ∈ zs then c (k : Int) else b (k : Int) := fun a b c => by unfold tornF; simp
  unfold tornAF tornRF
  rw [e, e, if_pos h, if_pos h]
  exact ⟨rfl, rfl⟩
theorem torn_nil0 (v on : Int → Sec) (N : Nat) (g : Jo.Gr) : tornAF v on N g 0 [] = on ∧ tornRF v on N g 0 [] = on := by
  unfold tornAF tornRF tornF
  rw [if_pos rfl, if_pos rfl]
  exact ⟨by funext i; simp, by funext i; simp⟩
/-- What a deed answers, by whether it resets. -/
def outK (rs : Bool) (v : Int → Sec) (N : Nat) (g : Jo.Gr) : Int := if rs then outR v N g else outA v N g
def newK (rs : Bool) (L : List Jo.Gr) (g : Jo.Gr) : List Jo.Gr := if rs then [g] else L ++ [g]
/-- What a deed leaves: groups, the new ones if it was done. -/
def KeepPost (j d b1 b2 N : Nat) (nn : Int) (M : List Jo.Gr) (w : World) (e : Ending) (w' : World) : Prop :=
  e = .returned (.int .i64 nn) ∧ (∃ on' L' k' t', IsJ w' j d b1 b2 N on' (fun _ => none) ∧ Held on' N k' t' L' ∧ (nn = 0 → L' = M)) ∧ Out (fun k => k = b1 ∨ k = b2) w w'
theorem keep_of {j d b1 b2 N k : Nat} {t : Int} {on : Int → Sec} {L M : List Jo.Gr} {nn : Int} {F : Int → Sec} {w w' : World} {e : Ending} (hH : Held on N k t L) (h : PS j d b1 b2 N on (fun _ => none) nn F w e w') (hF : nn = 0 → ∃ k' t', Held F N k' t' M) : KeepPost j d b1 b2 N nn M w e w' := by
  obtain ⟨he, ⟨on', c', hJ, hcase⟩, ho⟩ := h
  refine ⟨he, ?_, ho⟩
  rcases hcase with ⟨h0, rfl, rfl⟩ | ⟨h0, rfl, rfl⟩
  · exact ⟨_, L, k, t, hJ, hH, fun e => absurd e h0⟩
  · obtain ⟨k', t', h1⟩ := hF h0
    exact ⟨_, M, k', t', hJ, h1, fun _ => rfl⟩
theorem keep_torn {w : World} {j d b1 b2 N k : Nat} {t : Int} {on : Int → Sec} {L : List Jo.Gr} (h : IsJ w j d b1 b2 N on (fun _ => none)) (hH : Held on N k t L) (q : Option Addr) (m p : Nat) (g : Jo.Gr) (hG : IsG0 w q m g) (rs : Bool) (a : Option Addr) (len cap : Nat) (zs : List Int) (hZ : IsZ w a len zs) (hz : ∀ k : Nat, k < N → (k : Int) ∈ zs) :
    Calls Try.prog 19 #[pB j, .slice q m p, .bool rs, .int .i64 1, .slice a len cap] w (KeepPost j d b1 b2 N (outK rs on N g) (newK rs L g) w) := by
  have hs : ∀ i, Jo.Sct (on i) := fun i => h.2.1.sec i
  cases rs with
  | false =>
    refine (torn_a1 h q m p _ hG a len cap zs hZ).mono fun e w' hp => keep_of hH (ps_torn h hp) fun h0 => ?_
    obtain ⟨ho, hr⟩ := outA_zero h0
    exact ⟨_, _, (hH.added hs ho (hH.room hs hr)).cong h.2.2 fun k hk => (torn_all hz k hk).1⟩
  | true =>
    refine (torn_r1 h q m p _ hG a len cap zs hZ).mono fun e w' hp => keep_of hH (ps_tornR h hp) fun h0 => ?_
    obtain ⟨ho, hr, ht⟩ := outR_zero h0
    rw [hH.bst] at ht
    exact ⟨_, _, (hH.setTo h.2.2 hs ht ho hr).cong h.2.2 fun k hk => (torn_all hz k hk).2⟩
theorem keep_none {w : World} {j d b1 b2 N : Nat} {on : Int → Sec} (h : IsJ w j d b1 b2 N on (fun _ => none)) (q : Option Addr) (m p : Nat) (g : Jo.Gr) (hG : IsG0 w q m g) (rs : Bool) :
    Calls Try.prog 19 #[pB j, .slice q m p, .bool rs, .int .i64 0, .slice none 0 0] w fun e w' => e = .returned (.int .i64 (outK rs on N g)) ∧ IsJ w' j d b1 b2 N on (fun _ => none) ∧ Out (fun k => k = b1 ∨ k = b2) w w' := by
  have fin : ∀ (n : Int) (F : Int → Sec) (e : Ending) (w' : World), F = on → PS j d b1 b2 N on (fun _ => none) n F w e w' → e = .returned (.int .i64 n) ∧ IsJ w' j d b1 b2 N on (fun _ => none) ∧ Out (fun k => k = b1 ∨ k = b2) w w' := fun n F e w' hF hp => by
    obtain ⟨he, ⟨on', c', hJ, hcase⟩, ho⟩ := hp
    refine ⟨he, ?_, ho⟩
    rcases hcase with ⟨h0, rfl, rfl⟩ | ⟨h0, rfl, rfl⟩
    · exact hJ
    · rw [← hF]; exact hJ
  cases rs with
  | false => exact (torn_a0 h q m p _ hG none 0 0 [] (isZ_none w)).mono fun e w' hp => fin _ _ e w' (torn_nil0 _ _ _ _).1 (ps_torn h hp)
  | true => exact (torn_r0 h q m p _ hG none 0 0 [] (isZ_none w)).mono fun e w' hp => fin _ _ e w' (torn_nil0 _ _ _ _).2 (ps_tornR h hp)
theorem keep_add {w : World} {j d b1 b2 N k : Nat} {t : Int} {on : Int → Sec} {L : List Jo.Gr} (h : IsJ w j d b1 b2 N on (fun _ => none)) (hH : Held on N k t L) (q : Option Addr) (m p : Nat) (g : Jo.Gr) (hG : IsG0 w q m g) :
    Calls Try.prog 16 #[pB j, .slice q m p] w (KeepPost j d b1 b2 N (outK false on N g) (newK false L g) w) := by
  have hs : ∀ i, Jo.Sct (on i) := fun i => h.2.1.sec i
  refine (append_c h q m p _ hG).mono fun e w' hp => keep_of hH (ps_add h hp) fun h0 => ?_
  obtain ⟨ho, hr⟩ := outA_zero h0
  exact ⟨_, _, hH.added hs ho (hH.room hs hr)⟩
theorem keep_set {w : World} {j d b1 b2 N k : Nat} {t : Int} {on : Int → Sec} {L : List Jo.Gr} (h : IsJ w j d b1 b2 N on (fun _ => none)) (hH : Held on N k t L) (q : Option Addr) (m p : Nat) (g : Jo.Gr) (hG : IsG0 w q m g) :
    Calls Try.prog 18 #[pB j, .slice q m p] w (KeepPost j d b1 b2 N (outK true on N g) (newK true L g) w) := by
  have hs : ∀ i, Jo.Sct (on i) := fun i => h.2.1.sec i
  refine (reset_c h q m p _ hG).mono fun e w' hp => keep_of hH (ps_set h hp) fun h0 => ?_
  obtain ⟨ho, hr, ht⟩ := outR_zero h0
  rw [hH.bst] at ht
  exact ⟨_, _, hH.setTo h.2.2 hs ht ho hr⟩
theorem keep_groups {w : World} {j d b1 b2 N k : Nat} {t : Int} {on : Int → Sec} {L : List Jo.Gr} (h : IsJ w j d b1 b2 N on (fun _ => none)) (hH : Held on N k t L) :
    Calls Try.prog 13 #[pB j] w fun e w' => (∃ a cap, e = .returned (.slice a L.length cap) ∧ IsGs w' a L.length L) ∧ Below w.heap.size w w' := by
  refine (groups_all_c h).mono fun e w' hp => ?_
  obtain ⟨v, he, hP, hb⟩ := hp
  have hgr : grps (vw on fun _ => none) N = L := hH.grps (fun i => h.2.1.sec i)
  rw [hgr] at hP
  obtain ⟨a, cap, hv, hI, _⟩ := hP.isGs (by have := hH.len; omega) hH.oks
  exact ⟨⟨a, cap, by rw [he, hv], hI⟩, hb⟩
/-- Numbers. -/
def zI (x : Int) : Value := .int .i64 x
theorem infoI : ∃ i : TypeInfo, Try.prog.info? 3 = some i ∧ i.zero = some (.int .i64 0) ∧ i.size = 1 ∧ i.bytes = 8 := by
  have h : (Try.prog.info? 3).map (fun i => (i.zero, i.size, i.bytes)) = some (some (.int .i64 0), 1, 8) := by kernel_rfl
  cases hi : Try.prog.info? 3 with
  | none => rw [hi] at h; cases h
  | some i => rw [hi] at h; simp at h; exact ⟨i, rfl, h.1, h.2.1, h.2.2⟩
theorem own_isZ {w : World} {base : Nat} {v : Value} {zs : List Int} (h : w.ownsRow base 3 1 v zs.length (zs.map zI)) (hz : ∀ x ∈ zs, 0 ≤ x ∧ x < 1000) : ∃ a cap, v = .slice a zs.length cap ∧ IsZ w a zs.length zs := by
  have hb : ∀ i, -9223372036854775808 ≤ zs.getD i 0 ∧ zs.getD i 0 < 9223372036854775808 := by
    intro i
    by_cases hi : i < zs.length
    · have : zs.getD i 0 ∈ zs := by simp [List.getD, hi]
      have := hz _ this
      omega
    · simp [List.getD, List.getElem?_eq_none (show zs.length ≤ i by omega)]
  rcases h.2 with ⟨hv, hn⟩ | ⟨g, cap, cur, rfl, hbs, hg, hn, hc, hs, ht⟩
  · have hv0 : zs = [] := List.eq_nil_of_length_eq_zero hn
    subst hv0
    exact ⟨none, 0, hv, rfl, Nat.zero_le _, fun h => absurd h (by simp), hb⟩
  · refine ⟨_, cap, rfl, rfl, Nat.le_trans hn hc, fun hp => ⟨g, 0, rfl, fun i hi => ?_⟩, hb⟩
    rw [Nat.zero_add, cell_of_row _ _ _ _ _ _ hg]
    have e : (cur.toList.take (zs.length * 1))[i]? = (zs.map zI)[i]? := by rw [ht]
    rw [List.getElem?_take, if_pos (by omega), List.getElem?_map, List.getElem?_eq_getElem hi] at e
    simp [List.getD, hi]
    simpa [zI] using e
end Go.Proofs.Ytfmkgflhgapeoaa
