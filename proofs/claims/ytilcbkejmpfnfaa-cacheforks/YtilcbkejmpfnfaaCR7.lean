/-
  The document's insert, List, Same, Dirty of caches.
-/
import Derived.Test.YtilcbkejmpfnfaaCDe
import Derived.Test.YtilcbkejmpfnfaaCWk
namespace Go.Proofs.Ytilcbkejmpfnfaa
open Go.RowKit Go.ChangeShapes Go.WideShapes Go.ChangeAt Go.Maps Go.Shelf
set_option linter.unusedVariables false
set_option linter.unusedSimpArgs false
set_option maxRecDepth 100000
/-- Is there one that is greater? -/
def plc (x : Int) (l : List Int) : Bool := l.any (fun y => decide (x < y))
theorem plc_snoc (x z : Int) (l : List Int) : plc x (l ++ [z]) = (plc x l || decide (x < z)) := by unfold plc; rw [List.any_append]; simp
theorem insF_none (x : Int) : ∀ l, plc x l = false → insF x l = l ++ [x]
  | [], _ => rfl
  | y :: l, h => by
    unfold plc at h
    rw [List.any_cons, Bool.or_eq_false_iff] at h
    unfold insF
    rw [if_neg (of_decide_eq_false h.1), insF_none x l h.2]; rfl
theorem insF_placed (x z : Int) : ∀ l, plc x l = true → insF x (l ++ [z]) = insF x l ++ [z]
  | [], h => by cases h
  | y :: l, h => by
    unfold plc at h
    rw [List.any_cons] at h
    show insF x (y :: (l ++ [z])) = insF x (y :: l) ++ [z]
    unfold insF
    by_cases q : x < y
    · rw [if_pos q, if_pos q]; rfl
    · rw [if_neg q, if_neg q]
      have : plc x l = true := by unfold plc; rw [decide_eq_false q] at h; simpa using h
      rw [insF_placed x z l this]; rfl
theorem insF_new (x z : Int) (hz : x < z) : ∀ l, plc x l = false → insF x (l ++ [z]) = l ++ [x] ++ [z]
  | [], _ => by show insF x [z] = _; unfold insF; rw [if_pos hz]; rfl
  | y :: l, h => by
    unfold plc at h
    rw [List.any_cons, Bool.or_eq_false_iff] at h
    show insF x (y :: (l ++ [z])) = _
    unfold insF
    rw [if_neg (of_decide_eq_false h.1), insF_new x z hz l h.2]; rfl
/-- What insert has behind the first m. -/
def insM (x : Int) (l : List Int) : List Int := if plc x l = true then insF x l else l
theorem insM_len (x : Int) (l : List Int) : (insM x l).length ≤ l.length + 1 := by
  unfold insM
  split
  · rw [len_insF]; exact Nat.le_refl _
  · omega
theorem take_snocD (us : List Int) {m : Nat} (h : m < us.length) : us.take (m + 1) = us.take m ++ [us.getD m 0] := by
  rw [List.take_add_one, List.getElem?_eq_getElem h]; simp [List.getD, List.getElem?_eq_getElem h]
def OwF (w : World) (base : Nat) (v : Value) (us : List Int) : Prop := w.ownsRow base 24 1 v us.length (us.map encF)
theorem OwF.rd {w : World} {base : Nat} {v : Value} {us : List Int} (h : OwF w base v us) : RdF w base v us := RdF.of_own h
theorem RdF.base {w : World} {b b' : Nat} {v : Value} {us : List Int} (h : RdF w b v us) (hb : b' ≤ b) : RdF w b' v us := by
  obtain ⟨a, cap, e, h1, h3⟩ := h
  refine ⟨a, cap, e, h1, fun hp => ?_⟩
  obtain ⟨g, off, cur, e1, e2, e3⟩ := h3 hp
  exact ⟨g, off, cur, e1, Nat.le_trans hb e2, e3⟩
theorem own_anyW {w : World} {base e size n : Nat} {v : Value} {xs : List Value} (h : w.ownsRow base e size v n xs) : ∃ a k cap, v = .slice a k cap := by
  obtain ⟨a, cap, e, _⟩ := own_shapeW h
  exact ⟨a, n, cap, e⟩
/-- One fid more. -/
theorem app_one {w W : World} {base : Nat} {v : Value} {us : List Int} {y : Int} (hO : OwF W base v us) (hB : Below w.heap.size w W) (hb : w.heap.size ≤ base) (hb2 : base ≤ W.heap.size) (hl : us.length ≤ 1000)
    {ops : Array Oper} {rest : List Oper} {o : Oper} {a : Act} {Q : Exit → Act → World → Prop} (hgd : o.guard = none) (s x : Operand)
    (ho : o.op = .call { callee := .builtin .append, args := #[s, x], argTypes := #[32, 32] }) (hs : a.eval s = v) (hx : a.eval x = .slice (some ⟨W.heap.size, 0, none⟩) 1 1)
    (h : ∀ v' w', OwF w' base v' (us ++ [y]) → Below w.heap.size w w' → Below base W w' → wpList Try.prog ops Q rest (a.put o.dst v') w') : wpList Try.prog ops Q (o :: rest) a (W.alloc (.cells #[.int .u32 y] 24)) := by
  obtain ⟨i0, hi0, hz0, hz1, hz2⟩ := info_fid
  have b1 : Below W.heap.size W (W.alloc (.cells #[.int .u32 y] 24)) := (Below.refl _ _).alloc (Nat.le_refl _) _
  have O1 : OwF (W.alloc (.cells #[.int .u32 y] 24)) base v us := own_outW hO (Ou.of (S := fun _ => False) b1) (fun _ _ => id)
  refine wpList_append_own _ hgd s x 32 ho base 24 i0 (.int .u32 0) 1 4 Try.underlying32 hi0 hz0 hz1 hz2 (by rfl) (by decide) v us.length _ hs O1 ⟨W.heap.size, 0, none⟩ 1 1 [.int .u32 y] hx rfl (one_news (heap_alloc_new W _)) (fun u hu => by simp at hu; subst hu; rfl) (by unfold maxLen; omega) (by omega) (Nat.le_trans hb2 (by simp)) ?_
  intro v' w' q1 q2 _
  have q3 : Below base W w' := Below.grown (b1.mono hb2) q2 (Nat.le_trans hb2 (by simp)) (fun k hk => by have := (O1.lt k hk).1; omega)
  exact h v' w' (by unfold OwF; rw [List.map_append, List.length_append]; exact q1) (hB.trans (q3.mono hb)) q3
set_option maxHeartbeats 4000000 in
theorem rcinsert_c {w : World} {v : Value} {us : List Int} (h : RdF w 0 v us) (hm : us.length ≤ 500) (x : Int) :
    Calls Try.prog 53 #[v, .int .u32 x] w fun e w' => ∃ v', e = .returned v' ∧ OwF w' w.heap.size v' (insF x us) ∧ Below w.heap.size w w' := by
  have H := hid h
  obtain ⟨a, cap, e, hcap, _⟩ := h
  subst e
  have TK : Hid (∀ m, m < us.length → us.take (m + 1) = us.take m ++ [us.getD m 0]) := hid (fun m hm => take_snocD us hm)
  have FIN : Hid (us.take us.length = us) := hid (List.take_length)
  have LE : Hid (∀ m, (insM x (us.take m)).length ≤ 600) := hid (fun m => by
    have h1 := insM_len x (us.take m)
    have h2 := List.length_take_le' m us
    omega)
  obtain ⟨n, hn⟩ : ∃ n, n = us.length := ⟨_, rfl⟩
  rw [← hn] at hm hcap TK FIN H
  rw [← hn]
  have HN := hid hn
  clear hn
  go_enter Try.func53, Try.ntmps53
  go_wp2
  go_loopg [5, 6, 7] n (fun gk v pv j wr => ∃ m : Nat, m + gk = n ∧ j = .int .i64 m ∧ pv = .bool (plc x (us.take m)) ∧ Hid (OwF wr w.heap.size v (insM x (us.take m))) ∧ Hid (Below w.heap.size w wr))
  case atStart => exact ⟨0, by omega, rfl, rfl, hid (World.ownsRow_nil _ _ _ _), hid (Below.refl _ _)⟩
  case round =>
    obtain ⟨m, hm2, rfl, rfl, HO, HB⟩ := hrel
    obtain ⟨va, vn, vc, rfl⟩ := own_anyW HO.out
    by_cases hlt : m < n
    · have hltI : (m : Int) < n := by omega
      obtain ⟨eL, _, hr⟩ := (H.out.later HB.out).at
      obtain ⟨gl, o, ea, _, hc⟩ := hr (by omega)
      subst ea
      have k0 := hc m hlt
      have CELL : Hid (∀ W, Below w.heap.size w W → W.cell? ⟨gl, o + m, none⟩ = some (.int .u32 (us.getD m 0))) := hid (fun W hb => by
        obtain ⟨_, _, hr8⟩ := (H.out.later hb).at
        obtain ⟨g8, o8, ea, _, hc8⟩ := hr8 (by omega)
        cases ea
        exact hc8 m hlt)
      clear eL
      have hTK := TK.out m hlt
      have hlen := LE.out m
      clear hc hr
      have NXT : Hid (plc x (us.take (m + 1)) = (plc x (us.take m) || decide (x < us.getD m 0))) := hid (by rw [hTK, plc_snoc])
      have HTK := hid hTK
      clear hTK
      generalize us.getD m 0 = y at *
      cases hp : plc x (us.take m) with
      | true =>
        have EN : Hid (insM x (us.take (m + 1)) = insM x (us.take m) ++ [y]) := hid (by
          unfold insM
          rw [NXT.out, hp, Bool.true_or, if_pos rfl, if_pos rfl, HTK.out, insF_placed x y _ hp])
        have EP : Hid (plc x (us.take (m + 1)) = true) := hid (by rw [NXT.out, hp]; rfl)
        clear hp NXT HTK
        go_wp2_with (at_builtin; refine app_one HO.out HB.out (Nat.le_refl _) HB.out.size (by omega) rfl _ _ rfl rfl rfl ?_; intro v9 w9 ho9 hb9 _; (have O9 := hid ho9); (have B9 := hid hb9); (obtain ⟨a9, n9, c9, rfl⟩ := own_anyW ho9); clear ho9 hb9)
        go_roundg (gk - 1)
        case measure => omega
        case rel => exact ⟨m + 1, by omega, by go_num, by rw [EP.out], hid (by rw [EN.out]; exact O9.out), B9⟩
      | false =>
        by_cases hxy : x < y
        · have hxd : decide (x < y) = true := decide_eq_true hxy
          have EN : Hid (insM x (us.take (m + 1)) = (insM x (us.take m) ++ [x]) ++ [y]) := hid (by
            unfold insM
            rw [NXT.out, hp, hxd, Bool.false_or, if_pos rfl, if_neg (by simp), HTK.out, insF_new x y hxy _ hp])
          have EP : Hid (plc x (us.take (m + 1)) = true) := hid (by rw [NXT.out, hp, hxd]; rfl)
          clear hp NXT HTK
          have T0 := hid hlt
          go_wp2_with (first
            | (have _q := T5.out; clear _q T5; at_builtin; refine app_one O8.out B8.out (Nat.le_refl _) B8.out.size (by simp; omega) rfl _ _ rfl rfl rfl ?_; intro v9 w9 ho9 hb9 _; (have O9 := hid ho9); (have B9 := hid hb9); (obtain ⟨a9, n9, c9, rfl⟩ := own_anyW ho9); clear ho9 hb9)
            | (have _q := T0.out; clear _q T0; at_builtin; refine app_one HO.out HB.out (Nat.le_refl _) HB.out.size (by omega) rfl _ _ rfl rfl rfl ?_; intro v8 w8 ho8 hb8 hb8'; (have O8 := hid ho8); (have B8 := hid hb8); (have T5 := hid hlt); (have k8 := CELL.out _ hb8); (obtain ⟨a8, n8, c8, rfl⟩ := own_anyW ho8); clear ho8 hb8 hb8'))
          go_roundg (gk - 1)
          case measure => omega
          case rel => exact ⟨m + 1, by omega, by go_num, by rw [EP.out], hid (by rw [EN.out]; exact O9.out), B9⟩
        · have hxd : decide (x < y) = false := decide_eq_false hxy
          have EN : Hid (insM x (us.take (m + 1)) = insM x (us.take m) ++ [y]) := hid (by
            unfold insM
            rw [NXT.out, hp, hxd, Bool.or_self, if_neg (by simp), if_neg (by simp), HTK.out])
          have EP : Hid (plc x (us.take (m + 1)) = false) := hid (by rw [NXT.out, hp, hxd]; rfl)
          clear hp NXT HTK
          go_wp2_with (at_builtin; refine app_one HO.out HB.out (Nat.le_refl _) HB.out.size (by omega) rfl _ _ rfl rfl rfl ?_; intro v9 w9 ho9 hb9 _; (have O9 := hid ho9); (have B9 := hid hb9); (obtain ⟨a9, n9, c9, rfl⟩ := own_anyW ho9); clear ho9 hb9)
          go_roundg (gk - 1)
          case measure => omega
          case rel => exact ⟨m + 1, by omega, by go_num, by rw [EP.out], hid (by rw [EN.out]; exact O9.out), B9⟩
    · have em : m = n := by omega
      subst em
      have hge : ¬ (m : Int) < m := by omega
      have hlen := LE.out m
      rw [FIN.out] at HO hlen
      rw [FIN.out]
      cases hp : plc x us with
      | true =>
        have EN : Hid (insM x us = insF x us) := hid (by unfold insM; rw [hp, if_pos rfl])
        clear hp
        go_wp2
        go_ret
        exact ⟨_, rfl, by have := HO.out; rw [EN.out] at this; exact this, HB.out⟩
      | false =>
        have EN : Hid (insM x us ++ [x] = insF x us) := hid (by unfold insM; rw [hp, if_neg (by simp), insF_none x us hp])
        clear hp
        go_wp2_with (at_builtin; refine app_one HO.out HB.out (Nat.le_refl _) HB.out.size (by omega) rfl _ _ rfl rfl rfl ?_; intro v9 w9 ho9 hb9 _; (have O9 := hid ho9); (have B9 := hid hb9); (obtain ⟨a9, n9, c9, rfl⟩ := own_anyW ho9); clear ho9 hb9)
        go_ret
        exact ⟨_, rfl, by have := O9.out; rw [EN.out] at this; exact this, B9.out⟩
end Go.Proofs.Ytilcbkejmpfnfaa
