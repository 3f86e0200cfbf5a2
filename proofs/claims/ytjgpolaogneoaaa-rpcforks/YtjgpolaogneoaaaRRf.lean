/-
  The document's caller.
-/
import Derived.Test.YtjgpolaogneoaaaROp
import Derived.Deep.Cut
namespace Go.Proofs.Ytjgpolaogneoaaa
open Go.RowKit Go.ChangeShapes Go.WideShapes Go.ChangeAt
set_option linter.unusedVariables false
set_option linter.unusedSimpArgs false
set_option maxRecDepth 100000
theorem rr_aux (x : Bool) (s : Int) (n : Nat) (h1 : ¬ s = 0) (h2 : n ≤ 16384) : x = (x && s != 0 && decide (n ≤ 16384)) := by
  have e1 : (s != 0) = true := by simpa using h1
  simp [e1, h2]
theorem rr_aux2 {f t s : Int} {n : Nat} (h : ((3 < f ∨ 3 < t) ∨ (s == 0) = true) ∨ (16384 : Int) < n) (h1 : f ≤ 3) (h2 : t ≤ 3) (h3 : ¬ s = 0) : 16384 < n := by
  rcases h with ((h | h) | h) | h
  · omega
  · omega
  · exact absurd (beq_iff_eq.1 h) h3
  · omega
theorem step_append_text {P : Program} (w : World) {ops : Array Oper} {o : Oper} {a : Act} {K : Act → World → Prop} {Q : Exit → Act → World → Prop} {E : Prop} (hgd : o.guard = none) (sl x : Operand) (t u : TypeId)
    (ho : o.op = .call { callee := .builtin .append, args := #[sl, x], argTypes := #[t, u] })
    (base : Nat) (e : TypeId) (i : TypeInfo) (ht : P.underlying t = some (.slice e)) (hu : P.underlying u = some .string) (hi : P.info? e = some i) (hz : i.zero = some (.int .u8 0))
    (hsize : i.size = 1) (hby : i.bytes = 1)
    (v : Value) (n : Nat) (xs : List Value) (hs : a.eval sl = v) (hown : w.ownsRow base e 1 v n xs) (s : ByteArray) (hx : a.eval x = .string s)
    (h63 : n + s.size ≤ maxLen) (hbytes : n + s.size ≤ 140737488355328) (hbase : base ≤ w.heap.size)
    (h : ∀ v' w', w'.ownsRow base e 1 v' (n + s.size) (xs ++ Lib.strCells s) → w.grownBy w' v.ownBlock → K (a.put o.dst v') w') :
    if Region.wanted o (yielded ops a.tmps) = true then Oper.wp P o a w K Q else E := by
  rw [if_pos (by simp [Region.wanted, hgd])]
  obtain ⟨v', w', hr, h2, h3, h4⟩ := Lib.run_append_own_string (P := P) w base t u o.type e i ht hu hi hz hsize hby v n xs hown s h63 hbytes hbase
  unfold Oper.wp execOp
  simp only [ho, resolve, invoke, builtin, Sem.run_bind, Sem.run_pure, Result.andThen_ok, List.map_toArray, List.map_cons, List.map_nil, hs, hx, hr]
  exact h v' w' h2 h3
set_option maxHeartbeats 2000000 in
theorem rright_c (p : Fr.Pk) (hp : Fr.Wf p) (hs : p.b.size ≤ maxLen) (w : World) :
    Calls Try.prog 49 #[Fr.val p] w fun e' w' => e' = .returned (.bool (Fr.rightB p)) ∧ Below w.heap.size w w' := by
  obtain ⟨k, f, t, e, s, b⟩ := p
  obtain ⟨hk, hf, ht, he, hs'⟩ := hp
  rw [show Fr.val ⟨k, f, t, e, s, b⟩ = .agg #[.int .u8 k, .int .u8 f, .int .u8 t, .int .u32 e, .int .u32 s, .string b] from rfl]
  unfold maxLen at hs
  simp only at hk hf ht he hs' hs
  go_enter Try.func49, Try.ntmps49
  go_wp2
  all_goals
    go_ret
    exact ⟨ret_bool (by unfold Fr.rightB; simp [*] <;> first | omega | (intro hh; omega) | (intro hh; exact rr_aux2 ‹((3 < f ∨ 3 < t) ∨ (s == 0) = true) ∨ (16384 : Int) < ↑b.size› ‹f ≤ 3› ‹t ≤ 3› ‹¬ s = 0›) | exact rr_aux _ _ _ ‹_› (by omega)), (Below.refl _ _).alloc (Nat.le_refl _) _⟩
set_option maxHeartbeats 400000 in
theorem rbusy_c {w : World} {g : Nat} {c : Cl} (h : IsC 86 w g c) : Calls Try.prog 28 #[pC g] w fun e w' => e = .returned (.bool c.uw) ∧ w' = w := by
  obtain ⟨c0, c1, c2, c3, c4, c5, c6, cf⟩ := h.cells
  clear h c0 c1 c2 c4 c5 c6
  go_enter Try.func28, Try.ntmps28
  go_wp2
  go_ret
  exact ⟨rfl, rfl⟩
set_option maxHeartbeats 400000 in
theorem rdown_c {w : World} {g : Nat} {c : Cl} (h : IsC 86 w g c) : Calls Try.prog 29 #[pC g] w fun e w' => e = .returned (.bool (downB c)) ∧ w' = w := by
  obtain ⟨c0, c1, c2, c3, c4, c5, c6, cf⟩ := h.cells
  clear h cf
  obtain ⟨cl, ep, num, uw, body, sends, lst⟩ := c
  simp only at *
  cases uw with
  | true =>
    go_enter Try.func29, Try.ntmps29
    go_wp2
    go_ret
    exact ⟨rfl, rfl⟩
  | false =>
    go_enter Try.func29, Try.ntmps29
    go_wp2
    go_ret
    exact ⟨rfl, rfl⟩
set_option maxHeartbeats 1000000 in
theorem rfork_c {w : World} {g : Nat} {c : Cl} (h : IsC 86 w g c) : Calls Try.prog 22 #[pC g] w fun e w' => e = .returned (pC w.heap.size) ∧ IsC 86 w' w.heap.size c ∧ Below w.heap.size w w' := by
  obtain ⟨c0, c1, c2, c3, c4, c5, c6, cf⟩ := h.cells
  clear h cf
  obtain ⟨cl, ep, num, uw, body, sends, lst⟩ := c
  simp only at *
  go_enter Try.func22, Try.ntmps22
  go_wp2
  go_ret
  exact ⟨rfl, heap_alloc_new w _, (Below.refl _ _).alloc (Nat.le_refl _) _⟩
set_option maxHeartbeats 400000 in
theorem rnewCaller_c (n e : Int) (h0 : 1 ≤ n) (h1 : n ≤ 3) (w : World) : Calls Try.prog 44 #[.int .u8 n, .int .u32 e] w fun x w' => x = .returned (pC w.heap.size) ∧ IsC 86 w' w.heap.size ⟨n, e, 0, false, ⟨#[]⟩, 0, 0⟩ ∧ Below w.heap.size w w' := by
  have g1 : ¬ n < 1 := by omega
  have g2 : ¬ 3 < n := by omega
  have d1 : decide (n < 1) = false := decide_eq_false g1
  have d2 : decide (3 < n) = false := decide_eq_false g2
  go_enter Try.func44, Try.ntmps44
  go_wp2
  go_ret
  exact ⟨rfl, heap_alloc_new w _, (Below.refl _ _).alloc (Nat.le_refl _) _⟩
set_option maxHeartbeats 1000000 in
theorem rcall_c {w : World} {g : Nat} {c : Cl} (h : IsC 86 w g c) (hw : c.Wf) (s : ByteArray) :
    Calls Try.prog 36 #[pC g, .string s] w fun e w' => e = .returned (.int .i64 (callE c s)) ∧ IsC 86 w' g (callS c s) ∧ Ou (fun k => k = g) w w' := by
  have H := hid h
  obtain ⟨c0, c1, c2, c3, c4, c5, c6, cf⟩ := h.cells
  have f2 := cf 2
  have f3 := cf 3
  have f4 := cf 4
  have f5 := cf 5
  have f6 := cf 6
  obtain ⟨_, _, hn, _⟩ := hw
  clear h
  obtain ⟨cl, ep, num, uw, body, sends, lst⟩ := c
  simp only at *
  cases uw with
  | true =>
    have E : Hid (callE ⟨cl, ep, num, true, body, sends, lst⟩ s = 13) := rfl
    have E2 : Hid (callS ⟨cl, ep, num, true, body, sends, lst⟩ s = ⟨cl, ep, num, true, body, sends, lst⟩) := rfl
    go_enter Try.func36, Try.ntmps36
    go_wp2
    go_ret
    exact ⟨ret_int E.out.symm, by rw [E2.out]; exact H.out, Ou.refl _ _⟩
  | false =>
    by_cases hs : 16384 < s.size
    · have hs' : (16384 : Int) < s.size := by omega
      have e1 : callE ⟨cl, ep, num, false, body, sends, lst⟩ s = 3 := by simp [callE, hs]
      have E := hid e1
      have E2 : Hid (callS ⟨cl, ep, num, false, body, sends, lst⟩ s = ⟨cl, ep, num, false, body, sends, lst⟩) := by show _ = _; unfold callS; rw [e1]; rfl
      clear e1
      go_enter Try.func36, Try.ntmps36
      go_wp2
      go_ret
      exact ⟨ret_int E.out.symm, by rw [E2.out]; exact H.out, Ou.refl _ _⟩
    · have hs' : (s.size : Int) ≤ 16384 := by omega
      by_cases h3 : num = 4294967295
      · have e1 : callE ⟨cl, ep, num, false, body, sends, lst⟩ s = 2 := by simp [callE, hs, h3]
        have E := hid e1
        have E2 : Hid (callS ⟨cl, ep, num, false, body, sends, lst⟩ s = ⟨cl, ep, num, false, body, sends, lst⟩) := by show _ = _; unfold callS; rw [e1]; rfl
        have hb : (num == 4294967295) = true := beq_iff_eq.2 h3
        clear e1 h3
        go_enter Try.func36, Try.ntmps36
        go_wp2
        go_ret
        exact ⟨ret_int E.out.symm, by rw [E2.out]; exact H.out, Ou.refl _ _⟩
      · have e1 : callE ⟨cl, ep, num, false, body, sends, lst⟩ s = 0 := by simp [callE, hs, h3]
        have E := hid e1
        have E2 : Hid (callS ⟨cl, ep, num, false, body, sends, lst⟩ s = ⟨cl, ep, num + 1, true, s, 0, 0⟩) := by show _ = _; unfold callS; rw [e1]; rfl
        have hb : (num == 4294967295) = false := beq_eq_false_iff_ne.2 h3
        have hnum : num < 4294967295 := by omega
        clear e1 h3
        go_enter Try.func36, Try.ntmps36
        go_wp2
        go_ret
        exact ⟨ret_int E.out.symm, by rw [E2.out]; exact row_set 6 _ (row_set 5 _ (row_set 4 _ (row_set 3 _ (row_set 2 _ H.out)))), (((((Ou.refl (fun k => k = g) _).set rfl).set rfl).set rfl).set rfl).set rfl⟩
/-- The document's caller keeps what it sent. -/
def rdoneS (c : Cl) : Cl := ⟨c.cl, c.ep, c.num, false, c.body, c.sends, c.lst⟩
def rcancelS (c : Cl) : Cl := if c.uw then rdoneS c else c
set_option maxHeartbeats 1000000 in
theorem rcancel_c {w : World} {g : Nat} {c : Cl} (h : IsC 86 w g c) :
    Calls Try.prog 39 #[pC g] w fun e w' => e = .returned (.int .i64 (cancelE c)) ∧ IsC 86 w' g (rcancelS c) ∧ Ou (fun k => k = g) w w' := by
  have H := hid h
  obtain ⟨c0, c1, c2, c3, c4, c5, c6, cf⟩ := h.cells
  have f3 := cf 3
  clear h
  obtain ⟨cl, ep, num, uw, body, sends, lst⟩ := c
  simp only at *
  cases uw with
  | true =>
    go_enter Try.func39, Try.ntmps39
    go_wp2
    go_ret
    exact ⟨rfl, row_set 3 _ H.out, (Ou.refl (fun k => k = g) _).set rfl⟩
  | false =>
    go_enter Try.func39, Try.ntmps39
    go_wp2
    go_ret
    exact ⟨rfl, H.out, Ou.refl _ _⟩
set_option maxHeartbeats 2000000 in
theorem rtick_noa {w : World} {g : Nat} (cl ep num : Int) (uw : Bool) (body : ByteArray) (sends lst : Int) (h : IsC 86 w g ⟨cl, ep, num, uw, body, sends, lst⟩) (hl : 0 ≤ lst ∧ lst < 18446744073709551616) (now : Int) (n0 : 0 ≤ now) (n1 : now < 18446744073709551616) (h1 : uw = false) :
    Calls Try.prog 37 #[pC g, .int .u64 now] w fun e w' => e = .returned (.tuple #[Fr.val zpk, .bool false]) ∧ Below w.heap.size w w' := by
  have b0 : Below w.heap.size w (w.alloc (.cells #[.int .u8 0, .int .u8 0, .int .u8 0, .int .u32 0, .int .u32 0, .string ⟨#[]⟩] 39)) := (Below.refl _ _).alloc (Nat.le_refl _) _
  obtain ⟨c0, c1, c2, c3, c4, c5, c6, cf⟩ := h.cells
  have hlt := h.lt
  have hne : ¬ g = w.heap.size := by omega
  simp only at *
  subst h1
  clear h cf
  go_enter Try.func37, Try.ntmps37
  go_wp2
  exact bodyPost_ret (v := .tuple #[Fr.val zpk, .bool false]) (by simp [results, Try.results37, go_sem, Fr.val, zpk]) rfl ⟨rfl, b0⟩
set_option maxHeartbeats 2000000 in
theorem rtick_nob {w : World} {g : Nat} (cl ep num : Int) (uw : Bool) (body : ByteArray) (sends lst : Int) (h : IsC 86 w g ⟨cl, ep, num, uw, body, sends, lst⟩) (hl : 0 ≤ lst ∧ lst < 18446744073709551616) (now : Int) (n0 : 0 ≤ now) (n1 : now < 18446744073709551616) (h1 : uw = true) (h2 : 0 < sends) (h3 : now < lst) :
    Calls Try.prog 37 #[pC g, .int .u64 now] w fun e w' => e = .returned (.tuple #[Fr.val zpk, .bool false]) ∧ Below w.heap.size w w' := by
  have b0 : Below w.heap.size w (w.alloc (.cells #[.int .u8 0, .int .u8 0, .int .u8 0, .int .u32 0, .int .u32 0, .string ⟨#[]⟩] 39)) := (Below.refl _ _).alloc (Nat.le_refl _) _
  obtain ⟨c0, c1, c2, c3, c4, c5, c6, cf⟩ := h.cells
  have hlt := h.lt
  have hne : ¬ g = w.heap.size := by omega
  simp only at *
  subst h1
  clear h cf
  go_enter Try.func37, Try.ntmps37
  go_wp2
  exact bodyPost_ret (v := .tuple #[Fr.val zpk, .bool false]) (by simp [results, Try.results37, go_sem, Fr.val, zpk]) rfl ⟨rfl, b0⟩
set_option maxHeartbeats 2000000 in
theorem rtick_noc {w : World} {g : Nat} (cl ep num : Int) (uw : Bool) (body : ByteArray) (sends lst : Int) (h : IsC 86 w g ⟨cl, ep, num, uw, body, sends, lst⟩) (hl : 0 ≤ lst ∧ lst < 18446744073709551616) (now : Int) (n0 : 0 ≤ now) (n1 : now < 18446744073709551616) (h1 : uw = true) (h2 : 0 < sends) (h3 : ¬ now < lst) (h4 : now - lst < 4) :
    Calls Try.prog 37 #[pC g, .int .u64 now] w fun e w' => e = .returned (.tuple #[Fr.val zpk, .bool false]) ∧ Below w.heap.size w w' := by
  have b0 : Below w.heap.size w (w.alloc (.cells #[.int .u8 0, .int .u8 0, .int .u8 0, .int .u32 0, .int .u32 0, .string ⟨#[]⟩] 39)) := (Below.refl _ _).alloc (Nat.le_refl _) _
  obtain ⟨c0, c1, c2, c3, c4, c5, c6, cf⟩ := h.cells
  have hlt := h.lt
  have hne : ¬ g = w.heap.size := by omega
  have h3d : decide (now < lst) = false := decide_eq_false h3
  simp only at *
  subst h1
  clear h cf
  go_enter Try.func37, Try.ntmps37
  go_wp2
  exact bodyPost_ret (v := .tuple #[Fr.val zpk, .bool false]) (by simp [results, Try.results37, go_sem, Fr.val, zpk]) rfl ⟨rfl, b0⟩
set_option maxHeartbeats 2000000 in
theorem rtick_yesd {w : World} {g : Nat} (cl ep num : Int) (uw : Bool) (body : ByteArray) (sends lst : Int) (h : IsC 86 w g ⟨cl, ep, num, uw, body, sends, lst⟩) (hl : 0 ≤ lst ∧ lst < 18446744073709551616) (hsn : 0 ≤ sends ∧ sends < 1000) (now : Int) (n0 : 0 ≤ now) (n1 : now < 18446744073709551616) (h1 : uw = true) (h2 : ¬ 0 < sends) :
    Calls Try.prog 37 #[pC g, .int .u64 now] w fun e w' => e = .returned (.tuple #[Fr.val ⟨1, cl, 0, ep, num, body⟩, .bool true]) ∧ IsC 86 w' g ⟨cl, ep, num, uw, body, sends + 1, now⟩ ∧ Ou (fun k => k = g) w w' := by
  have b0 : Below w.heap.size w (w.alloc (.cells #[.int .u8 0, .int .u8 0, .int .u8 0, .int .u32 0, .int .u32 0, .string ⟨#[]⟩] 39)) := (Below.refl _ _).alloc (Nat.le_refl _) _
  have H := hid (h.later b0)
  have hlt := h.lt
  have P0 : Hid (PkAt (w.alloc (.cells #[.int .u8 0, .int .u8 0, .int .u8 0, .int .u32 0, .int .u32 0, .string ⟨#[]⟩] 39)) w.heap.size zpk) := PkAt.new w zpk
  obtain ⟨c0, c1, c2, c3, c4, c5, c6, cf⟩ := (h.later b0).cells
  have f5 := cf 5
  have f6 := cf 6
  have B0 := hid b0
  have hne : ¬ w.heap.size = g := by omega
  have hne' : ¬ g = w.heap.size := by omega
  have h2d : decide (0 < sends) = false := decide_eq_false h2
  simp only at *
  subst h1
  obtain ⟨p0, p1, p2, p3, p4, p5, pf⟩ := P0.out.cells
  have q0 := pf 0
  have q1 := pf 1
  have q2 := pf 2
  have q3 := pf 3
  have q4 := pf 4
  have q5 := pf 5
  clear h b0 cf pf
  go_enter Try.func37, Try.ntmps37
  go_upto_region 1 with fail
  generalize (w.alloc (.cells #[.int .u8 0, .int .u8 0, .int .u8 0, .int .u32 0, .int .u32 0, .string ⟨#[]⟩] 39)) = W at *
  go_wp2
  go_region
  go_wp2
  refine bodyPost_ret (v := .tuple #[Fr.val ⟨1, cl, 0, ep, num, body⟩, .bool true]) (by simp [results, Try.results37, go_sem, Fr.val, p0, p1, p2, p3, p4, p5, hne]) rfl ⟨rfl, row_set 6 _ (row_set 5 _ H.out) |> fun e => (IsC.out (c := ⟨cl, ep, num, true, body, sends + 1, now⟩) (S := fun k => k = w.heap.size) e ((((((((Ou.refl (fun k => k = w.heap.size) _).set rfl).set rfl).set rfl).set rfl).set rfl).set rfl).drew) hne'), ?_⟩
  have o1 : Ou (fun k => k = g ∨ k = w.heap.size) W (((W.setCell ⟨g, 5, none⟩ (.int .i64 (sends + 1))).setCell ⟨g, 6, none⟩ (.int .u64 now))) := ((Ou.refl _ _).set (.inl rfl)).set (.inl rfl)
  exact ou_new B0.out (((((((o1.set (.inr rfl)).set (.inr rfl)).set (.inr rfl)).set (.inr rfl)).set (.inr rfl)).set (.inr rfl)).drew)
set_option maxHeartbeats 2000000 in
theorem rtick_yese {w : World} {g : Nat} (cl ep num : Int) (uw : Bool) (body : ByteArray) (sends lst : Int) (h : IsC 86 w g ⟨cl, ep, num, uw, body, sends, lst⟩) (hl : 0 ≤ lst ∧ lst < 18446744073709551616) (hsn : 0 ≤ sends ∧ sends < 1000) (now : Int) (n0 : 0 ≤ now) (n1 : now < 18446744073709551616) (h1 : uw = true) (h2 : 0 < sends) (h3 : ¬ now < lst) (h4 : ¬ now - lst < 4) :
    Calls Try.prog 37 #[pC g, .int .u64 now] w fun e w' => e = .returned (.tuple #[Fr.val ⟨1, cl, 0, ep, num, body⟩, .bool true]) ∧ IsC 86 w' g ⟨cl, ep, num, uw, body, sends + 1, now⟩ ∧ Ou (fun k => k = g) w w' := by
  have b0 : Below w.heap.size w (w.alloc (.cells #[.int .u8 0, .int .u8 0, .int .u8 0, .int .u32 0, .int .u32 0, .string ⟨#[]⟩] 39)) := (Below.refl _ _).alloc (Nat.le_refl _) _
  have H := hid (h.later b0)
  have hlt := h.lt
  have P0 : Hid (PkAt (w.alloc (.cells #[.int .u8 0, .int .u8 0, .int .u8 0, .int .u32 0, .int .u32 0, .string ⟨#[]⟩] 39)) w.heap.size zpk) := PkAt.new w zpk
  obtain ⟨c0, c1, c2, c3, c4, c5, c6, cf⟩ := (h.later b0).cells
  have f5 := cf 5
  have f6 := cf 6
  have B0 := hid b0
  have hne : ¬ w.heap.size = g := by omega
  have hne' : ¬ g = w.heap.size := by omega
  have h3d : decide (now < lst) = false := decide_eq_false h3
  have h4d : decide (now - lst < 4) = false := decide_eq_false h4
  simp only at *
  subst h1
  obtain ⟨p0, p1, p2, p3, p4, p5, pf⟩ := P0.out.cells
  have q0 := pf 0
  have q1 := pf 1
  have q2 := pf 2
  have q3 := pf 3
  have q4 := pf 4
  have q5 := pf 5
  clear h b0 cf pf
  go_enter Try.func37, Try.ntmps37
  go_upto_region 1 with fail
  generalize (w.alloc (.cells #[.int .u8 0, .int .u8 0, .int .u8 0, .int .u32 0, .int .u32 0, .string ⟨#[]⟩] 39)) = W at *
  go_wp2
  go_region
  go_wp2
  refine bodyPost_ret (v := .tuple #[Fr.val ⟨1, cl, 0, ep, num, body⟩, .bool true]) (by simp [results, Try.results37, go_sem, Fr.val, p0, p1, p2, p3, p4, p5, hne]) rfl ⟨rfl, row_set 6 _ (row_set 5 _ H.out) |> fun e => (IsC.out (c := ⟨cl, ep, num, true, body, sends + 1, now⟩) (S := fun k => k = w.heap.size) e ((((((((Ou.refl (fun k => k = w.heap.size) _).set rfl).set rfl).set rfl).set rfl).set rfl).set rfl).drew) hne'), ?_⟩
  have o1 : Ou (fun k => k = g ∨ k = w.heap.size) W (((W.setCell ⟨g, 5, none⟩ (.int .i64 (sends + 1))).setCell ⟨g, 6, none⟩ (.int .u64 now))) := ((Ou.refl _ _).set (.inl rfl)).set (.inl rfl)
  exact ou_new B0.out (((((((o1.set (.inr rfl)).set (.inr rfl)).set (.inr rfl)).set (.inr rfl)).set (.inr rfl)).set (.inr rfl)).drew)
set_option maxHeartbeats 2000000 in
theorem rtake_0 {w : World} {g : Nat} (cl ep num : Int) (uw : Bool) (body : ByteArray) (sends lst : Int) (h : IsC 86 w g ⟨cl, ep, num, uw, body, sends, lst⟩) (k f t e s : Int) (b : ByteArray) (hp : Fr.Wf ⟨k, f, t, e, s, b⟩) (hs : b.size ≤ maxLen) (h0 : (uw) = false) :
    Calls Try.prog 38 #[pC g, .agg #[.int .u8 k, .int .u8 f, .int .u8 t, .int .u32 e, .int .u32 s, .string b]] w fun x w' => x = .returned (.tuple #[.string ⟨#[]⟩, .bool false]) ∧ Below w.heap.size w w' := by
  subst h0
  have b0 : Below w.heap.size w (w.alloc (.cells #[.int .u8 k, .int .u8 f, .int .u8 t, .int .u32 e, .int .u32 s, .string b] 39)) := (Below.refl _ _).alloc (Nat.le_refl _) _
  have hlt := h.lt
  have hc := h.later b0
  have hP := PkAt.new w ⟨k, f, t, e, s, b⟩
  have FX : Hid (∀ W, Below (w.alloc (.cells #[.int .u8 k, .int .u8 f, .int .u8 t, .int .u32 e, .int .u32 s, .string b] 39)).heap.size (w.alloc (.cells #[.int .u8 k, .int .u8 f, .int .u8 t, .int .u32 e, .int .u32 s, .string b] 39)) W → W.cell? ⟨g, 0, none⟩ = some (.int .u8 cl) ∧ W.cell? ⟨g, 1, none⟩ = some (.int .u32 ep) ∧ W.cell? ⟨g, 2, none⟩ = some (.int .u32 num) ∧ W.cell? ⟨w.heap.size, 0, none⟩ = some (.int .u8 k) ∧ W.cell? ⟨w.heap.size, 1, none⟩ = some (.int .u8 f) ∧ W.cell? ⟨w.heap.size, 2, none⟩ = some (.int .u8 t) ∧ W.cell? ⟨w.heap.size, 3, none⟩ = some (.int .u32 e) ∧ W.cell? ⟨w.heap.size, 4, none⟩ = some (.int .u32 s) ∧ W.cell? ⟨w.heap.size, 5, none⟩ = some (.string b) ∧ W.cell? ⟨g, 3, none⟩ = some (.bool false)) := fun W hW => by
    obtain ⟨a0, a1, a2, a3, _⟩ := (hc.later hW).cells
    obtain ⟨q0, q1, q2, q3, q4, q5, _⟩ := (hP.later hW).cells
    exact ⟨a0, a1, a2, q0, q1, q2, q3, q4, q5, a3⟩
  have HC := hid hc
  have B0 := hid b0
  have hne : ¬ w.heap.size = g := by omega
  have hne' : ¬ g = w.heap.size := by omega
  clear hc hP h b0 hp hs
  go_enter Try.func38, Try.ntmps38
  go_wp2_with fail
  generalize (w.alloc (.cells #[.int .u8 k, .int .u8 f, .int .u8 t, .int .u32 e, .int .u32 s, .string b] 39)) = W0 at *
  refine wp_region_class (by kernel_rfl) (by kernel_rfl) ?_
  repeat (first
    | go_big_quiet_skip
    | (go_big_quiet_want
       apply quiet_by
       · intro w4 hw4
         obtain ⟨k0, k1, k2, k3, k4, k5, k6, k7, k8, k9⟩ := FX.out w4 hw4
         go_simp
         first
           | rfl
           | (simp [k0, k1, k2, k3, k4, k5, k6, k7, k8, k9]; rfl)
       · go_simp; rfl
       go_big_quiet_on))
  refine wpQuiet_nil ?_
  intro w5 hw5
  go_wp2
  go_ret2
  exact ⟨rfl, B0.out.trans (hw5.mono B0.out.size)⟩
set_option maxHeartbeats 2000000 in
theorem rtake_1 {w : World} {g : Nat} (cl ep num : Int) (uw : Bool) (body : ByteArray) (sends lst : Int) (h : IsC 86 w g ⟨cl, ep, num, uw, body, sends, lst⟩) (k f t e s : Int) (b : ByteArray) (hp : Fr.Wf ⟨k, f, t, e, s, b⟩) (hs : b.size ≤ maxLen) (h0 : (uw) = true) (h1 : (Fr.rightB ⟨k, f, t, e, s, b⟩) = false) :
    Calls Try.prog 38 #[pC g, .agg #[.int .u8 k, .int .u8 f, .int .u8 t, .int .u32 e, .int .u32 s, .string b]] w fun x w' => x = .returned (.tuple #[.string ⟨#[]⟩, .bool false]) ∧ Below w.heap.size w w' := by
  subst h0
  have RC : Hid (∀ W, Calls Try.prog 49 #[.agg #[.int .u8 k, .int .u8 f, .int .u8 t, .int .u32 e, .int .u32 s, .string b]] W fun x w' => x = .returned (.bool false) ∧ Below W.heap.size W w') := fun W => by
    have := rright_c ⟨k, f, t, e, s, b⟩ hp hs W
    rw [h1] at this
    exact this
  clear h1
  have b0 : Below w.heap.size w (w.alloc (.cells #[.int .u8 k, .int .u8 f, .int .u8 t, .int .u32 e, .int .u32 s, .string b] 39)) := (Below.refl _ _).alloc (Nat.le_refl _) _
  have hlt := h.lt
  have hc := h.later b0
  have hP := PkAt.new w ⟨k, f, t, e, s, b⟩
  have FX : Hid (∀ W, Below (w.alloc (.cells #[.int .u8 k, .int .u8 f, .int .u8 t, .int .u32 e, .int .u32 s, .string b] 39)).heap.size (w.alloc (.cells #[.int .u8 k, .int .u8 f, .int .u8 t, .int .u32 e, .int .u32 s, .string b] 39)) W → W.cell? ⟨g, 0, none⟩ = some (.int .u8 cl) ∧ W.cell? ⟨g, 1, none⟩ = some (.int .u32 ep) ∧ W.cell? ⟨g, 2, none⟩ = some (.int .u32 num) ∧ W.cell? ⟨w.heap.size, 0, none⟩ = some (.int .u8 k) ∧ W.cell? ⟨w.heap.size, 1, none⟩ = some (.int .u8 f) ∧ W.cell? ⟨w.heap.size, 2, none⟩ = some (.int .u8 t) ∧ W.cell? ⟨w.heap.size, 3, none⟩ = some (.int .u32 e) ∧ W.cell? ⟨w.heap.size, 4, none⟩ = some (.int .u32 s) ∧ W.cell? ⟨w.heap.size, 5, none⟩ = some (.string b) ∧ W.cell? ⟨g, 3, none⟩ = some (.bool true)) := fun W hW => by
    obtain ⟨a0, a1, a2, a3, _⟩ := (hc.later hW).cells
    obtain ⟨q0, q1, q2, q3, q4, q5, _⟩ := (hP.later hW).cells
    exact ⟨a0, a1, a2, q0, q1, q2, q3, q4, q5, a3⟩
  have HC := hid hc
  have B0 := hid b0
  have hne : ¬ w.heap.size = g := by omega
  have hne' : ¬ g = w.heap.size := by omega
  clear hc hP h b0 hp hs
  go_enter Try.func38, Try.ntmps38
  go_wp2_with fail
  generalize (w.alloc (.cells #[.int .u8 k, .int .u8 f, .int .u8 t, .int .u32 e, .int .u32 s, .string b] 39)) = W0 at *
  refine wp_region_class (by kernel_rfl) (by kernel_rfl) ?_
  repeat (first
    | go_big_quiet_skip
    | (go_big_quiet_want
       apply quiet_by
       · intro w4 hw4
         obtain ⟨k0, k1, k2, k3, k4, k5, k6, k7, k8, k9⟩ := FX.out w4 hw4
         go_simp
         first
           | rfl
           | (go_at_call 49; exact class_of hw4 (RC.out _))
           | (simp [k0, k1, k2, k3, k4, k5, k6, k7, k8, k9]; rfl)
       · go_simp; rfl
       go_big_quiet_on))
  refine wpQuiet_nil ?_
  intro w5 hw5
  go_wp2
  go_ret2
  exact ⟨rfl, B0.out.trans (hw5.mono B0.out.size)⟩
set_option maxHeartbeats 2000000 in
theorem rtake_2 {w : World} {g : Nat} (cl ep num : Int) (uw : Bool) (body : ByteArray) (sends lst : Int) (h : IsC 86 w g ⟨cl, ep, num, uw, body, sends, lst⟩) (k f t e s : Int) (b : ByteArray) (hp : Fr.Wf ⟨k, f, t, e, s, b⟩) (hs : b.size ≤ maxLen) (h0 : (uw) = true) (h1 : (Fr.rightB ⟨k, f, t, e, s, b⟩) = true) (h2 : (k != 2) = true) :
    Calls Try.prog 38 #[pC g, .agg #[.int .u8 k, .int .u8 f, .int .u8 t, .int .u32 e, .int .u32 s, .string b]] w fun x w' => x = .returned (.tuple #[.string ⟨#[]⟩, .bool false]) ∧ Below w.heap.size w w' := by
  subst h0
  have RC : Hid (∀ W, Calls Try.prog 49 #[.agg #[.int .u8 k, .int .u8 f, .int .u8 t, .int .u32 e, .int .u32 s, .string b]] W fun x w' => x = .returned (.bool true) ∧ Below W.heap.size W w') := fun W => by
    have := rright_c ⟨k, f, t, e, s, b⟩ hp hs W
    rw [h1] at this
    exact this
  clear h1
  have b0 : Below w.heap.size w (w.alloc (.cells #[.int .u8 k, .int .u8 f, .int .u8 t, .int .u32 e, .int .u32 s, .string b] 39)) := (Below.refl _ _).alloc (Nat.le_refl _) _
  have hlt := h.lt
  have hc := h.later b0
  have hP := PkAt.new w ⟨k, f, t, e, s, b⟩
  have FX : Hid (∀ W, Below (w.alloc (.cells #[.int .u8 k, .int .u8 f, .int .u8 t, .int .u32 e, .int .u32 s, .string b] 39)).heap.size (w.alloc (.cells #[.int .u8 k, .int .u8 f, .int .u8 t, .int .u32 e, .int .u32 s, .string b] 39)) W → W.cell? ⟨g, 0, none⟩ = some (.int .u8 cl) ∧ W.cell? ⟨g, 1, none⟩ = some (.int .u32 ep) ∧ W.cell? ⟨g, 2, none⟩ = some (.int .u32 num) ∧ W.cell? ⟨w.heap.size, 0, none⟩ = some (.int .u8 k) ∧ W.cell? ⟨w.heap.size, 1, none⟩ = some (.int .u8 f) ∧ W.cell? ⟨w.heap.size, 2, none⟩ = some (.int .u8 t) ∧ W.cell? ⟨w.heap.size, 3, none⟩ = some (.int .u32 e) ∧ W.cell? ⟨w.heap.size, 4, none⟩ = some (.int .u32 s) ∧ W.cell? ⟨w.heap.size, 5, none⟩ = some (.string b) ∧ W.cell? ⟨g, 3, none⟩ = some (.bool true)) := fun W hW => by
    obtain ⟨a0, a1, a2, a3, _⟩ := (hc.later hW).cells
    obtain ⟨q0, q1, q2, q3, q4, q5, _⟩ := (hP.later hW).cells
    exact ⟨a0, a1, a2, q0, q1, q2, q3, q4, q5, a3⟩
  have HC := hid hc
  have B0 := hid b0
  have hne : ¬ w.heap.size = g := by omega
  have hne' : ¬ g = w.heap.size := by omega
  clear hc hP h b0 hp hs
  go_enter Try.func38, Try.ntmps38
  go_wp2_with fail
  generalize (w.alloc (.cells #[.int .u8 k, .int .u8 f, .int .u8 t, .int .u32 e, .int .u32 s, .string b] 39)) = W0 at *
  refine wp_region_class (by kernel_rfl) (by kernel_rfl) ?_
  repeat (first
    | go_big_quiet_skip
    | (go_big_quiet_want
       apply quiet_by
       · intro w4 hw4
         obtain ⟨k0, k1, k2, k3, k4, k5, k6, k7, k8, k9⟩ := FX.out w4 hw4
         go_simp
         first
           | rfl
           | (go_at_call 49; exact class_of hw4 (RC.out _))
           | (simp [k0, k1, k2, k3, k4, k5, k6, k7, k8, k9]; rfl)
       · go_simp; rfl
       go_big_quiet_on))
  refine wpQuiet_nil ?_
  intro w5 hw5
  go_wp2
  go_ret2
  exact ⟨rfl, B0.out.trans (hw5.mono B0.out.size)⟩
set_option maxHeartbeats 2000000 in
theorem rtake_3 {w : World} {g : Nat} (cl ep num : Int) (uw : Bool) (body : ByteArray) (sends lst : Int) (h : IsC 86 w g ⟨cl, ep, num, uw, body, sends, lst⟩) (k f t e s : Int) (b : ByteArray) (hp : Fr.Wf ⟨k, f, t, e, s, b⟩) (hs : b.size ≤ maxLen) (h0 : (uw) = true) (h1 : (Fr.rightB ⟨k, f, t, e, s, b⟩) = true) (h2 : (k != 2) = false) (h3 : (t != cl) = true) :
    Calls Try.prog 38 #[pC g, .agg #[.int .u8 k, .int .u8 f, .int .u8 t, .int .u32 e, .int .u32 s, .string b]] w fun x w' => x = .returned (.tuple #[.string ⟨#[]⟩, .bool false]) ∧ Below w.heap.size w w' := by
  subst h0
  have RC : Hid (∀ W, Calls Try.prog 49 #[.agg #[.int .u8 k, .int .u8 f, .int .u8 t, .int .u32 e, .int .u32 s, .string b]] W fun x w' => x = .returned (.bool true) ∧ Below W.heap.size W w') := fun W => by
    have := rright_c ⟨k, f, t, e, s, b⟩ hp hs W
    rw [h1] at this
    exact this
  clear h1
  have b0 : Below w.heap.size w (w.alloc (.cells #[.int .u8 k, .int .u8 f, .int .u8 t, .int .u32 e, .int .u32 s, .string b] 39)) := (Below.refl _ _).alloc (Nat.le_refl _) _
  have hlt := h.lt
  have hc := h.later b0
  have hP := PkAt.new w ⟨k, f, t, e, s, b⟩
  have FX : Hid (∀ W, Below (w.alloc (.cells #[.int .u8 k, .int .u8 f, .int .u8 t, .int .u32 e, .int .u32 s, .string b] 39)).heap.size (w.alloc (.cells #[.int .u8 k, .int .u8 f, .int .u8 t, .int .u32 e, .int .u32 s, .string b] 39)) W → W.cell? ⟨g, 0, none⟩ = some (.int .u8 cl) ∧ W.cell? ⟨g, 1, none⟩ = some (.int .u32 ep) ∧ W.cell? ⟨g, 2, none⟩ = some (.int .u32 num) ∧ W.cell? ⟨w.heap.size, 0, none⟩ = some (.int .u8 k) ∧ W.cell? ⟨w.heap.size, 1, none⟩ = some (.int .u8 f) ∧ W.cell? ⟨w.heap.size, 2, none⟩ = some (.int .u8 t) ∧ W.cell? ⟨w.heap.size, 3, none⟩ = some (.int .u32 e) ∧ W.cell? ⟨w.heap.size, 4, none⟩ = some (.int .u32 s) ∧ W.cell? ⟨w.heap.size, 5, none⟩ = some (.string b) ∧ W.cell? ⟨g, 3, none⟩ = some (.bool true)) := fun W hW => by
    obtain ⟨a0, a1, a2, a3, _⟩ := (hc.later hW).cells
    obtain ⟨q0, q1, q2, q3, q4, q5, _⟩ := (hP.later hW).cells
    exact ⟨a0, a1, a2, q0, q1, q2, q3, q4, q5, a3⟩
  have HC := hid hc
  have B0 := hid b0
  have hne : ¬ w.heap.size = g := by omega
  have hne' : ¬ g = w.heap.size := by omega
  clear hc hP h b0 hp hs
  go_enter Try.func38, Try.ntmps38
  go_wp2_with fail
  generalize (w.alloc (.cells #[.int .u8 k, .int .u8 f, .int .u8 t, .int .u32 e, .int .u32 s, .string b] 39)) = W0 at *
  refine wp_region_class (by kernel_rfl) (by kernel_rfl) ?_
  repeat (first
    | go_big_quiet_skip
    | (go_big_quiet_want
       apply quiet_by
       · intro w4 hw4
         obtain ⟨k0, k1, k2, k3, k4, k5, k6, k7, k8, k9⟩ := FX.out w4 hw4
         go_simp
         first
           | rfl
           | (go_at_call 49; exact class_of hw4 (RC.out _))
           | (simp [k0, k1, k2, k3, k4, k5, k6, k7, k8, k9]; rfl)
       · go_simp; rfl
       go_big_quiet_on))
  refine wpQuiet_nil ?_
  intro w5 hw5
  go_wp2
  go_ret2
  exact ⟨rfl, B0.out.trans (hw5.mono B0.out.size)⟩
set_option maxHeartbeats 2000000 in
theorem rtake_4 {w : World} {g : Nat} (cl ep num : Int) (uw : Bool) (body : ByteArray) (sends lst : Int) (h : IsC 86 w g ⟨cl, ep, num, uw, body, sends, lst⟩) (k f t e s : Int) (b : ByteArray) (hp : Fr.Wf ⟨k, f, t, e, s, b⟩) (hs : b.size ≤ maxLen) (h0 : (uw) = true) (h1 : (Fr.rightB ⟨k, f, t, e, s, b⟩) = true) (h2 : (k != 2) = false) (h3 : (t != cl) = false) (h4 : (e != ep) = true) :
    Calls Try.prog 38 #[pC g, .agg #[.int .u8 k, .int .u8 f, .int .u8 t, .int .u32 e, .int .u32 s, .string b]] w fun x w' => x = .returned (.tuple #[.string ⟨#[]⟩, .bool false]) ∧ Below w.heap.size w w' := by
  subst h0
  have RC : Hid (∀ W, Calls Try.prog 49 #[.agg #[.int .u8 k, .int .u8 f, .int .u8 t, .int .u32 e, .int .u32 s, .string b]] W fun x w' => x = .returned (.bool true) ∧ Below W.heap.size W w') := fun W => by
    have := rright_c ⟨k, f, t, e, s, b⟩ hp hs W
    rw [h1] at this
    exact this
  clear h1
  have b0 : Below w.heap.size w (w.alloc (.cells #[.int .u8 k, .int .u8 f, .int .u8 t, .int .u32 e, .int .u32 s, .string b] 39)) := (Below.refl _ _).alloc (Nat.le_refl _) _
  have hlt := h.lt
  have hc := h.later b0
  have hP := PkAt.new w ⟨k, f, t, e, s, b⟩
  have FX : Hid (∀ W, Below (w.alloc (.cells #[.int .u8 k, .int .u8 f, .int .u8 t, .int .u32 e, .int .u32 s, .string b] 39)).heap.size (w.alloc (.cells #[.int .u8 k, .int .u8 f, .int .u8 t, .int .u32 e, .int .u32 s, .string b] 39)) W → W.cell? ⟨g, 0, none⟩ = some (.int .u8 cl) ∧ W.cell? ⟨g, 1, none⟩ = some (.int .u32 ep) ∧ W.cell? ⟨g, 2, none⟩ = some (.int .u32 num) ∧ W.cell? ⟨w.heap.size, 0, none⟩ = some (.int .u8 k) ∧ W.cell? ⟨w.heap.size, 1, none⟩ = some (.int .u8 f) ∧ W.cell? ⟨w.heap.size, 2, none⟩ = some (.int .u8 t) ∧ W.cell? ⟨w.heap.size, 3, none⟩ = some (.int .u32 e) ∧ W.cell? ⟨w.heap.size, 4, none⟩ = some (.int .u32 s) ∧ W.cell? ⟨w.heap.size, 5, none⟩ = some (.string b) ∧ W.cell? ⟨g, 3, none⟩ = some (.bool true)) := fun W hW => by
    obtain ⟨a0, a1, a2, a3, _⟩ := (hc.later hW).cells
    obtain ⟨q0, q1, q2, q3, q4, q5, _⟩ := (hP.later hW).cells
    exact ⟨a0, a1, a2, q0, q1, q2, q3, q4, q5, a3⟩
  have HC := hid hc
  have B0 := hid b0
  have hne : ¬ w.heap.size = g := by omega
  have hne' : ¬ g = w.heap.size := by omega
  clear hc hP h b0 hp hs
  go_enter Try.func38, Try.ntmps38
  go_wp2_with fail
  generalize (w.alloc (.cells #[.int .u8 k, .int .u8 f, .int .u8 t, .int .u32 e, .int .u32 s, .string b] 39)) = W0 at *
  refine wp_region_class (by kernel_rfl) (by kernel_rfl) ?_
  repeat (first
    | go_big_quiet_skip
    | (go_big_quiet_want
       apply quiet_by
       · intro w4 hw4
         obtain ⟨k0, k1, k2, k3, k4, k5, k6, k7, k8, k9⟩ := FX.out w4 hw4
         go_simp
         first
           | rfl
           | (go_at_call 49; exact class_of hw4 (RC.out _))
           | (simp [k0, k1, k2, k3, k4, k5, k6, k7, k8, k9]; rfl)
       · go_simp; rfl
       go_big_quiet_on))
  refine wpQuiet_nil ?_
  intro w5 hw5
  go_wp2
  go_ret2
  exact ⟨rfl, B0.out.trans (hw5.mono B0.out.size)⟩
set_option maxHeartbeats 2000000 in
theorem rtake_5 {w : World} {g : Nat} (cl ep num : Int) (uw : Bool) (body : ByteArray) (sends lst : Int) (h : IsC 86 w g ⟨cl, ep, num, uw, body, sends, lst⟩) (k f t e s : Int) (b : ByteArray) (hp : Fr.Wf ⟨k, f, t, e, s, b⟩) (hs : b.size ≤ maxLen) (h0 : (uw) = true) (h1 : (Fr.rightB ⟨k, f, t, e, s, b⟩) = true) (h2 : (k != 2) = false) (h3 : (t != cl) = false) (h4 : (e != ep) = false) (h5 : (s != num) = true) :
    Calls Try.prog 38 #[pC g, .agg #[.int .u8 k, .int .u8 f, .int .u8 t, .int .u32 e, .int .u32 s, .string b]] w fun x w' => x = .returned (.tuple #[.string ⟨#[]⟩, .bool false]) ∧ Below w.heap.size w w' := by
  subst h0
  have RC : Hid (∀ W, Calls Try.prog 49 #[.agg #[.int .u8 k, .int .u8 f, .int .u8 t, .int .u32 e, .int .u32 s, .string b]] W fun x w' => x = .returned (.bool true) ∧ Below W.heap.size W w') := fun W => by
    have := rright_c ⟨k, f, t, e, s, b⟩ hp hs W
    rw [h1] at this
    exact this
  clear h1
  have b0 : Below w.heap.size w (w.alloc (.cells #[.int .u8 k, .int .u8 f, .int .u8 t, .int .u32 e, .int .u32 s, .string b] 39)) := (Below.refl _ _).alloc (Nat.le_refl _) _
  have hlt := h.lt
  have hc := h.later b0
  have hP := PkAt.new w ⟨k, f, t, e, s, b⟩
  have FX : Hid (∀ W, Below (w.alloc (.cells #[.int .u8 k, .int .u8 f, .int .u8 t, .int .u32 e, .int .u32 s, .string b] 39)).heap.size (w.alloc (.cells #[.int .u8 k, .int .u8 f, .int .u8 t, .int .u32 e, .int .u32 s, .string b] 39)) W → W.cell? ⟨g, 0, none⟩ = some (.int .u8 cl) ∧ W.cell? ⟨g, 1, none⟩ = some (.int .u32 ep) ∧ W.cell? ⟨g, 2, none⟩ = some (.int .u32 num) ∧ W.cell? ⟨w.heap.size, 0, none⟩ = some (.int .u8 k) ∧ W.cell? ⟨w.heap.size, 1, none⟩ = some (.int .u8 f) ∧ W.cell? ⟨w.heap.size, 2, none⟩ = some (.int .u8 t) ∧ W.cell? ⟨w.heap.size, 3, none⟩ = some (.int .u32 e) ∧ W.cell? ⟨w.heap.size, 4, none⟩ = some (.int .u32 s) ∧ W.cell? ⟨w.heap.size, 5, none⟩ = some (.string b) ∧ W.cell? ⟨g, 3, none⟩ = some (.bool true)) := fun W hW => by
    obtain ⟨a0, a1, a2, a3, _⟩ := (hc.later hW).cells
    obtain ⟨q0, q1, q2, q3, q4, q5, _⟩ := (hP.later hW).cells
    exact ⟨a0, a1, a2, q0, q1, q2, q3, q4, q5, a3⟩
  have HC := hid hc
  have B0 := hid b0
  have hne : ¬ w.heap.size = g := by omega
  have hne' : ¬ g = w.heap.size := by omega
  clear hc hP h b0 hp hs
  go_enter Try.func38, Try.ntmps38
  go_wp2_with fail
  generalize (w.alloc (.cells #[.int .u8 k, .int .u8 f, .int .u8 t, .int .u32 e, .int .u32 s, .string b] 39)) = W0 at *
  refine wp_region_class (by kernel_rfl) (by kernel_rfl) ?_
  repeat (first
    | go_big_quiet_skip
    | (go_big_quiet_want
       apply quiet_by
       · intro w4 hw4
         obtain ⟨k0, k1, k2, k3, k4, k5, k6, k7, k8, k9⟩ := FX.out w4 hw4
         go_simp
         first
           | rfl
           | (go_at_call 49; exact class_of hw4 (RC.out _))
           | (simp [k0, k1, k2, k3, k4, k5, k6, k7, k8, k9]; rfl)
       · go_simp; rfl
       go_big_quiet_on))
  refine wpQuiet_nil ?_
  intro w5 hw5
  go_wp2
  go_ret2
  exact ⟨rfl, B0.out.trans (hw5.mono B0.out.size)⟩
set_option maxHeartbeats 2000000 in
theorem rtake_6 {w : World} {g : Nat} (cl ep num : Int) (uw : Bool) (body : ByteArray) (sends lst : Int) (h : IsC 86 w g ⟨cl, ep, num, uw, body, sends, lst⟩) (k f t e s : Int) (b : ByteArray) (hp : Fr.Wf ⟨k, f, t, e, s, b⟩) (hs : b.size ≤ maxLen) (h0 : (uw) = true) (h1 : (Fr.rightB ⟨k, f, t, e, s, b⟩) = true) (h2 : (k != 2) = false) (h3 : (t != cl) = false) (h4 : (e != ep) = false) (h5 : (s != num) = false) :
    Calls Try.prog 38 #[pC g, .agg #[.int .u8 k, .int .u8 f, .int .u8 t, .int .u32 e, .int .u32 s, .string b]] w fun x w' => x = .returned (.tuple #[.string b, .bool true]) ∧ IsC 86 w' g (rdoneS ⟨cl, ep, num, uw, body, sends, lst⟩) ∧ Ou (fun k => k = g) w w' := by
  subst h0
  have RC : Hid (∀ W, Calls Try.prog 49 #[.agg #[.int .u8 k, .int .u8 f, .int .u8 t, .int .u32 e, .int .u32 s, .string b]] W fun x w' => x = .returned (.bool true) ∧ Below W.heap.size W w') := fun W => by
    have := rright_c ⟨k, f, t, e, s, b⟩ hp hs W
    rw [h1] at this
    exact this
  clear h1
  have b0 : Below w.heap.size w (w.alloc (.cells #[.int .u8 k, .int .u8 f, .int .u8 t, .int .u32 e, .int .u32 s, .string b] 39)) := (Below.refl _ _).alloc (Nat.le_refl _) _
  have hlt := h.lt
  have hc := h.later b0
  have hP := PkAt.new w ⟨k, f, t, e, s, b⟩
  have FX : Hid (∀ W, Below (w.alloc (.cells #[.int .u8 k, .int .u8 f, .int .u8 t, .int .u32 e, .int .u32 s, .string b] 39)).heap.size (w.alloc (.cells #[.int .u8 k, .int .u8 f, .int .u8 t, .int .u32 e, .int .u32 s, .string b] 39)) W → W.cell? ⟨g, 0, none⟩ = some (.int .u8 cl) ∧ W.cell? ⟨g, 1, none⟩ = some (.int .u32 ep) ∧ W.cell? ⟨g, 2, none⟩ = some (.int .u32 num) ∧ W.cell? ⟨w.heap.size, 0, none⟩ = some (.int .u8 k) ∧ W.cell? ⟨w.heap.size, 1, none⟩ = some (.int .u8 f) ∧ W.cell? ⟨w.heap.size, 2, none⟩ = some (.int .u8 t) ∧ W.cell? ⟨w.heap.size, 3, none⟩ = some (.int .u32 e) ∧ W.cell? ⟨w.heap.size, 4, none⟩ = some (.int .u32 s) ∧ W.cell? ⟨w.heap.size, 5, none⟩ = some (.string b) ∧ W.cell? ⟨g, 3, none⟩ = some (.bool true)) := fun W hW => by
    obtain ⟨a0, a1, a2, a3, _⟩ := (hc.later hW).cells
    obtain ⟨q0, q1, q2, q3, q4, q5, _⟩ := (hP.later hW).cells
    exact ⟨a0, a1, a2, q0, q1, q2, q3, q4, q5, a3⟩
  have HC := hid hc
  have B0 := hid b0
  have hne : ¬ w.heap.size = g := by omega
  have hne' : ¬ g = w.heap.size := by omega
  clear hc hP h b0 hp hs
  go_enter Try.func38, Try.ntmps38
  go_wp2_with fail
  generalize (w.alloc (.cells #[.int .u8 k, .int .u8 f, .int .u8 t, .int .u32 e, .int .u32 s, .string b] 39)) = W0 at *
  refine wp_region_class (by kernel_rfl) (by kernel_rfl) ?_
  repeat (first
    | go_big_quiet_skip
    | (go_big_quiet_want
       apply quiet_by
       · intro w4 hw4
         obtain ⟨k0, k1, k2, k3, k4, k5, k6, k7, k8, k9⟩ := FX.out w4 hw4
         go_simp
         first
           | rfl
           | (go_at_call 49; exact class_of hw4 (RC.out _))
           | (simp [k0, k1, k2, k3, k4, k5, k6, k7, k8, k9]; rfl)
       · go_simp; rfl
       go_big_quiet_on))
  refine wpQuiet_nil ?_
  intro w5 hw5
  obtain ⟨k0, k1, k2, k3, k4, k5, k6, k7, k8, k9⟩ := FX.out w5 hw5
  have f3 := (HC.out.later hw5).cells.2.2.2.2.2.2.2 3
  go_wp2
  go_ret2
  exact ⟨rfl, row_set 3 _ (HC.out.later hw5), (Ou.of (B0.out.trans (hw5.mono B0.out.size))).trans ((Ou.refl (fun k => k = g) _).set rfl)⟩
end Go.Proofs.Ytjgpolaogneoaaa
