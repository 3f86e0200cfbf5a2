/-
  What the document's answer for packets returns: whether one is right, its bytes.
-/
import Derived.Test.YteimegacnmakaaaFOpen
namespace Go.Proofs.Yteimegacnmakaaa
open Go.RowKit Go.ChangeShapes Go.WideShapes Go.ChangeAt
open Go.BigFrame
set_option linter.unusedVariables false
set_option linter.unusedSimpArgs false
theorem step_append_own {P : Program} (w : World) {ops : Array Oper} {o : Oper} {a : Act} {K : Act → World → Prop} {Q : Exit → Act → World → Prop} {E : Prop} (hgd : o.guard = none) (s x : Operand) (t : TypeId)
    (ho : o.op = .call { callee := .builtin .append, args := #[s, x], argTypes := #[t, t] })
    (base : Nat) (e : TypeId) (i : TypeInfo) (z : Value) (size bytes : Nat) (ht : P.underlying t = some (.slice e)) (hi : P.info? e = some i) (hz : i.zero = some z)
    (hsize : i.size = size) (hby : i.bytes = bytes) (hzs : z.cells.size = size) (hsz : 0 < size)
    (v : Value) (n : Nat) (xs : List Value) (hs : a.eval s = v) (hown : w.ownsRow base e size v n xs)
    (ad : Addr) (m c : Nat) (news : List Value) (hx : a.eval x = .slice (some ad) m c) (hl : news.length = m * size) (hnews : ∀ j u, news[j]? = some u → w.cell? (ad.add j) = some u) (h1 : ∀ u ∈ news, u.oneCell' = true)
    (h63 : n + m ≤ maxLen) (hbytes : (n + m) * bytes ≤ 140737488355328) (hbase : base ≤ w.heap.size)
    (h : ∀ v' w', w'.ownsRow base e size v' (n + m) (xs ++ news) → w.grownBy w' v.ownBlock → (v' = .slice none 0 0 ↔ v = .slice none 0 0 ∧ m = 0) → K (a.put o.dst v') w') :
    if Region.wanted o (yielded ops a.tmps) = true then Oper.wp P o a w K Q else E := by
  rw [if_pos (by simp [Region.wanted, hgd])]
  exact wp_append_own w s x t ho base e i z size bytes ht hi hz hsize hby hzs hsz v n xs hs hown ad m c news hx hl hnews h1 h63 hbytes hbase h
theorem PB.grown {w w' : World} {B base : Nat} {p : Fr.Pk} {row : Option Nat} (h : PB w B p) (hg : w.grownBy w' row) (hr : ∀ k, row = some k → base ≤ k) (hb : B < base) : PB w' B p := by
  unfold PB at *; rw [hg.block B (lt_of_blk h) (fun e => by have := hr B e.symm; omega)]; exact h
theorem u8_one (l : List Int) : ∀ u ∈ l.map u8V, u.oneCell' = true := fun y hy => by obtain ⟨x, _, rfl⟩ := List.mem_map.1 hy; rfl
theorem new_cells (w : World) (l : List Int) (t : TypeId) : ∀ j u, (l.map u8V)[j]? = some u → (w.alloc (.cells (l.map u8V).toArray t)).cell? ((⟨w.heap.size, 0, none⟩ : Addr).add j) = some u := by
  have := World.news_of_block (heap_alloc_new w (.cells (l.map u8V).toArray t))
  simpa using this
theorem rr_aux (x : Bool) (s : Int) (n : Nat) (h1 : ¬ s = 0) (h2 : n ≤ 16384) : x = (x && s != 0 && decide (n ≤ 16384)) := by
  have e1 : (s != 0) = true := by simpa using h1
  simp [e1, h2]
theorem rr_aux2 {f t s : Int} {n : Nat} (h : ((3 < f ∨ 3 < t) ∨ (s == 0) = true) ∨ (16384 : Int) < n) (h1 : f ≤ 3) (h2 : t ≤ 3) (h3 : ¬ s = 0) : 16384 < n := by
  rcases h with ((h | h) | h) | h
  · omega
  · omega
  · exact absurd (beq_iff_eq.1 h) h3
  · omega
theorem step_append_text {P : Program} (w : World) {ops : Array Oper} {o : Oper} {a : Act} {K : Act → World → Prop} {Q : Exit → Act → World → Prop} {E : Prop} (hgd : o.guard = none) (sl x : Operand) (t u : TypeId)
    (ho : o.op = .call { callee := .builtin .append, args := #[sl, x], argTypes := #[t, u] })
    (base : Nat) (e : TypeId) (i : TypeInfo) (ht : P.underlying t = some (.slice e)) (hu : P.underlying u = some .string) (hi : P.info? e = some i) (hz : i.zero = some (.int .u8 0))
    (hsize : i.size = 1) (hby : i.bytes = 1)
    (v : Value) (n : Nat) (xs : List Value) (hs : a.eval sl = v) (hown : w.ownsRow base e 1 v n xs) (s : ByteArray) (hx : a.eval x = .string s)
    (h63 : n + s.size ≤ maxLen) (hbytes : n + s.size ≤ 140737488355328) (hbase : base ≤ w.heap.size)
    (h : ∀ v' w', w'.ownsRow base e 1 v' (n + s.size) (xs ++ Lib.strCells s) → w.grownBy w' v.ownBlock → K (a.put o.dst v') w') :
    if Region.wanted o (yielded ops a.tmps) = true then Oper.wp P o a w K Q else E := by
  rw [if_pos (by simp [Region.wanted, hgd])]
  obtain ⟨v', w', hr, h2, h3, h4⟩ := Lib.run_append_own_string (P := P) w base t u o.type e i ht hu hi hz hsize hby v n xs hown s h63 hbytes hbase
  unfold Oper.wp execOp
  simp only [ho, resolve, invoke, builtin, Sem.run_bind, Sem.run_pure, Result.andThen_ok, List.map_toArray, List.map_cons, List.map_nil, hs, hx, hr]
  exact h v' w' h2 h3
set_option maxHeartbeats 2000000 in
theorem rright_c (p : Fr.Pk) (hp : Fr.Wf p) (hs : p.b.size ≤ maxLen) (w : World) :
    Calls Try.prog 13 #[Fr.val p] w fun e' w' => e' = .returned (.bool (Fr.rightB p)) ∧ Below w.heap.size w w' := by
  obtain ⟨k, f, t, e, s, b⟩ := p
  obtain ⟨hk, hf, ht, he, hs'⟩ := hp
  rw [show Fr.val ⟨k, f, t, e, s, b⟩ = .agg #[.int .u8 k, .int .u8 f, .int .u8 t, .int .u32 e, .int .u32 s, .string b] from rfl]
  unfold maxLen at hs
  simp only at hk hf ht he hs' hs
  go_enter Try.func13, Try.ntmps13
  go_wp2
  all_goals
    go_ret
    exact ⟨ret_bool (by unfold Fr.rightB; simp [*] <;> first | omega | (intro hh; omega) | (intro hh; exact rr_aux2 ‹((3 < f ∨ 3 < t) ∨ (s == 0) = true) ∨ (16384 : Int) < ↑b.size› ‹f ≤ 3› ‹t ≤ 3› ‹¬ s = 0›) | exact rr_aux _ _ _ ‹_› (by omega)), (Below.refl _ _).alloc (Nat.le_refl _) _⟩
set_option maxHeartbeats 400000 in
theorem four_c (n : Int) (h0 : 0 ≤ n) (h1 : n < 4294967296) (w : World) :
    Calls Try.prog 23 #[.int .u32 n] w fun e w' => e = .returned (.slice (some ⟨w.heap.size, 0, none⟩) 4 4) ∧ w' = w.alloc (.cells ((Fr.le4 n).map u8V).toArray 5) := by
  go_enter Try.func23, Try.ntmps23
  go_wp2
  go_ret
  refine ⟨rfl, ?_⟩
  have h9 : n / 16777216 % 256 = n / 16777216 := by omega
  simp [Fr.le4, u8V, IntKind.wrap_u8', h9]
set_option maxHeartbeats 400000 in
theorem rnumber4_c (a : Option Addr) (cap : Nat) (zs : List Int) (w : World) (hb : IsB w a 4 zs) :
    Calls Try.prog 27 #[.slice a 4 cap] w fun e w' => e = .returned (.int .u32 (Fr.at4 zs 0)) ∧ ∃ n, w' = w.drewN n := by
  obtain ⟨hl, hm, hc, hz⟩ := hb
  obtain ⟨b, off, rfl, hcell⟩ := hc (by omega)
  have c0 : w.cell? ⟨b, off, none⟩ = some (.int .u8 (zs.getD 0 0)) := hcell 0 (by omega)
  have c1 := hcell 1 (by omega)
  have c2 := hcell 2 (by omega)
  have c3 := hcell 3 (by omega)
  have z0 := hz 0
  have z1 := hz 1
  have z2 := hz 2
  have z3 := hz 3
  have E : Hid (Fr.at4 zs 0 = Fr.num4 (zs.getD 0 0) (zs.getD 1 0) (zs.getD 2 0) (zs.getD 3 0)) := rfl
  generalize zs.getD 0 0 = x0 at *
  generalize zs.getD 1 0 = x1 at *
  generalize zs.getD 2 0 = x2 at *
  generalize zs.getD 3 0 = x3 at *
  clear hc hcell hz hl hm
  go_enter Try.func27, Try.ntmps27
  go_wp2_with fail
  go_quiet (fail)
  go_wp2
  go_ret
  refine ⟨ret_int ?_, _, rfl⟩
  rw [E.out]; unfold Fr.num4
  first | omega | (rw [IntKind.wrap_u32]; omega) | (simp only [IntKind.wrap_u32]; omega)
set_option maxHeartbeats 2000000 in
theorem rencode_c (p : Fr.Pk) (hw : Fr.Wf p) (hs : p.b.size ≤ maxLen) (w : World) :
    Calls Try.prog 10 #[Fr.val p] w (EncPost p w) := by
  obtain ⟨k, f, t, e, s, b⟩ := p
  have HW := hid hw
  have C := fun w => rright_c ⟨k, f, t, e, s, b⟩ hw hs w
  rw [show Fr.val ⟨k, f, t, e, s, b⟩ = .agg #[.int .u8 k, .int .u8 f, .int .u8 t, .int .u32 e, .int .u32 s, .string b] from rfl] at C ⊢
  have HC : Hid _ := C
  clear C
  cases hc : Fr.rightB ⟨k, f, t, e, s, b⟩ with
  | false =>
    clear hw hs
    go_enter Try.func10, Try.ntmps10
    go_wp2_with (go_at_call 13; refine (HC.out _).mono ?_; rintro e w' ⟨rfl, hb⟩; rw [hc])
    go_ret2
    exact ⟨.inr ⟨hc, rfl⟩, ((Below.refl _ _).alloc (Nat.le_refl _) _).trans (hb.mono (by simp))⟩
  | true =>
    have hsz := Fr.right_size hc
    simp only at hsz
    obtain ⟨i0, hi, hz0, hz1, hz2⟩ := info_parts8
    clear hw hs
    go_enter Try.func10, Try.ntmps10
    go_wp2_with fail
    refine (HC.out _).mono ?_
    have hP0 : PB (w.alloc (.cells #[.int .u8 k, .int .u8 f, .int .u8 t, .int .u32 e, .int .u32 s, .string b] 25)) w.heap.size ⟨k, f, t, e, s, b⟩ := heap_alloc_new w _
    have hB0 : Below w.heap.size w (w.alloc (.cells #[.int .u8 k, .int .u8 f, .int .u8 t, .int .u32 e, .int .u32 s, .string b] 25)) := (Below.refl _ _).alloc (Nat.le_refl _) _
    generalize (w.alloc (.cells #[.int .u8 k, .int .u8 f, .int .u8 t, .int .u32 e, .int .u32 s, .string b] 25)) = W at *
    rintro _ w1 ⟨rfl, hb1⟩
    rw [hc]
    have hB1 := hB0.trans (hb1.mono hB0.size)
    have hP1 := hP0.later hb1
    obtain ⟨c0, c1, c2, c3, c4, c5⟩ := hP1.cells
    go_wp2_with fail
    have hO2 : (w1.alloc (.cells #[.int .u8 66, .int .u8 87, .int .u8 k, .int .u8 f, .int .u8 t] 5)).ownsRow w1.heap.size 5 1 (.slice (some ⟨w1.heap.size, 0, none⟩) 5 5) 5 ([66, 87, k, f, t].map u8V) := ⟨rfl, .inr ⟨w1.heap.size, 5, _, rfl, Nat.le_refl _, heap_alloc_new w1 _, Nat.le_refl _, by unfold maxLen; omega, rfl, rfl⟩⟩
    have hP2 := hP1.alloc (.cells #[.int .u8 66, .int .u8 87, .int .u8 k, .int .u8 f, .int .u8 t] 5)
    have hB2 := hB1.alloc hB1.size (.cells #[.int .u8 66, .int .u8 87, .int .u8 k, .int .u8 f, .int .u8 t] 5)
    have hz2' : w1.heap.size ≤ (w1.alloc (.cells #[.int .u8 66, .int .u8 87, .int .u8 k, .int .u8 f, .int .u8 t] 5)).heap.size := by simp
    have hlt1 := hP1.lt
    generalize (w1.alloc (.cells #[.int .u8 66, .int .u8 87, .int .u8 k, .int .u8 f, .int .u8 t] 5)) = w2 at *
    clear c0 c1 c2 c3 c4 c5
    obtain ⟨c0, c1, c2, c3, c4, c5⟩ := hP2.cells
    have he := HW.out.2.2.2.1
    have hss := HW.out.2.2.2.2
    simp only at he hss
    go_region_held3 (fun w' => w'.cell? ⟨w.heap.size, 3, none⟩ = some (.int .u32 e) ∧ w'.cell? ⟨w.heap.size, 4, none⟩ = some (.int .u32 s)) (first | go_keep | (exact ⟨c3, c4⟩)) (first
      | (go_at_call 23; refine (four_c _ (by omega) (by omega) _).mono ?_; rintro _ w3 ⟨rfl, rfl⟩)
      | (refine step_append_own _ (by rfl) (.tmp 15) (.tmp 18) 26 (by rfl) w1.heap.size 5 i0 (.int .u8 0) 1 1 Try.underlying26 hi hz0 hz1 hz2 rfl (by decide) (.slice (some ⟨w1.heap.size, 0, none⟩) 5 5) 5 _ (by rfl) (World.ownsRow.alloc (w := w2.drew) hO2 _) ⟨w2.heap.size, 0, none⟩ 4 4 _ (by rfl) (by rfl) (new_cells w2.drew (Fr.le4 e) 5) (u8_one _) (by unfold maxLen; omega) (by omega) (by simp; omega) ?_; intro v4 w4 hown4 hgrow4 hnil4; (have hP4 : PB w4 w.heap.size ⟨k, f, t, e, s, b⟩ := PB.grown (PB.alloc (w := w2.drew) hP2 _) hgrow4 (fun q hq => (World.ownsRow.lt hO2 q hq).1) hlt1); (obtain ⟨_, _, _, c43, c44, c45⟩ := hP4.cells))
      | (refine step_append_own _ (by rfl) (.tmp 19) (.tmp 22) 26 (by rfl) w1.heap.size 5 i0 (.int .u8 0) 1 1 Try.underlying26 hi hz0 hz1 hz2 rfl (by decide) v4 9 _ (by rfl) (World.ownsRow.alloc hown4 _) ⟨w4.heap.size, 0, none⟩ 4 4 _ (by rfl) (by rfl) (new_cells w4 (Fr.le4 s) 5) (u8_one _) (by unfold maxLen; omega) (by omega) (by have := hgrow4.size; simp at this ⊢; omega) ?_; intro v5 w5 hown5 hgrow5 hnil5; (have hP5 : PB w5 w.heap.size ⟨k, f, t, e, s, b⟩ := PB.grown (PB.alloc hP4 _) hgrow5 (fun q hq => (World.ownsRow.lt hown4 q hq).1) hlt1); (obtain ⟨_, _, _, c53, c54, c55⟩ := hP5.cells)))
    have hz5 : w1.heap.size ≤ w5.heap.size := by have h8 := hgrow4.size; have h9 := hgrow5.size; simp at h8 h9; omega
    have hB4 : Below w.heap.size w w4 := Below.grown (w := w2.drew.alloc (.cells ((Fr.le4 e).map u8V).toArray 5)) ((Below.drew hB2).alloc (by have := hB2.size; simp; omega) _) hgrow4 (by have := hB2.size; simp; omega) (fun q hq => Nat.le_trans hB1.size (World.ownsRow.lt hO2 q hq).1)
    have hB5 : Below w.heap.size w w5 := Below.grown (hB4.alloc hB4.size _) hgrow5 (by have := hB4.size; simp; omega) (fun q hq => Nat.le_trans hB1.size (World.ownsRow.lt hown4 q hq).1)
    clear hgrow4 hgrow5 hnil4 hnil5 hO2 hown4 c43 c44 c45 c0 c1 c2 c3 c4 c5 hP2 hP4
    go_wp2_with fail
    go_region_held3 (fun w' => w'.cell? ⟨w.heap.size, 5, none⟩ = some (.string b)) (first | go_keep | (exact c55)) (first
      | (refine step_append_own _ (by rfl) (.tmp 24) (.tmp 34) 26 (by rfl) w1.heap.size 5 i0 (.int .u8 0) 1 1 Try.underlying26 hi hz0 hz1 hz2 rfl (by decide) v5 13 _ (by rfl) (World.ownsRow.alloc (w := w5.drew) hown5 _) ⟨w5.heap.size, 0, none⟩ 2 2 _ (by rfl) (by rfl) (World.news_of_block (heap_alloc_new w5.drew _)) (by intro u hu; simp at hu; rcases hu with rfl | rfl <;> rfl) (by unfold maxLen; omega) (by omega) (by simp; omega) ?_; intro v6 w6 hown6 hgrow6 hnil6; (have hP6 : PB w6 w.heap.size ⟨k, f, t, e, s, b⟩ := PB.grown (PB.alloc (w := w5.drew) hP5 _) hgrow6 (fun q hq => (World.ownsRow.lt hown5 q hq).1) hlt1); (obtain ⟨_, _, _, _, _, c65⟩ := hP6.cells))
      | (refine step_append_text _ (by rfl) (.tmp 35) (.tmp 37) 26 9 (by rfl) w1.heap.size 5 i0 Try.underlying26 Try.underlying9 hi hz0 hz1 hz2 v6 15 _ (by rfl) hown6 b (by rfl) (by unfold maxLen; omega) (by omega) (by have := hgrow6.size; simp at this; omega) ?_; intro v7 w7 hown7 hgrow7; (have hP7 : PB w7 w.heap.size ⟨k, f, t, e, s, b⟩ := PB.grown hP6 hgrow7 (fun q hq => (World.ownsRow.lt hown6 q hq).1) hlt1); (obtain ⟨_, _, _, _, _, c75⟩ := hP7.cells)))
    have hB6 : Below w.heap.size w w6 := Below.grown (w := w5.drew.alloc _) ((Below.drew hB5).alloc (by have := hB5.size; simp; omega) _) hgrow6 (by have := hB5.size; simp; omega) (fun q hq => Nat.le_trans hB1.size (World.ownsRow.lt hown5 q hq).1)
    have hB7 : Below w.heap.size w w7 := Below.grown hB6 hgrow7 hB6.size (fun q hq => Nat.le_trans hB1.size (World.ownsRow.lt hown6 q hq).1)
    have hz7 : w1.heap.size ≤ w7.heap.size := by have h8 := hgrow6.size; have h9 := hgrow7.size; simp at h8 h9; omega
    have HH : Hid (w7.ownsRow w1.heap.size 5 1 v7 (Fr.head ⟨k, f, t, e, s, b⟩).length ((Fr.head ⟨k, f, t, e, s, b⟩).map u8V)) := by
      have e1 : List.map u8V [66, 87, k, f, t] ++ List.map u8V (Fr.le4 e) ++ List.map u8V (Fr.le4 s) ++ #[Value.int IntKind.u8 (IntKind.u8.wrap ↑b.size), Value.int IntKind.u8 (IntKind.u8.wrap (↑b.size / 256))].toList ++ Lib.strCells b = (Fr.head ⟨k, f, t, e, s, b⟩).map u8V := by
        rw [strCells_bs]
        simp [Fr.head, Fr.le2, u8V, IntKind.wrap_u8']
      show World.ownsRow _ _ _ _ _ _ _
      rw [Fr.head_length, ← e1]
      exact hown7
    clear hgrow6 hgrow7 hnil6 hown5 hown6 hown7 hP5 hP6 c53 c54 c55 c65 c75
    obtain ⟨a7, cap7, rfl, hI7, hcap7⟩ := isB_pile (T := 0) (g := 0) (fun x hx => Fr.enc_byte ⟨k, f, t, e, s, b⟩ HW.out x (by unfold Fr.enc; simp [hx])) HH.out
    have HI7 := hid hI7
    have HF := hid (Fr.fold_lt (Fr.head ⟨k, f, t, e, s, b⟩))
    have HL : Hid ((Fr.head ⟨k, f, t, e, s, b⟩).length < 900000) := by have := Fr.head_length ⟨k, f, t, e, s, b⟩; simp only at this; show _ < _; omega
    have HE : Hid (Fr.enc ⟨k, f, t, e, s, b⟩ = Fr.head ⟨k, f, t, e, s, b⟩ ++ Fr.le4 (M.foldF (Fr.head ⟨k, f, t, e, s, b⟩))) := rfl
    clear hI7
    generalize Fr.head ⟨k, f, t, e, s, b⟩ = hd at *
    generalize hen : Fr.enc ⟨k, f, t, e, s, b⟩ = en at HE
    have HN := hid hen
    clear hen
    have hl7 := HL.out
    go_wp2_with fail
    refine (rfold_c _ _ _ _ _ HI7.out).mono ?_
    rintro _ w9 ⟨rfl, rfl⟩
    have hf := HF.out
    generalize M.foldF hd = fo at *
    clear HF
    go_wp2_with fail
    refine (four_c fo hf.1 hf.2 _).mono ?_
    rintro _ w10 ⟨rfl, rfl⟩
    go_wp2_with (at_builtin; refine wpList_append_own _ rfl _ _ 26 rfl w1.heap.size 5 i0 (.int .u8 0) 1 1 Try.underlying26 hi hz0 hz1 hz2 rfl (by decide) _ _ _ rfl (World.ownsRow.alloc HH.out _) ⟨w9.heap.size, 0, none⟩ 4 4 ((Fr.le4 fo).map u8V) rfl rfl (new_cells w9 (Fr.le4 fo) 5) (u8_one _) (by unfold maxLen; omega) (by omega) (by simp; omega) ?_; intro v11 w11 hown11 hgrow11 hnil11)
    go_ret2
    refine ⟨.inl ⟨hc, v11, rfl, ?_⟩, ?_⟩
    · have h8 : (Fr.enc ⟨k, f, t, e, s, b⟩).length = hd.length + 4 := by rw [HN.out, HE.out]; simp [Fr.le4]
      rw [h8, HN.out, HE.out, List.map_append]
      exact own_mono hown11 hB1.size
    · exact Below.grown (hB7.alloc hB7.size _) hgrow11 (by have := hB7.size; simp; omega) (fun q hq => Nat.le_trans hB1.size (World.ownsRow.lt HH.out q hq).1)
end Go.Proofs.Yteimegacnmakaaa
