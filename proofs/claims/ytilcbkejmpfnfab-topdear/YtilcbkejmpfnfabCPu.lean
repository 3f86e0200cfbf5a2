/-
  Room is made; an object is put.
-/
import Derived.Test.YtilcbkejmpfnfabCNx
namespace Go.Proofs.Ytilcbkejmpfnfab
open Go.RowKit Go.ChangeShapes Go.WideShapes Go.ChangeAt Go.Maps Go.Shelf
set_option linter.unusedVariables false
set_option linter.unusedSimpArgs false
set_option maxRecDepth 100000
/-- Rising rows of the same fids are the same. -/
theorem srt_eq : ∀ (a b : List Int), a.Pairwise (fun x y => x < y) → b.Pairwise (fun x y => x < y) → (∀ x, x ∈ a ↔ x ∈ b) → a = b
  | [], [], _, _, _ => rfl
  | [], y :: b, _, _, h => by have := (h y).2 (by simp); simp at this
  | x :: a, [], _, _, h => by have := (h x).1 (by simp); simp at this
  | x :: a, y :: b, ha, hb, h => by
    rw [List.pairwise_cons] at ha hb
    have hxy : x = y := by
      have h1 := (h x).1 (by simp)
      have h2 := (h y).2 (by simp)
      rw [List.mem_cons] at h1 h2
      rcases h1 with h1 | h1
      · exact h1
      · rcases h2 with h2 | h2
        · exact h2.symm
        · have := hb.1 x h1; have := ha.1 y h2; omega
    subst hxy
    congr 1
    refine srt_eq a b ha.2 hb.2 (fun z => ?_)
    constructor
    · intro hz
      have := (h z).1 (List.mem_cons_of_mem _ hz)
      rw [List.mem_cons] at this
      rcases this with e | e
      · have := ha.1 z hz; omega
      · exact e
    · intro hz
      have := (h z).2 (List.mem_cons_of_mem _ hz)
      rw [List.mem_cons] at this
      rcases this with e | e
      · have := hb.1 z hz; omega
      · exact e
theorem rise_eq {α : Type} {f : Int → Option α} {a b : List Int} (ha : RiseF f a) (hb : RiseF f b) : a = b := srt_eq a b ha.1 hb.1 (fun x => (ha.2 x).trans (hb.2 x).symm)
/-- Is there room for a fid? -/
def Ca.room (c : Ca) (i : Int) : Bool := c.has i || decide ((c.m : Int) < c.most)
theorem delN_le {α : Type} (f : Int → Option α) (i : Int) (m : Nat) : delN f i m ≤ m := by unfold delN; split <;> omega
def Ca.roomR (c : Ca) (i nx : Int) : Int × Int := if c.room i then (0, 0) else if nx = 0 then (0, 4) else (nx, 0)
def Ca.roomS (c : Ca) (i nx : Int) : Ca := if c.room i then c else if nx = 0 then c else c.dropS nx
theorem next_at {w : World} {g b1 b2 : Nat} {c : Ca} (h : IsCa w g b1 b2 c) (hm : c.m ≤ 12) {ss : List Int} (hr : RiseF c.f ss) :
    Calls Try.prog 23 #[pA g] w fun e w' => e = .returned (.tuple #[.int .u32 (c.nextOf ss), .bool (c.nextOf ss != 0)]) ∧ Below w.heap.size w w' := by
  refine (next_c h hm).mono ?_
  rintro _ w' ⟨ss', hr', rfl, hb⟩
  rw [rise_eq hr hr']
  exact ⟨rfl, hb⟩
set_option maxHeartbeats 400000 in
theorem next_nil (w : World) : Calls Try.prog 23 #[.pointer none] w fun e w' => e = .returned (.tuple #[.int .u32 0, .bool false]) ∧ Below w.heap.size w w' := by
  go_enter Try.func23, Try.ntmps23
  go_wp2
  exact bodyPost_ret (v := .tuple #[.int .u32 0, .bool false]) (by simp [results, Try.results23, go_sem]) rfl ⟨rfl, (Below.refl _ _).alloc (Nat.le_refl _) _⟩
theorem nextOf_range {c : Ca} {ss : List Int} (hr : ∀ x, x ∈ ss → 0 ≤ x ∧ x < 4294967296) : 0 ≤ c.nextOf ss ∧ c.nextOf ss < 4294967296 := by
  have : ∀ (l : List Int) (nx : Int), (0 ≤ nx ∧ nx < 4294967296) → (∀ x, x ∈ l → 0 ≤ x ∧ x < 4294967296) → 0 ≤ l.foldl c.step nx ∧ l.foldl c.step nx < 4294967296 := by
    intro l
    induction l with
    | nil => intro nx h _; exact h
    | cons y l ih =>
      intro nx h hl
      refine ih _ ?_ (fun x hx => hl x (List.mem_cons_of_mem _ hx))
      unfold Ca.step
      split
      · exact hl y (by simp)
      · exact h
  exact this ss 0 (by omega) hr
set_option maxHeartbeats 2000000 in
theorem makeRoom_c {w : World} {g b1 b2 : Nat} {c : Ca} (h : IsCa w g b1 b2 c) (hm : c.m ≤ 12) {ss : List Int} (hr : RiseF c.f ss) {i : Int} (h0 : 0 ≤ i) (h1 : i < 4294967296) :
    Calls Try.prog 16 #[pA g, .int .u32 i] w fun e w' => e = .returned (.tuple #[.int .u32 (c.roomR i (c.nextOf ss)).1, .int .i64 (c.roomR i (c.nextOf ss)).2]) ∧ IsCa w' g b1 b2 (c.roomS i (c.nextOf ss)) ∧ Ou (Tri g b1 b2) w w' := by
  have HC : Hid (∀ W, Below w.heap.size w W → Calls Try.prog 8 #[pA g, .int .u32 i] W fun e w' => e = .returned (.bool (c.has i)) ∧ Below W.heap.size W w') := hid (fun W hb => has_c (h.later hb) h0 h1)
  have L0 : ∀ W, Below w.heap.size w W → W.cell? ⟨g, 0, none⟩ = some (.int .i64 c.most) := fun W hb => (h.later hb).cells.1
  have L2 : ∀ W, Below w.heap.size w W → W.cell? ⟨g, 2, none⟩ = some (.map (some b1)) := fun W hb => (h.later hb).cells.2.2.1
  have LN : ∀ ty W, Below w.heap.size w W → (Builtin.len_ #[35] ty #[.map (some b1)]).run Try.prog W = .ok (.int .i64 (c.m : Int)) W := fun ty W hb => (h.later hb).2.1.len ht1 ty
  have H := hid h
  have HR := hid hr
  have RM : Hid (c.room i = (c.has i || decide ((c.m : Int) < c.most))) := hid rfl
  clear h hr
  cases hh : c.has i with
  | true =>
    have hroom : Hid (∀ nx, c.roomR i nx = (0, 0) ∧ c.roomS i nx = c) := hid (fun nx => by unfold Ca.roomR Ca.roomS; rw [RM.out, hh]; exact ⟨rfl, rfl⟩)
    rw [hh] at HC
    clear hh
    go_enter Try.func16, Try.ntmps16
    go_wp2_with fail
    refine wp_region_class (by kernel_rfl) (by kernel_rfl) ?_
    repeat (first
      | go_big_quiet_skip
      | (go_big_quiet_want
         apply quiet_by
         · intro w1 hw1
           go_simp
           first
             | rfl
             | (go_at_call 8; exact class_of hw1 (HC.out _ hw1))
         · go_simp; rfl
         go_big_quiet_on))
    refine wpQuiet_nil ?_
    intro w2 hw2
    go_wp2
    exact bodyPost_ret (v := .tuple #[.int .u32 0, .int .i64 0]) (by simp [results, Try.results16, go_sem]) rfl ⟨by rw [(hroom.out _).1], by rw [(hroom.out _).2]; exact H.out.later hw2, Ou.of hw2⟩
  | false =>
    rw [hh] at HC
    by_cases hlt : (c.m : Int) < c.most
    · have hroom : Hid (∀ nx, c.roomR i nx = (0, 0) ∧ c.roomS i nx = c) := hid (fun nx => by unfold Ca.roomR Ca.roomS; rw [RM.out, hh, decide_eq_true hlt]; exact ⟨rfl, rfl⟩)
      have hd : decide ((c.m : Int) < c.most) = true := decide_eq_true hlt
      clear hh RM
      go_enter Try.func16, Try.ntmps16
      go_wp2_with fail
      refine wp_region_class (by kernel_rfl) (by kernel_rfl) ?_
      repeat (first
        | go_big_quiet_skip
        | (go_big_quiet_want
           apply quiet_by
           · intro w1 hw1
             go_simp
             first
               | rfl
               | (go_at_call 8; exact class_of hw1 (HC.out _ hw1))
           · go_simp; rfl
           go_big_quiet_on))
      refine wpQuiet_nil ?_
      intro w2 hw2
      go_wp2
      exact bodyPost_ret (v := .tuple #[.int .u32 0, .int .i64 0]) (by simp [results, Try.results16, go_sem]) rfl ⟨by rw [(hroom.out _).1], by rw [(hroom.out _).2]; exact H.out.later hw2, Ou.of hw2⟩
    · have hroom : Hid (∀ nx, (nx = 0 → c.roomR i nx = (0, 4) ∧ c.roomS i nx = c) ∧ (nx ≠ 0 → c.roomR i nx = (nx, 0) ∧ c.roomS i nx = c.dropS nx)) := hid (fun nx => by unfold Ca.roomR Ca.roomS; rw [RM.out, hh, decide_eq_false hlt]; exact ⟨fun e => by rw [if_neg (by simp), if_pos e, if_neg (by simp), if_pos e]; exact ⟨rfl, rfl⟩, fun e => by rw [if_neg (by simp), if_neg e, if_neg (by simp), if_neg e]; exact ⟨rfl, rfl⟩⟩)
      have hd : decide ((c.m : Int) < c.most) = false := decide_eq_false hlt
      have NC : Hid (∀ W, Below w.heap.size w W → Calls Try.prog 23 #[pA g] W fun e w' => e = .returned (.tuple #[.int .u32 (c.nextOf ss), .bool (c.nextOf ss != 0)]) ∧ Below W.heap.size W w') := hid (fun W hb => next_at (H.out.later hb) hm HR.out)
      obtain ⟨nr0, nr1⟩ := nextOf_range (c := c) (ss := ss) (fun x hx => by
        obtain ⟨ob, eob⟩ := Option.isSome_iff_exists.1 ((HR.out.2 x).1 hx)
        exact H.out.2.1.keys eob)
      generalize c.nextOf ss = nx at *
      clear hh RM HR
      go_enter Try.func16, Try.ntmps16
      go_wp2_with fail
      refine wp_region_class (by kernel_rfl) (by kernel_rfl) ?_
      repeat (first
        | go_big_quiet_skip
        | (go_big_quiet_want
           apply quiet_by
           · intro w1 hw1
             go_simp
             first
               | rfl
               | (go_at_call 8; exact class_of hw1 (HC.out _ hw1))
           · go_simp; rfl
           go_big_quiet_on))
      refine wpQuiet_nil ?_
      intro w2 hw2
      by_cases hn : nx = 0
      · have bn : (nx != 0) = false := by simp [hn]
        have HN := hid hn
        rw [bn] at NC
        clear hn
        go_wp2_with (go_at_call 23; refine (NC.out _ hw2).mono ?_; rintro _ w3 ⟨rfl, hb3⟩)
        have hb := hw2.trans (hb3.mono hw2.size)
        exact bodyPost_ret (v := .tuple #[.int .u32 0, .int .i64 4]) (by simp [results, Try.results16, go_sem]) rfl ⟨by rw [((hroom.out nx).1 HN.out).1], by rw [((hroom.out nx).1 HN.out).2]; exact H.out.later hb, Ou.of hb⟩
      · have bn : (nx != 0) = true := by simp [hn]
        have HN := hid hn
        rw [bn] at NC
        clear hn
        go_wp2_with (go_at_call 23; refine (NC.out _ hw2).mono ?_; rintro _ w3 ⟨rfl, hb3⟩; (have hb := hid (hw2.trans (hb3.mono hw2.size))); (have H3 := hid (H.out.later hb.out)); (obtain ⟨c0, c1, c2, c3, cf, _⟩ := H3.out.cells); (obtain ⟨w4, DR, IM, MT⟩ := H3.out.2.1.drop ht1 nr0 nr1 0); have R4 := hid (H3.out.turn1 IM MT); have O4 := hid ((Ou.of (S := Tri g b1 b2) hb.out).trans (Ou.turned MT (.inr (.inl rfl)))); clear IM MT cf)
        exact bodyPost_ret (v := .tuple #[.int .u32 nx, .int .i64 0]) (by simp [results, Try.results16, go_sem]) rfl ⟨by rw [((hroom.out nx).2 HN.out).1], by rw [((hroom.out nx).2 HN.out).2]; exact R4.out, O4.out⟩
def Ca.putR (c : Ca) (i nx : Int) : Int × Int := if i = 0 then (0, 2) else c.roomR i nx
def Ca.putS (c : Ca) (i nx : Int) : Ca := if i = 0 then c else if (c.roomR i nx).2 = 0 then (c.roomS i nx).useS i else c
theorem roomR_cases (c : Ca) (i nx : Int) : c.roomR i nx = (0, 0) ∧ c.roomS i nx = c ∨ c.roomR i nx = (0, 4) ∧ c.roomS i nx = c ∨ c.roomR i nx = (nx, 0) ∧ c.roomS i nx = c.dropS nx := by
  unfold Ca.roomR Ca.roomS
  by_cases h : c.room i = true
  · exact .inl ⟨by rw [if_pos h], by rw [if_pos h]⟩
  · by_cases h2 : nx = 0
    · exact .inr (.inl ⟨by rw [if_neg h, if_pos h2], by rw [if_neg h, if_pos h2]⟩)
    · exact .inr (.inr ⟨by rw [if_neg h, if_neg h2], by rw [if_neg h, if_neg h2]⟩)
theorem roomS_few (c : Ca) (i nx : Int) : (c.roomS i nx).m ≤ c.m ∧ (c.roomS i nx).uses = c.uses := by
  rcases roomR_cases c i nx with h | h | h <;> rw [h.2]
  · exact ⟨Nat.le_refl _, rfl⟩
  · exact ⟨Nat.le_refl _, rfl⟩
  · exact ⟨delN_le _ _ _, rfl⟩
set_option maxHeartbeats 2000000 in
theorem put_c {w : World} {g b1 b2 : Nat} {c : Ca} (h : IsCa w g b1 b2 c) (hm : c.m ≤ 12) (hu0 : 0 ≤ c.uses) (hu : c.uses < 1000000) {ss : List Int} (hr : RiseF c.f ss) {i : Int} (h0 : 0 ≤ i) (h1 : i < 4294967296) :
    Calls Try.prog 7 #[pA g, .int .u32 i] w fun e w' => e = .returned (.tuple #[.int .u32 (c.putR i (c.nextOf ss)).1, .int .i64 (c.putR i (c.nextOf ss)).2]) ∧ IsCa w' g b1 b2 (c.putS i (c.nextOf ss)) ∧ Ou (Tri g b1 b2) w w' := by
  have MC := hid (makeRoom_c h hm hr h0 h1)
  have FW := hid (roomS_few c i (c.nextOf ss))
  have H := hid h
  generalize c.nextOf ss = nx at *
  clear h hr
  by_cases e0 : i = 0
  · have b0 : (i == 0) = true := by rw [e0]; rfl
    have E : Hid (c.putR i nx = (0, 2) ∧ c.putS i nx = c) := hid ⟨by unfold Ca.putR; rw [if_pos e0], by unfold Ca.putS; rw [if_pos e0]⟩
    clear e0
    go_enter Try.func7, Try.ntmps7
    go_wp2_with fail
    exact bodyPost_ret (v := .tuple #[.int .u32 0, .int .i64 2]) (by simp [results, Try.results7, go_sem]) rfl ⟨by rw [E.out.1], by rw [E.out.2]; exact H.out, Ou.refl _ _⟩
  have b0 : (i == 0) = false := by rw [beq_eq_false_iff_ne]; exact e0
  have E : Hid (c.putR i nx = c.roomR i nx ∧ c.putS i nx = if (c.roomR i nx).2 = 0 then (c.roomS i nx).useS i else c) := hid ⟨by unfold Ca.putR; rw [if_neg e0], by unfold Ca.putS; rw [if_neg e0]⟩
  by_cases hz : (c.roomR i nx).2 = 0
  · have E2 : Hid (c.putR i nx = ((c.roomR i nx).1, 0) ∧ c.putS i nx = (c.roomS i nx).useS i) := hid ⟨by rw [E.out.1]; exact Prod.ext rfl hz, by rw [E.out.2, if_pos hz]⟩
    rw [hz] at MC
    have UC : Hid (∀ W, IsCa W g b1 b2 (c.roomS i nx) → Calls Try.prog 17 #[pA g, .int .u32 i] W fun e w' => e = .returned (.tuple #[]) ∧ IsCa w' g b1 b2 ((c.roomS i nx).useS i) ∧ Ou (Tri g b1 b2) W w') := hid (fun W hW => use_c hW (by rw [FW.out.2]; exact hu0) (by rw [FW.out.2]; exact hu) (by have := FW.out.1; omega) h0 h1)
    generalize (c.roomR i nx).1 = r1 at *
    clear e0 hz E
    go_enter Try.func7, Try.ntmps7
    go_wp2_with (first
      | (go_at_call 17; refine (UC.out _ H2.out).mono ?_; rintro _ w3 ⟨rfl, h3, o3⟩; (have H3 := hid h3); (have O3 := hid (O2.out.trans o3)); clear h3 o3)
      | (go_at_call 16; refine MC.out.mono ?_; rintro _ w2 ⟨rfl, h2, o2⟩; (have H2 := hid h2); (have O2 := hid o2); clear h2 o2))
    exact bodyPost_ret (v := .tuple #[.int .u32 r1, .int .i64 0]) (by simp [results, Try.results7, go_sem]) rfl ⟨by rw [E2.out.1], by rw [E2.out.2]; exact H3.out, O3.out⟩
  · have E2 : Hid (c.roomR i nx = (0, 4) ∧ c.roomS i nx = c) := hid (by
      rcases roomR_cases c i nx with q | q | q
      · rw [q.1] at hz; exact absurd rfl hz
      · exact q
      · rw [q.1] at hz; exact absurd rfl hz)
    have E3 : Hid (c.putS i nx = c) := hid (by rw [E.out.2, if_neg hz])
    rw [E2.out.1, E2.out.2] at MC
    clear e0 hz
    go_enter Try.func7, Try.ntmps7
    go_wp2_with (go_at_call 16; refine MC.out.mono ?_; rintro _ w2 ⟨rfl, h2, o2⟩; (have H2 := hid h2); (have O2 := hid o2); clear h2 o2)
    exact bodyPost_ret (v := .tuple #[.int .u32 0, .int .i64 4]) (by simp [results, Try.results7, go_sem]) rfl ⟨by rw [E.out.1, E2.out.1], by rw [E3.out]; exact H2.out, O2.out⟩
set_option maxHeartbeats 400000 in
theorem put_nil (i : Int) (w : World) : Calls Try.prog 7 #[.pointer none, .int .u32 i] w fun e w' => e = .returned (.tuple #[.int .u32 0, .int .i64 1]) ∧ w' = w := by
  go_enter Try.func7, Try.ntmps7
  go_wp2
  exact bodyPost_ret (v := .tuple #[.int .u32 0, .int .i64 1]) (by simp [results, Try.results7, go_sem]) rfl ⟨rfl, rfl⟩
set_option maxHeartbeats 400000 in
theorem list_nil (w : World) : Calls Try.prog 9 #[.pointer none] w fun e w' => e = .returned (.slice none 0 0) ∧ Below w.heap.size w w' := by
  go_enter Try.func9, Try.ntmps9
  go_wp2
  go_ret
  exact ⟨rfl, by first | exact Below.refl _ _ | exact (Below.refl _ _).alloc (Nat.le_refl _) _⟩
set_option maxHeartbeats 400000 in
theorem walk_nil (w : World) : Calls Try.prog 6 #[.pointer none] w fun e w' => e = .returned (.slice none 0 0) ∧ Below w.heap.size w w' := by
  go_enter Try.func6, Try.ntmps6
  go_wp2
  go_ret
  exact ⟨rfl, by first | exact Below.refl _ _ | exact (Below.refl _ _).alloc (Nat.le_refl _) _⟩
end Go.Proofs.Ytilcbkejmpfnfab
