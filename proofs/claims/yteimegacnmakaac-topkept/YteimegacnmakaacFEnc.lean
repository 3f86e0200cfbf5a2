/-
  What Encode of the package frame returns: a right packet's bytes, or the error.
-/
import Derived.Test.YteimegacnmakaacFCalls
namespace Go.Proofs.Yteimegacnmakaac
open Go.RowKit Go.ChangeShapes Go.WideShapes Go.ChangeAt
set_option linter.unusedVariables false
set_option linter.unusedSimpArgs false
theorem lt_of_blk {w : World} {g : Nat} {o : Obj} (h : w.heap[g]? = some o) : g < w.heap.size := by
  rcases Nat.lt_or_ge g w.heap.size with h1 | h1
  · exact h1
  · rw [Array.getElem?_eq_none h1] at h; cases h
theorem own_mono {w : World} {base base' : Nat} {e size n : Nat} {v : Value} {xs : List Value} (h : w.ownsRow base e size v n xs) (hb : base' ≤ base) : w.ownsRow base' e size v n xs := by
  obtain ⟨h1, h2⟩ := h
  refine ⟨h1, ?_⟩
  rcases h2 with h2 | ⟨g, cap, cur, a, b, c⟩
  · exact .inl h2
  · exact .inr ⟨g, cap, cur, a, by omega, c⟩
/-- The packet lies in block B. -/
def PB (w : World) (B : Nat) (p : Fr.Pk) : Prop := w.heap[B]? = some (.cells #[.int .u8 p.k, .int .u8 p.f, .int .u8 p.t, .int .u32 p.e, .int .u32 p.s, .string p.b] 43 (0, 0))
theorem PB.cells {w : World} {B : Nat} {p : Fr.Pk} (h : PB w B p) : w.cell? ⟨B, 0, none⟩ = some (.int .u8 p.k) ∧ w.cell? ⟨B, 1, none⟩ = some (.int .u8 p.f) ∧ w.cell? ⟨B, 2, none⟩ = some (.int .u8 p.t) ∧ w.cell? ⟨B, 3, none⟩ = some (.int .u32 p.e) ∧ w.cell? ⟨B, 4, none⟩ = some (.int .u32 p.s) ∧ w.cell? ⟨B, 5, none⟩ = some (.string p.b) := by
  unfold PB at h
  refine ⟨?_, ?_, ?_, ?_, ?_, ?_⟩ <;> (rw [cell_of_row w B _ _ _ _ h]; rfl)
theorem PB.kpt {w w' : World} {B base g : Nat} {p : Fr.Pk} (h : PB w B p) (k : Kpt base g w w') (h1 : B < base) (h2 : B ≠ g) : PB w' B p := by
  unfold PB at *; rw [k.block B h1 h2]; exact h
theorem PB.drew {w : World} {B : Nat} {p : Fr.Pk} (h : PB w B p) : PB w.drew B p := h
theorem isB_pile {w : World} {T base g : Nat} {zs : List Int} {v : Value} (hz : ∀ x ∈ zs, 0 ≤ x ∧ x ≤ 255) (h : w.ownsRow base 5 1 v zs.length (zs.map u8V)) : ∃ a cap, v = .slice a zs.length cap ∧ IsB w a zs.length zs ∧ (zs.length ≤ cap) := by
  obtain ⟨h1, h2⟩ := h
  have hzz : ∀ i, 0 ≤ zs.getD i 0 ∧ zs.getD i 0 ≤ 255 := by
    intro i
    by_cases hi : i < zs.length
    · have := hz (zs.getD i 0) (by simp [List.getD, hi]); omega
    · simp [List.getD, List.getElem?_eq_none (by omega : zs.length ≤ i)]
  rcases h2 with ⟨rfl, hn⟩ | ⟨g, cap, cur, rfl, hb, hg, hn, hc, hs, ht⟩
  · exact ⟨none, 0, by rw [hn], ⟨rfl, by omega, fun hp => absurd hp (by omega), hzz⟩, by omega⟩
  · refine ⟨some ⟨g, 0, none⟩, cap, rfl, ⟨rfl, by omega, fun hp => ⟨g, 0, rfl, fun i hi => ?_⟩, hzz⟩, hn⟩
    rw [Nat.zero_add, cell_of_row w g i cur _ _ hg]
    have e : (cur.toList.take (zs.length * 1))[i]? = (zs.map u8V)[i]? := by rw [ht]
    rw [List.getElem?_take, if_pos (by omega), List.getElem?_map, List.getElem?_eq_getElem hi] at e
    simpa [List.getD, hi, u8V] using e
set_option maxRecDepth 100000 in
set_option maxHeartbeats 2000000 in
theorem packet_c (T g : Nat) (p : Fr.Pk) (hw : Fr.Wf p) (hs : p.b.size ≤ 16384) (w : World) (hbox : w.heap[g]? = some (.cells #[.slice none 0 0] T (0, 0))) :
    Calls Try.prog 25 #[.pointer (some ⟨g, 0, none⟩), Fr.val p] w fun e w' => e = .returned (.tuple #[]) ∧ Pile w' T (w.heap.size + 1) g (Fr.enc p) ∧ Kpt (w.heap.size + 1) g (w.alloc (.cells #[.int .u8 p.k, .int .u8 p.f, .int .u8 p.t, .int .u32 p.e, .int .u32 p.s, .string p.b] 43)) w' := by
  have hlt : g < w.heap.size := lt_of_blk hbox
  obtain ⟨k, f, t, e, s, b⟩ := p
  obtain ⟨hk, hf, ht, he, hss⟩ := hw
  simp only at hk hf ht he hss hs
  have hv : Fr.val ⟨k, f, t, e, s, b⟩ = .agg #[.int .u8 k, .int .u8 f, .int .u8 t, .int .u32 e, .int .u32 s, .string b] := rfl
  rw [hv]
  have hP0 : Pile (w.alloc (.cells #[.int .u8 k, .int .u8 f, .int .u8 t, .int .u32 e, .int .u32 s, .string b] 43)) T (w.heap.size + 1) g [] := ⟨by omega, by simp, _, by rw [Below.heap_alloc _ _ _ hlt]; exact hbox, World.ownsRow_nil _ _ _ _⟩
  have hB0 : PB (w.alloc (.cells #[.int .u8 k, .int .u8 f, .int .u8 t, .int .u32 e, .int .u32 s, .string b] 43)) w.heap.size ⟨k, f, t, e, s, b⟩ := heap_alloc_new w _
  have hne : w.heap.size ≠ g := by omega
  have HW : Hid (Fr.Wf ⟨k, f, t, e, s, b⟩) := ⟨hk, hf, ht, he, hss⟩
  have bl : (⟨#[66, 87]⟩ : ByteArray).size = 2 := rfl
  clear hbox hv
  go_enter Try.func25, Try.ntmps25
  go_wp2_with fail
  refine (layText_c T (w.heap.size + 1) g [] _ _ hP0 (by simp [bl])).mono ?_
  rintro _ w1 ⟨rfl, hp1, hk1⟩
  have hB1 := hB0.kpt hk1 (by omega) hne
  obtain ⟨c0, c1, c2, c3, c4, c5⟩ := hB1.cells
  go_wp2_with fail
  go_region_held3 (fun w' => w'.cell? ⟨w.heap.size, 0, none⟩ = some (.int .u8 k)) (first | go_keep | (rw [hk2.cell (by simp) hne]; exact c0)) ((go_at_call 34; refine (lay_c T (w.heap.size + 1) g _ _ _ hp1.drew (by simp [Fr.bs_length, bl])).mono ?_; rintro _ w2 ⟨rfl, hp2, hk2⟩))
  clear c0 c1 c2 c3 c4 c5
  have hB2 := hB1.drew.kpt hk2 (by omega) hne
  obtain ⟨c0, c1, c2, c3, c4, c5⟩ := hB2.cells
  go_wp2_with fail
  go_region_held3 (fun w' => w'.cell? ⟨w.heap.size, 1, none⟩ = some (.int .u8 f)) (first | go_keep | (rw [hk3.cell (by simp) hne]; exact c1)) ((go_at_call 34; refine (lay_c T (w.heap.size + 1) g _ _ _ hp2.drew (by simp [Fr.bs_length, bl, Fr.le4, Fr.le2]; try omega)).mono ?_; rintro _ w3 ⟨rfl, hp3, hk3⟩))
  clear c0 c1 c2 c3 c4 c5
  have hB3 := hB2.drew.kpt hk3 (by omega) hne
  obtain ⟨c0, c1, c2, c3, c4, c5⟩ := hB3.cells
  go_wp2_with fail
  go_region_held3 (fun w' => w'.cell? ⟨w.heap.size, 2, none⟩ = some (.int .u8 t)) (first | go_keep | (rw [hk4.cell (by simp) hne]; exact c2)) ((go_at_call 34; refine (lay_c T (w.heap.size + 1) g _ _ _ hp3.drew (by simp [Fr.bs_length, bl, Fr.le4, Fr.le2]; try omega)).mono ?_; rintro _ w4 ⟨rfl, hp4, hk4⟩))
  clear c0 c1 c2 c3 c4 c5
  have hB4 := hB3.drew.kpt hk4 (by omega) hne
  obtain ⟨c0, c1, c2, c3, c4, c5⟩ := hB4.cells
  go_wp2_with fail
  refine (wnumber4_c T (w.heap.size + 1) g _ e _ hp4 (by simp [Fr.bs_length, bl, Fr.le4, Fr.le2]; try omega) he.1 he.2).mono ?_
  rintro _ w5 ⟨rfl, hp5, hk5⟩
  clear c0 c1 c2 c3 c4 c5
  have hB5 := hB4.kpt hk5 (by omega) hne
  obtain ⟨c0, c1, c2, c3, c4, c5⟩ := hB5.cells
  go_wp2_with fail
  refine (wnumber4_c T (w.heap.size + 1) g _ s _ hp5 (by simp [Fr.bs_length, bl, Fr.le4, Fr.le2]; try omega) hss.1 hss.2).mono ?_
  rintro _ w6 ⟨rfl, hp6, hk6⟩
  clear c0 c1 c2 c3 c4 c5
  have hB6 := hB5.kpt hk6 (by omega) hne
  obtain ⟨c0, c1, c2, c3, c4, c5⟩ := hB6.cells
  go_wp2_with fail
  refine (wnumber2_c T (w.heap.size + 1) g _ (b.size : Int) _ hp6 (by simp [Fr.bs_length, bl, Fr.le4, Fr.le2]; try omega) (by omega) (by omega)).mono ?_
  rintro _ w7 ⟨rfl, hp7, hk7⟩
  clear c0 c1 c2 c3 c4 c5
  have hB7 := hB6.kpt hk7 (by omega) hne
  obtain ⟨c0, c1, c2, c3, c4, c5⟩ := hB7.cells
  go_wp2_with fail
  go_region_held3 (fun w' => w'.cell? ⟨w.heap.size, 5, none⟩ = some (.string b)) (first | go_keep | (rw [hk8.cell (by simp) hne]; exact c5)) ((go_at_call 33; refine (layText_c T (w.heap.size + 1) g _ _ _ hp7.drew (by simp [Fr.bs_length, bl, Fr.le4, Fr.le2]; try omega)).mono ?_; rintro _ w8 ⟨rfl, hp8, hk8⟩))
  clear c0 c1 c2 c3 c4 c5
  clear hp1 hp2 hp3 hp4 hp5 hp6 hp7
  have hp8' : Pile w8 T (w.heap.size + 1) g (Fr.head ⟨k, f, t, e, s, b⟩) := by
    have e1 : ([] : List Int) ++ Fr.bs ⟨#[66, 87]⟩ ++ [k] ++ [f] ++ [t] ++ Fr.le4 e ++ Fr.le4 s ++ Fr.le2 (b.size : Int) ++ Fr.bs b = Fr.head ⟨k, f, t, e, s, b⟩ := by simp [Fr.head, Fr.bs]
    rw [← e1]; exact hp8
  obtain ⟨_, hbase8, v8, hbox8, hown8⟩ := hp8'
  obtain ⟨a8, cap8, rfl, hb8, hcap8⟩ := isB_pile (T := T) (g := g) (fun x hx => Fr.enc_byte ⟨k, f, t, e, s, b⟩ HW.out x (by unfold Fr.enc; simp [hx])) hown8
  have hc8 := cell_box hbox8
  have HF := hid (Fr.fold_lt (Fr.head ⟨k, f, t, e, s, b⟩))
  have HL : Hid ((Fr.head ⟨k, f, t, e, s, b⟩).length < 900000) := by have := Fr.head_length ⟨k, f, t, e, s, b⟩; simp only at this; show _ < _; omega
  have HE : Hid (Fr.enc ⟨k, f, t, e, s, b⟩ = Fr.head ⟨k, f, t, e, s, b⟩ ++ Fr.le4 (M.foldF (Fr.head ⟨k, f, t, e, s, b⟩))) := rfl
  have HB := hid hb8
  have HO := hid hown8
  generalize Fr.head ⟨k, f, t, e, s, b⟩ = hd at *
  generalize hen : Fr.enc ⟨k, f, t, e, s, b⟩ = en at HE
  have HN := hid hen
  clear hen
  clear hb8 hown8 hP0 hB0 hB1 hB2 hB3 hB4 hB5 hB6 hB7
  go_wp2_with fail
  refine (fold_c _ _ _ _ _ HB.out).mono ?_
  rintro _ w9 ⟨rfl, rfl⟩
  have hf := HF.out
  generalize M.foldF hd = fo at *
  clear HF
  go_wp2_with fail
  refine (wnumber4_c T (w.heap.size + 1) g hd _ _ ⟨by omega, hbase8, _, hbox8, HO.out⟩ HL.out hf.1 hf.2).mono ?_
  rintro _ w10 ⟨rfl, hp10, hk10⟩
  go_wp2
  rw [← HE.out, ← HN.out] at hp10
  exact body_end (by kernel_rfl) rfl ⟨rfl, hp10, (((((((hk1.on hk2).on hk3).on hk4).trans hk5).trans hk6).trans hk7).on hk8).trans hk10⟩
/-- What Encode answers of a packet. -/
def EncPost (p : Fr.Pk) (w : World) (e : Ending) (w' : World) : Prop :=
  ((Fr.rightB p = true ∧ ∃ v, e = .returned (.tuple #[v, .int .i64 0]) ∧ w'.ownsRow w.heap.size 5 1 v (Fr.enc p).length ((Fr.enc p).map u8V)) ∨ (Fr.rightB p = false ∧ e = .returned (.tuple #[.slice none 0 0, .int .i64 3]))) ∧ Below w.heap.size w w'
set_option maxHeartbeats 1000000 in
theorem encode_c (p : Fr.Pk) (hw : Fr.Wf p) (hs : p.b.size ≤ maxLen) (w : World) :
    Calls Try.prog 15 #[Fr.val p] w (EncPost p w) := by
  obtain ⟨k, f, t, e, s, b⟩ := p
  have HW := hid hw
  have HS := hid hs
  have hv : Fr.val ⟨k, f, t, e, s, b⟩ = .agg #[.int .u8 k, .int .u8 f, .int .u8 t, .int .u32 e, .int .u32 s, .string b] := rfl
  have C := fun w => right_c ⟨k, f, t, e, s, b⟩ hw hs w
  rw [hv] at C ⊢
  have HC : Hid _ := C
  clear C
  cases hc : Fr.rightB ⟨k, f, t, e, s, b⟩ with
  | false =>
    clear hv hw hs
    go_enter Try.func15, Try.ntmps15
    go_wp2_with (go_at_call 16; refine (HC.out _).mono ?_; rintro e w' ⟨rfl, hb⟩; rw [hc])
    go_ret2
    exact ⟨.inr ⟨hc, rfl⟩, ((Below.refl _ _).alloc (Nat.le_refl _) _).trans (hb.mono (by simp))⟩
  | true =>
    have hsz := Fr.right_size hc
    have C2 := fun T g w hb => packet_c T g ⟨k, f, t, e, s, b⟩ hw hsz w hb
    rw [hv] at C2
    have HC2 : Hid _ := C2
    clear C2 hv hw hs
    go_enter Try.func15, Try.ntmps15
    go_wp2_with fail
    refine (HC.out _).mono ?_
    rintro _ w1 ⟨rfl, hb1⟩
    rw [hc]
    have hz : w.heap.size < w1.heap.size := by have := hb1.size; simp at this; omega
    obtain ⟨hcl, hfr⟩ := bcell hb1
    go_wp2_with fail
    refine (HC2.out 71 w1.heap.size _ (heap_alloc_new w1 _)).mono ?_
    rintro _ w2 ⟨rfl, hp2, hk2⟩
    obtain ⟨hg2, hbase2, v2, hbox2, hown2⟩ := hp2
    have hc2 := cell_box hbox2
    go_wp2
    go_ret2
    refine ⟨.inl ⟨hc, v2, rfl, ?_⟩, ?_⟩
    · exact own_mono hown2 (by simp; omega)
    · refine (((((Below.refl _ _).alloc (Nat.le_refl _) _).trans (hb1.mono (by simp))).alloc (by omega) _).alloc (by simp; omega) _).trans (hk2.below (by simp; omega) (by omega))
end Go.Proofs.Yteimegacnmakaac
