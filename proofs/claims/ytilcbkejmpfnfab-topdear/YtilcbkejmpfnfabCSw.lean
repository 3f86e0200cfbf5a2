/-
  Fids, sorted by what Walk asks: the dearest first.
-/
import Derived.Test.YtilcbkejmpfnfabCC2
import Derived.Test.YtilcbkejmpfnfabCLi
namespace Go.Proofs.Ytilcbkejmpfnfab
open Go.RowKit Go.ChangeShapes Go.WideShapes Go.ChangeAt Go.Maps Go.Shelf
set_option linter.unusedVariables false
set_option linter.unusedSimpArgs false
set_option maxRecDepth 100000
/-- Where a fid stands among those that are dear. -/
def Ca.rank (c : Ca) (x : Int) : Int := x - c.dearN x * 4294967296
theorem walkZ_lt {c : Ca} {i j : Int} (h0 : 0 ≤ i) (h1 : i < 4294967296) (j0 : 0 ≤ j) (j1 : j < 4294967296) : c.walkZ i j < 0 ↔ c.rank i < c.rank j := by
  unfold Ca.walkZ Ca.rank orZ cmpZ
  rcases Int.lt_trichotomy (c.dearN j) (c.dearN i) with q | q | q
  · rw [if_pos q, if_neg (by decide)]
    constructor
    · intro; omega
    · intro; omega
  · have e1 : ¬ c.dearN j < c.dearN i := by omega
    have e2 : ¬ c.dearN i < c.dearN j := by omega
    rw [if_neg e1, if_neg e2, if_pos rfl]
    rcases Int.lt_trichotomy i j with p | p | p
    · rw [if_pos p]; constructor <;> intro <;> omega
    · rw [if_neg (by omega), if_neg (by omega)]; constructor <;> intro <;> omega
    · rw [if_neg (by omega), if_pos p]; constructor <;> intro <;> omega
  · have e1 : ¬ c.dearN j < c.dearN i := by omega
    rw [if_neg e1, if_pos q, if_neg (by decide)]
    constructor
    · intro h; omega
    · intro h; omega
theorem sw_rank (c : Ca) (f : Nat → Int) (j : Nat) : (fun k => c.rank (swF f j k)) = swF (fun k => c.rank (f k)) j := by
  funext k
  unfold swF
  (repeat' split) <;> rfl
theorem wrap_small {x : Int} (h0 : 0 ≤ x) (h1 : x < 1000000) : IntKind.i64.wrap x = x := by rw [IntKind.wrap_i64]; omega
/-- All of a row are fids. -/
def Rg32 (n : Nat) (f : Nat → Int) : Prop := ∀ k, k < n → 0 ≤ f k ∧ f k < 4294967296
theorem sw_rg {n : Nat} {f : Nat → Int} (h : Rg32 n f) {j : Nat} (h0 : 0 < j) (hj : j < n) : Rg32 n (swF f j) := fun k hk => by
  unfold swF
  split
  · exact h _ (by omega)
  split
  · exact h _ hj
  · exact h k hk
theorem FidsAt.later {w w' : World} {g n : Nat} {f : Nat → Int} (h : FidsAt w g n f) (hb : Below w.heap.size w w') : FidsAt w' g n f := h.out (S := fun _ => False) (Ou.of hb) id
theorem FidsAt.cells2 {w w' : World} {g n : Nat} {f : Nat → Int} (h : FidsAt w g n f) (hb : Below w.heap.size w w') {j : Nat} (hj : j < n) : w'.cell? ⟨g, j, none⟩ = some (.int .u32 (f j)) := ((h.later hb).cell hj).1
set_option maxHeartbeats 8000000 in
theorem insertW_c (R n cap X g b1 b2 : Nat) (c : Ca) (f0 : Nat → Int) (w : World) (h : FidsAt w R n f0) (hinj : ∀ a b, a < n → b < n → f0 a = f0 b → a = b) (hrg : Rg32 n f0) (hn : n ≤ 12) (hcap : n ≤ cap)
    (hX : w.cell? ⟨X, 0, none⟩ = some (pA g)) (hXl : X < w.heap.size) (hc : IsCa w g b1 b2 c) (hne : R ≠ X ∧ R ≠ g ∧ R ≠ b1 ∧ R ≠ b2) :
    Calls Try.prog 27 #[.slice (some ⟨R, 0, none⟩) n cap, .int .i64 0, .int .i64 n, .func (.func 12) #[] #[.pointer (some ⟨X, 0, none⟩)]] w fun e w' => e = .returned (.tuple #[]) ∧ ∃ f, FidsAt w' R n f ∧ SameF n f0 f ∧ Rg32 n f ∧ UpF n (fun k => c.rank (f k)) ∧ Ou (fun k => k = R) w w' := by
  have H0 := hid h
  have S0 : Hid (SameF n f0 f0) := hid ⟨fun x => Iff.rfl, hinj⟩
  have G0 := hid hrg
  have WK : Hid (∀ W, Ou (fun k => k = R) w W → ∀ i j, 0 ≤ i → i < 4294967296 → 0 ≤ j → j < 4294967296 → Calls Try.prog 12 #[.int .u32 i, .int .u32 j, .pointer (some ⟨X, 0, none⟩)] W fun e w' => e = .returned (.int .i64 (c.walkZ i j)) ∧ Below W.heap.size W w') := hid (fun W ho i j h0 h1 j0 j1 => walk1_c (by
    have e := ho.block X hXl (fun e => hne.1 e.symm)
    rw [← hX]; exact World.cell?_of_block e) (hc.out ho (fun e => hne.2.1 e.symm) (fun e => hne.2.2.1 e.symm) (fun e => hne.2.2.2 e.symm)) h0 h1 j0 j1)
  clear h hinj hrg hX hc hne
  go_enter Try.func27, Try.ntmps27
  go_wp2
  go_loopw [8] (fun v6 wr => ∃ (i : Nat) (f : Nat → Int), 1 ≤ i ∧ (i ≤ n ∨ i = 1) ∧ v6 = .int .i64 i ∧ Hid (FidsAt wr R n f) ∧ Hid (SameF n f0 f) ∧ Hid (Rg32 n f) ∧ Hid (UpF i (fun k => c.rank (f k))) ∧ Hid (Ou (fun k => k = R) w wr)) (fun i _ => (13 - intOf i).toNat)
  case atStart => exact ⟨1, f0, by omega, by omega, rfl, H0, S0, G0, hid (fun a b h1 h2 => by omega), hid (Ou.refl _ _)⟩
  case round =>
    obtain ⟨i, f, hi1, hin, rfl, FX, SX, GX, UX, OX⟩ := hrel
    obtain ⟨wo, hwo⟩ : ∃ wo, wo = wr := ⟨_, rfl⟩
    subst hwo
    by_cases hlt : i < n
    · have hltI : (i : Int) < (n : Int) := by omega
      have NS := hid (near_start UX.out)
      go_wp2
      go_loopw [9] (fun v7 wx => ∃ (j : Nat) (f' : Nat → Int), j ≤ i ∧ v7 = .int .i64 j ∧ Hid (FidsAt wx R n f') ∧ Hid (SameF n f0 f') ∧ Hid (Rg32 n f') ∧ Hid (NearF i j (fun k => c.rank (f' k))) ∧ Hid (Ou (fun k => k = R) w wx)) (fun j _ => (intOf j).toNat)
      case atStart => exact ⟨i, f, by omega, rfl, FX, SX, GX, NS, OX⟩
      case round =>
        obtain ⟨j, f', hj, rfl, FY, SY, GY, NY, OY⟩ := hrel
        by_cases h0 : 0 < j
        · have h0I : (0 : Int) < (j : Int) := by omega
          have h0D : decide ((0 : Int) < (j : Int)) = true := decide_eq_true h0I
          have hjn : (j : Int) < (n : Int) := by omega
          have hj1 : (j : Int) - 1 = ((j - 1 : Nat) : Int) := by omega
          have hj1n : ((j - 1 : Nat) : Int) < (n : Int) := by omega
          have hwr : IntKind.i64.wrap ((j - 1 : Nat) : Int) = ((j - 1 : Nat) : Int) := wrap_small (by omega) (by omega)
          have A1 : ∀ W, Below wr.heap.size wr W → W.cell? ⟨R, j, none⟩ = some (.int .u32 (f' j)) := fun W hb => FY.out.cells2 hb (by omega)
          have A2 : ∀ W, Below wr.heap.size wr W → W.cell? ⟨R, j - 1, none⟩ = some (.int .u32 (f' (j - 1))) := fun W hb => FY.out.cells2 hb (by omega)
          obtain ⟨r1, r2⟩ := GY.out j (by omega)
          obtain ⟨r3, r4⟩ := GY.out (j - 1) (by omega)
          have WC : Hid (∀ W, Below wr.heap.size wr W → Calls Try.prog 12 #[.int .u32 (f' j), .int .u32 (f' (j - 1)), .pointer (some ⟨X, 0, none⟩)] W fun e w' => e = .returned (.int .i64 (c.walkZ (f' j) (f' (j - 1)))) ∧ Below W.heap.size W w') := hid (fun W hb => WK.out W (OY.out.trans (Ou.of hb)) _ _ r1 r2 r3 r4)
          by_cases hls : c.walkZ (f' j) (f' (j - 1)) < 0
          · have hld : decide (c.walkZ (f' j) (f' (j - 1)) < 0) = true := decide_eq_true hls
            have HLS := hid ((walkZ_lt r1 r2 r3 r4).1 hls)
            generalize c.walkZ (f' j) (f' (j - 1)) = wz at *
            go_wp2_with fail
            refine wp_region_class (by kernel_rfl) (by kernel_rfl) ?_
            repeat (first
              | go_big_quiet_skip
              | (go_big_quiet_want
                 apply quiet_by
                 · intro w1 hw1
                   go_simp
                   first
                     | rfl
                     | (go_at_call 12; exact class_of hw1 (WC.out _ hw1))
                 · go_simp; rfl
                 go_big_quiet_on))
            refine wpQuiet_nil ?_
            intro w2 hw2
            have FW := hid (FY.out.later hw2)
            have OW := hid (OY.out.trans (Ou.of hw2))
            go_wp2_with fail
            obtain ⟨c1', z1'⟩ := FW.out.cell (j := j) (by omega)
            obtain ⟨c2', z2'⟩ := FW.out.cell (j := j - 1) (by omega)
            have hjne : ¬ j = j - 1 := by omega
            have hjne' : ¬ j - 1 = j := by omega
            clear A1 A2 WC
            go_region
            have F9 : Hid (FidsAt ((w2.setCell ⟨R, j, none⟩ (.int .u32 (f' (j - 1)))).setCell ⟨R, j - 1, none⟩ (.int .u32 (f' j))).drew R n (swF f' j)) := hid (((FW.out.set (j := j) (by omega) (f' (j - 1))).set (j := j - 1) (by omega) (f' j)).drew.ext (fun k hk => by
              unfold swF
              by_cases q1 : k = j
              · rw [if_pos q1, if_neg (by omega), if_pos q1]
              · rw [if_neg q1]
                by_cases q2 : k = j - 1
                · rw [if_pos q2, if_pos q2]
                · rw [if_neg q2, if_neg q2, if_neg q1]))
            have O9 : Hid (Ou (fun k => k = R) w ((w2.setCell ⟨R, j, none⟩ (.int .u32 (f' (j - 1)))).setCell ⟨R, j - 1, none⟩ (.int .u32 (f' j))).drew) := hid ((OW.out.set rfl).set rfl).drew
            have S9 := hid (swF_same SY.out (j := j) h0 (by omega))
            have G9 := hid (sw_rg GY.out (j := j) h0 (by omega))
            have N9 : Hid (NearF i (j - 1) (fun k => c.rank (swF f' j k))) := hid (by rw [sw_rank]; exact near_step NY.out h0 hj HLS.out)
            clear c1' c2' z1' z2'
            go_wp2
            go_roundw
            case rel => exact ⟨j - 1, swF f' j, by omega, by first | rfl | go_num, F9, S9, G9, N9, O9⟩
            case measure => simp [intOf]; omega
          · have hld : decide (c.walkZ (f' j) (f' (j - 1)) < 0) = false := decide_eq_false hls
            have UE := hid (near_end NY.out hj (.inr (by
              have : ¬ c.rank (f' j) < c.rank (f' (j - 1)) := fun q => hls ((walkZ_lt r1 r2 r3 r4).2 q)
              show c.rank (f' (j - 1)) ≤ c.rank (f' j)
              omega)))
            generalize c.walkZ (f' j) (f' (j - 1)) = wz at *
            go_wp2_with fail
            refine wp_region_class (by kernel_rfl) (by kernel_rfl) ?_
            repeat (first
              | go_big_quiet_skip
              | (go_big_quiet_want
                 apply quiet_by
                 · intro w1 hw1
                   go_simp
                   first
                     | rfl
                     | (go_at_call 12; exact class_of hw1 (WC.out _ hw1))
                 · go_simp; rfl
                 go_big_quiet_on))
            refine wpQuiet_nil ?_
            intro w2 hw2
            go_wp2
            go_roundw
            case rel => exact ⟨i + 1, f', by omega, by omega, by go_num, hid (FY.out.later hw2), SY, GY, UE, hid (OY.out.trans (Ou.of hw2))⟩
            case measure => simp [intOf]; omega
        · obtain rfl : j = 0 := by omega
          have UE := hid (near_end NY.out hj (.inl rfl))
          have hd0 : decide ((0 : Int) < ((0 : Nat) : Int)) = false := rfl
          go_wp2_with fail
          refine wp_region_class (by kernel_rfl) (by kernel_rfl) ?_
          repeat (first
            | go_big_quiet_skip
            | (go_big_quiet_want
               apply quiet_by
               · intro w1 hw1
                 go_simp
                 rfl
               · go_simp; rfl
               go_big_quiet_on))
          refine wpQuiet_nil ?_
          intro w2 hw2
          go_wp2
          go_roundw
          case rel => exact ⟨i + 1, f', by omega, by omega, by go_num, hid (FY.out.later hw2), SY, GY, UE, hid (OY.out.trans (Ou.of hw2))⟩
          case measure => simp [intOf]; omega
    · have hltI : ¬ (i : Int) < (n : Int) := by omega
      have hltd : decide ((i : Int) < (n : Int)) = false := decide_eq_false hltI
      have UE : Hid (UpF n (fun k => c.rank (f k))) := hid (fun a b h1 h2 => UX.out a b h1 (by omega))
      go_wp2
      exact body_endF (by kernel_rfl) rfl ⟨rfl, f, FX.out, SX.out, GX.out, UE.out, OX.out⟩
end Go.Proofs.Ytilcbkejmpfnfab
