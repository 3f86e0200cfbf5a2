/-
  What bytes say of a client: readNumber, readTaken.
-/
import Derived.Test.YtmoeljieafninaaRB2
import Derived.Test.YtmoeljieafninaaRKt
import Derived.Deep.RegionHeld3
import Derived.Deep.RegionWith
import Derived.Deep.LoopGhost
import Derived.Laws.BitsLemmas
namespace Go.Proofs.Ytmoeljieafninaa
open Go.RowKit Go.ChangeShapes Go.WideShapes Go.ChangeAt
set_option linter.unusedVariables false
set_option linter.unusedSimpArgs false
set_option maxRecDepth 100000
/-- The number that bytes say. -/
def numF (l : List Int) : Int := l.foldl (fun n b => n * 256 + b) 0
theorem numF_snoc (l : List Int) (b : Int) : numF (l ++ [b]) = numF l * 256 + b := by unfold numF; rw [List.foldl_append]; rfl
theorem numF_bd (l : List Int) (h : ∀ i, 0 ≤ l.getD i 0 ∧ l.getD i 0 ≤ 255) : ∀ j, j ≤ l.length → 0 ≤ numF (l.take j) ∧ numF (l.take j) < 256 ^ j
  | 0, _ => by simp [numF]
  | j + 1, hj => by
    have ih := numF_bd l h j (by omega)
    have hb := h j
    rw [take_snoc l j (by omega), numF_snoc]
    have : (256 : Int) ^ (j + 1) = 256 ^ j * 256 := by rw [Int.pow_succ]
    omega
theorem or_byte4 (n b : Int) (h0 : 0 ≤ n) (h1 : n < 16777216) (b0 : 0 ≤ b) (b1 : b ≤ 255) : bits .or .u32 (n * 256) b = n * 256 + b := by
  rw [u32_or _ _ (by omega) (by omega) (by omega) (by omega), nat_join 8 _ _ (by omega) (by omega)]; omega
/-- Some bytes of a row. -/
def sbF (l : List Int) (i m : Nat) : List Int := (l.drop i).take m
theorem IsB.sb {w : World} {b off len : Nat} {zs : List Int} (h : IsB w (some ⟨b, off, none⟩) len zs) (i m : Nat) (him : i + m ≤ len) : IsB w (some ⟨b, off + i, none⟩) m (sbF zs i m) := by
  obtain ⟨h1, h2, h3, h4⟩ := h
  unfold sbF
  refine ⟨by rw [List.length_take, List.length_drop]; omega, by omega, fun hp => ?_, fun k => ?_⟩
  · obtain ⟨b', off', e, hc⟩ := h3 (by omega)
    cases e
    refine ⟨b, off + i, rfl, fun k hk => ?_⟩
    rw [Nat.add_assoc, hc (i + k) (by omega)]
    simp [List.getD, List.getElem?_take, List.getElem?_drop, hk]
  · by_cases hk : k < m
    · have := h4 (i + k)
      simpa [List.getD, List.getElem?_take, List.getElem?_drop, hk] using this
    · simp [List.getD, List.getElem?_take, hk]
theorem sbF_len (l : List Int) (i m : Nat) (h : i + m ≤ l.length) : (sbF l i m).length = m := by
  unfold sbF; rw [List.length_take, List.length_drop]; omega
theorem sbF_bd {w : World} {a : Option Addr} {len : Nat} {zs : List Int} (h : IsB w a len zs) (i m : Nat) (him : i + m ≤ len) : 0 ≤ numF (sbF zs i m) ∧ numF (sbF zs i m) < 256 ^ m := by
  obtain ⟨h1, h2, h3, h4⟩ := h
  have hl := sbF_len zs i m (by omega)
  have := numF_bd (sbF zs i m) (fun k => by
    unfold sbF
    by_cases hk : k < m
    · have := h4 (i + k)
      simpa [List.getD, List.getElem?_take, List.getElem?_drop, hk] using this
    · simp [List.getD, List.getElem?_take, hk]) m (by omega)
  rwa [List.take_of_length_le (by omega)] at this
/-- What bytes say of a client, and how many they are. -/
def ldT (zs : List Int) : Option (Tk × Nat) :=
  if zs.length = 0 then none
  else if zs.getD 0 0 = 0 then some (⟨0, 0, 0, ⟨#[]⟩⟩, 1)
  else if zs.getD 0 0 = 1 then
    if zs.length < 9 then none else if numF (sbF zs 5 4) = 0 then none else some (⟨1, numF (sbF zs 1 4), numF (sbF zs 5 4), ⟨#[]⟩⟩, 9)
  else if zs.getD 0 0 = 2 then
    if zs.length < 11 then none else if zs.length < 11 + (numF (sbF zs 9 2)).toNat then none else if numF (sbF zs 5 4) = 0 then none else if 16384 < (numF (sbF zs 9 2)).toNat then none
    else some (⟨2, numF (sbF zs 1 4), numF (sbF zs 5 4), Fr.tx (sbF zs 11 (numF (sbF zs 9 2)).toNat)⟩, 11 + (numF (sbF zs 9 2)).toNat)
  else none
def rtNo : Value := .tuple #[.agg #[.int .u8 0, .int .u32 0, .int .u32 0, .string ⟨#[]⟩], .int .i64 0, .bool false]
def rtYes (t : Tk) (n : Nat) : Value := .tuple #[.agg #[.int .u8 t.st, .int .u32 t.ep, .int .u32 t.num, .string t.body], .int .i64 (n : Int), .bool true]
set_option maxHeartbeats 1000000 in
theorem readNumber_c (a : Option Addr) (s cap : Nat) (ys : List Int) (w : World) (h : IsB w a s ys) (hs : s ≤ 4) :
    Calls Try.prog 31 #[.slice a s cap] w fun e w' => e = .returned (.int .u32 (numF ys)) ∧ w' = w := by
  have HI := hid h
  have HL := hid h.1
  clear h
  go_enter Try.func31, Try.ntmps31
  go_wp2
  go_loopg [3, 8] s (fun g v3 v8 wr => ∃ j : Nat, j + g = s ∧ v8 = .int .i64 j ∧ v3 = .int .u32 (numF (ys.take j)) ∧ Hid (wr = w))
  case atStart => exact ⟨0, by omega, rfl, rfl, hid rfl⟩
  case round =>
    obtain ⟨j, hj, rfl, rfl, HWR⟩ := hrel
    have hwr := HWR.out
    subst hwr
    by_cases hlt : j < s
    · have hltI : (j : Int) < s := by omega
      obtain ⟨h1, h2, h3, h4⟩ := HI.out
      obtain ⟨b, off, rfl, hcell⟩ := h3 (by omega)
      have hcj := hcell j hlt
      have hzj := h4 j
      have HT := hid (take_snoc ys j (by rw [HL.out]; exact hlt))
      have hbd := numF_bd ys h4 j (by rw [HL.out]; omega)
      have hpw : (256 : Int) ^ j ≤ 16777216 := by
        have : (256 : Nat) ^ j ≤ 256 ^ 3 := Nat.pow_le_pow_right (by omega) (by omega)
        have h2 : ((256 ^ j : Nat) : Int) ≤ ((256 ^ 3 : Nat) : Int) := by exact_mod_cast this
        simpa using h2
      obtain ⟨x, hx⟩ : ∃ x, x = ys.getD j 0 := ⟨_, rfl⟩
      obtain ⟨N, hN⟩ : ∃ N, N = numF (ys.take j) := ⟨_, rfl⟩
      rw [← hx] at hcj hzj HT
      rw [← hN] at hbd ⊢
      have HN := hid hN
      have hN0 : 0 ≤ N := hbd.1
      have hN1 : N < 16777216 := by omega
      have ko := or_byte4 N x hN0 hN1 hzj.1 hzj.2
      have kw : IntKind.u32.wrap (N * 256) = N * 256 := by rw [IntKind.wrap_u32]; omega
      have kx : IntKind.u32.wrap x = x := by rw [IntKind.wrap_u32]; omega
      clear hx hN hcell h1 h2 h3 h4 hbd hpw
      go_wp2
      go_roundg (gk - 1)
      case measure => omega
      case rel => exact ⟨j + 1, by omega, by go_num, val_int (by rw [HT.out, numF_snoc, ← HN.out]), hid rfl⟩
    · have em : j = s := by omega
      subst em
      have hge : ¬ (j : Int) < j := by omega
      have HE : Hid (numF (ys.take j) = numF ys) := hid (by rw [List.take_of_length_le (by rw [HL.out]; omega)])
      go_wp2
      go_ret
      exact ⟨ret_int HE.out, rfl⟩
theorem blt_of_cell {w : World} {b o : Nat} {v : Value} (h : w.cell? ⟨b, o, none⟩ = some v) : b < w.heap.size := by
  unfold World.cell? at h
  by_cases q : b < w.heap.size
  · exact q
  · simp [q] at h
theorem conv_zeroL (w : World) (p : Option Addr) (c : Nat) : (convert 22 9 (.slice p 0 c)).run Try.prog w = .ok (.string (Fr.tx [])) w := by
  rw [run_convert_bytes_string w 22 9 5 p 0 c Try.underlying22 Try.underlying5 Try.underlying9]
  cases p with
  | none => simp [Conv.bytesToString]; rfl
  | some a => simp [Conv.bytesToString, loadCells, loadCellsFrom]; rfl
theorem IsB.convL {w : World} {a : Option Addr} {len cap : Nat} {zs : List Int} (h : IsB w a len zs) : (convert 22 9 (.slice a len cap)).run Try.prog w = .ok (.string (Fr.tx zs)) w := by
  obtain ⟨h1, h2, h3, h4⟩ := h
  rcases Nat.eq_zero_or_pos len with h0 | h0
  · subst h0
    obtain rfl : zs = [] := List.eq_nil_of_length_eq_zero h1
    exact conv_zeroL w a cap
  · obtain ⟨b, off, rfl, hc⟩ := h3 h0
    exact run_convert_bytes_arg w 22 5 Try.underlying22 Try.underlying5 b off len cap zs h1 hc 9 Try.underlying9
/-- What is known of a client, in a variable. -/
def TkAt (w : World) (g : Nat) (st ep num : Int) (bd : ByteArray) : Prop := w.heap[g]? = some (.cells #[.int .u8 st, .int .u32 ep, .int .u32 num, .string bd] 54 (0, 0))
theorem TkAt.cells {w : World} {g : Nat} {st ep num : Int} {bd : ByteArray} (h : TkAt w g st ep num bd) : w.cell? ⟨g, 0, none⟩ = some (.int .u8 st) ∧ w.cell? ⟨g, 1, none⟩ = some (.int .u32 ep) ∧ w.cell? ⟨g, 2, none⟩ = some (.int .u32 num) ∧ w.cell? ⟨g, 3, none⟩ = some (.string bd) ∧ ∀ o, w.frozen? ⟨g, o, none⟩ = false := by
  unfold TkAt at h
  refine ⟨?_, ?_, ?_, ?_, fun o => ?_⟩
  all_goals simp [World.cell?, World.frozen?, h]
set_option maxHeartbeats 2000000 in
theorem rt_zero (b off len cap : Nat) (zs : List Int) (w : World) (h : IsB w (some ⟨b, off, none⟩) len zs) (hc : len ≤ cap) (hl : 0 < len) (h0 : zs.getD 0 0 = 0) :
    Calls Try.prog 17 #[.slice (some ⟨b, off, none⟩) len cap] w fun e w' => e = .returned (rtYes ⟨0, 0, 0, ⟨#[]⟩⟩ 1) ∧ Below w.heap.size w w' := by
  have hm := h.2.1
  unfold maxLen at hm
  have hc0 : w.cell? ⟨b, off, none⟩ = some (.int .u8 (zs.getD 0 0)) := by
    obtain ⟨b', off', e, hc⟩ := h.2.2.1 (by omega)
    cases e
    exact hc 0 (by omega)
  have hb0 := h.2.2.2 0
  rw [h0] at hc0
  have BW : Hid (∀ W, (∃ o, W = w.alloc o) ∨ (∃ o, W = (w.alloc o).drew) → Below w.heap.size w W) := hid (fun W hW => by
    rcases hW with ⟨o, rfl⟩ | ⟨o, rfl⟩
    · exact (Below.refl _ _).alloc (Nat.le_refl _) _
    · exact bel_drew ((Below.refl _ _).alloc (Nat.le_refl _) _))
  have hblt : b < w.heap.size := blt_of_cell hc0
  have hne : ¬ b = w.heap.size := by omega
  have hne' : ¬ w.heap.size = b := by omega
  have I1 : Hid (IsB (w.alloc (.cells #[.int .u8 0, .int .u32 0, .int .u32 0, .string ⟨#[]⟩] 54)) (some ⟨b, off, none⟩) len zs) := hid (h.later ((Below.refl _ _).alloc (Nat.le_refl _) _))
  clear h
  go_enter Try.func17, Try.ntmps17
  go_wp2_with fail
  refine wp_scope_fwd 0 rfl ?_
  go_wp2
  rw [jump_ret]
  exact bodyPost_ret (v := rtYes ⟨0, 0, 0, ⟨#[]⟩⟩ 1) (by simp [results, Try.results17, go_sem, rtNo, rtYes]) rfl ⟨rfl, BW.out _ (by first | exact Or.inl ⟨_, rfl⟩ | exact Or.inr ⟨_, rfl⟩)⟩
set_option maxHeartbeats 2000000 in
theorem rt_short1 (b off len cap : Nat) (zs : List Int) (w : World) (h : IsB w (some ⟨b, off, none⟩) len zs) (hc : len ≤ cap) (hl : 0 < len) (hl9 : len < 9) (h0 : zs.getD 0 0 = 1) :
    Calls Try.prog 17 #[.slice (some ⟨b, off, none⟩) len cap] w fun e w' => e = .returned (rtNo) ∧ Below w.heap.size w w' := by
  have hm := h.2.1
  unfold maxLen at hm
  have hc0 : w.cell? ⟨b, off, none⟩ = some (.int .u8 (zs.getD 0 0)) := by
    obtain ⟨b', off', e, hc⟩ := h.2.2.1 (by omega)
    cases e
    exact hc 0 (by omega)
  have hb0 := h.2.2.2 0
  rw [h0] at hc0
  have BW : Hid (∀ W, (∃ o, W = w.alloc o) ∨ (∃ o, W = (w.alloc o).drew) → Below w.heap.size w W) := hid (fun W hW => by
    rcases hW with ⟨o, rfl⟩ | ⟨o, rfl⟩
    · exact (Below.refl _ _).alloc (Nat.le_refl _) _
    · exact bel_drew ((Below.refl _ _).alloc (Nat.le_refl _) _))
  have hblt : b < w.heap.size := blt_of_cell hc0
  have hne : ¬ b = w.heap.size := by omega
  have hne' : ¬ w.heap.size = b := by omega
  have I1 : Hid (IsB (w.alloc (.cells #[.int .u8 1, .int .u32 0, .int .u32 0, .string ⟨#[]⟩] 54)) (some ⟨b, off, none⟩) len zs) := hid (h.later ((Below.refl _ _).alloc (Nat.le_refl _) _))
  have hlI : (len : Int) < 9 := by omega
  clear h
  go_enter Try.func17, Try.ntmps17
  go_wp2_with fail
  refine wp_scope_fwd 0 rfl ?_
  go_wp2_with fail
  go_step3
  refine ⟨rfl, ?_⟩
  go_wp2
  rw [Exit.noGoto_ret]
  exact bodyPost_ret (v := rtNo) (by simp [results, Try.results17, go_sem, rtNo, rtYes]) rfl ⟨rfl, BW.out _ (by first | exact Or.inl ⟨_, rfl⟩ | exact Or.inr ⟨_, rfl⟩)⟩
set_option maxHeartbeats 2000000 in
theorem rt_short2 (b off len cap : Nat) (zs : List Int) (w : World) (h : IsB w (some ⟨b, off, none⟩) len zs) (hc : len ≤ cap) (hl : 0 < len) (hl9 : len < 11) (h0 : zs.getD 0 0 = 2) :
    Calls Try.prog 17 #[.slice (some ⟨b, off, none⟩) len cap] w fun e w' => e = .returned (rtNo) ∧ Below w.heap.size w w' := by
  have hm := h.2.1
  unfold maxLen at hm
  have hc0 : w.cell? ⟨b, off, none⟩ = some (.int .u8 (zs.getD 0 0)) := by
    obtain ⟨b', off', e, hc⟩ := h.2.2.1 (by omega)
    cases e
    exact hc 0 (by omega)
  have hb0 := h.2.2.2 0
  rw [h0] at hc0
  have BW : Hid (∀ W, (∃ o, W = w.alloc o) ∨ (∃ o, W = (w.alloc o).drew) → Below w.heap.size w W) := hid (fun W hW => by
    rcases hW with ⟨o, rfl⟩ | ⟨o, rfl⟩
    · exact (Below.refl _ _).alloc (Nat.le_refl _) _
    · exact bel_drew ((Below.refl _ _).alloc (Nat.le_refl _) _))
  have hblt : b < w.heap.size := blt_of_cell hc0
  have hne : ¬ b = w.heap.size := by omega
  have hne' : ¬ w.heap.size = b := by omega
  have I1 : Hid (IsB (w.alloc (.cells #[.int .u8 2, .int .u32 0, .int .u32 0, .string ⟨#[]⟩] 54)) (some ⟨b, off, none⟩) len zs) := hid (h.later ((Below.refl _ _).alloc (Nat.le_refl _) _))
  have hlI : (len : Int) < 11 := by omega
  clear h
  go_enter Try.func17, Try.ntmps17
  go_wp2_with fail
  refine wp_scope_fwd 0 rfl ?_
  go_wp2_with fail
  go_step3
  refine ⟨rfl, ?_⟩
  go_wp2
  rw [Exit.noGoto_ret]
  exact bodyPost_ret (v := rtNo) (by simp [results, Try.results17, go_sem, rtNo, rtYes]) rfl ⟨rfl, BW.out _ (by first | exact Or.inl ⟨_, rfl⟩ | exact Or.inr ⟨_, rfl⟩)⟩
set_option maxHeartbeats 2000000 in
theorem rt_bad (b off len cap : Nat) (zs : List Int) (w : World) (h : IsB w (some ⟨b, off, none⟩) len zs) (hc : len ≤ cap) (hl : 0 < len) (h0 : 2 < zs.getD 0 0) :
    Calls Try.prog 17 #[.slice (some ⟨b, off, none⟩) len cap] w fun e w' => e = .returned (rtNo) ∧ Below w.heap.size w w' := by
  have hm := h.2.1
  unfold maxLen at hm
  have hc0 : w.cell? ⟨b, off, none⟩ = some (.int .u8 (zs.getD 0 0)) := by
    obtain ⟨b', off', e, hc⟩ := h.2.2.1 (by omega)
    cases e
    exact hc 0 (by omega)
  have hb0 := h.2.2.2 0
  have BW : Hid (∀ W, (∃ o, W = w.alloc o) ∨ (∃ o, W = (w.alloc o).drew) → Below w.heap.size w W) := hid (fun W hW => by
    rcases hW with ⟨o, rfl⟩ | ⟨o, rfl⟩
    · exact (Below.refl _ _).alloc (Nat.le_refl _) _
    · exact bel_drew ((Below.refl _ _).alloc (Nat.le_refl _) _))
  have hblt : b < w.heap.size := blt_of_cell hc0
  have hne : ¬ b = w.heap.size := by omega
  have hne' : ¬ w.heap.size = b := by omega
  have I1 : Hid (IsB (w.alloc (.cells #[.int .u8 (zs.getD 0 0), .int .u32 0, .int .u32 0, .string ⟨#[]⟩] 54)) (some ⟨b, off, none⟩) len zs) := hid (h.later ((Below.refl _ _).alloc (Nat.le_refl _) _))
  generalize zs.getD 0 0 = x at *
  have x0 : (x == 0) = false := by rw [beq_eq_false_iff_ne]; omega
  have x1 : (x == 1) = false := by rw [beq_eq_false_iff_ne]; omega
  have x2 : (x == 2) = false := by rw [beq_eq_false_iff_ne]; omega
  clear h
  go_enter Try.func17, Try.ntmps17
  go_wp2_with fail
  refine wp_scope_fwd 0 rfl ?_
  go_wp2_with fail
  go_step3
  refine ⟨rfl, ?_⟩
  go_wp2
  rw [Exit.noGoto_ret]
  exact bodyPost_ret (v := rtNo) (by simp [results, Try.results17, go_sem, rtNo, rtYes]) rfl ⟨rfl, BW.out _ (by first | exact Or.inl ⟨_, rfl⟩ | exact Or.inr ⟨_, rfl⟩)⟩
set_option maxHeartbeats 2000000 in
theorem rt_short3 (b off len cap : Nat) (zs : List Int) (w : World) (h : IsB w (some ⟨b, off, none⟩) len zs) (hc : len ≤ cap) (hl : 11 ≤ len) (h0 : zs.getD 0 0 = 2) (hs3 : len < 11 + (numF (sbF zs 9 2)).toNat) :
    Calls Try.prog 17 #[.slice (some ⟨b, off, none⟩) len cap] w fun e w' => e = .returned (rtNo) ∧ Below w.heap.size w w' := by
  have hm := h.2.1
  unfold maxLen at hm
  have hc0 : w.cell? ⟨b, off, none⟩ = some (.int .u8 (zs.getD 0 0)) := by
    obtain ⟨b', off', e, hc⟩ := h.2.2.1 (by omega)
    cases e
    exact hc 0 (by omega)
  have hb0 := h.2.2.2 0
  rw [h0] at hc0
  have BW : Hid (∀ W, (∃ o, W = w.alloc o) ∨ (∃ o, W = (w.alloc o).drew) → Below w.heap.size w W) := hid (fun W hW => by
    rcases hW with ⟨o, rfl⟩ | ⟨o, rfl⟩
    · exact (Below.refl _ _).alloc (Nat.le_refl _) _
    · exact bel_drew ((Below.refl _ _).alloc (Nat.le_refl _) _))
  have hblt : b < w.heap.size := blt_of_cell hc0
  have hne : ¬ b = w.heap.size := by omega
  have hne' : ¬ w.heap.size = b := by omega
  have I1 : Hid (IsB (w.alloc (.cells #[.int .u8 2, .int .u32 0, .int .u32 0, .string ⟨#[]⟩] 54)) (some ⟨b, off, none⟩) len zs) := hid (h.later ((Below.refl _ _).alloc (Nat.le_refl _) _))
  have hN0 := (sbF_bd h 9 2 (by omega)).1
  obtain ⟨n, hN⟩ : ∃ n : Nat, numF (sbF zs 9 2) = (n : Int) := ⟨(numF (sbF zs 9 2)).toNat, by omega⟩
  have hN1 := (sbF_bd h 9 2 (by omega)).2
  have hnb : n < 65536 := by omega
  have NC : Hid (∀ W, IsB W (some ⟨b, off, none⟩) len zs → Calls Try.prog 31 #[.slice (some ⟨b, off + 9, none⟩) 2 (cap - 9)] W fun e w' => e = .returned (.int .u32 n) ∧ w' = W) := hid (fun W hW => by rw [← hN]; exact readNumber_c _ 2 _ _ W (hW.sb 9 2 (by omega)) (by omega))
  have hnt : (numF (sbF zs 9 2)).toNat = n := by omega
  have hlI : (11 : Int) ≤ (len : Int) := by omega
  clear hN0 hN1
  rw [hnt] at hs3
  have hsI : (len : Int) < 11 + (n : Int) := by omega
  clear hN hnt
  clear h
  go_enter Try.func17, Try.ntmps17
  go_wp2_with fail
  refine wp_scope_fwd 0 rfl ?_
  go_wp2_with (go_at_call 31; refine (NC.out _ ?_).mono ?_; exact I1.out; rintro _ w1 ⟨rfl, h1⟩; rw [h1]; clear h1)
  go_wp2_with fail
  go_step3
  refine ⟨rfl, ?_⟩
  go_wp2
  rw [Exit.noGoto_ret]
  exact bodyPost_ret (v := rtNo) (by simp [results, Try.results17, go_sem, rtNo, rtYes]) rfl ⟨rfl, BW.out _ (by first | exact Or.inl ⟨_, rfl⟩ | exact Or.inr ⟨_, rfl⟩)⟩
end Go.Proofs.Ytmoeljieafninaa
