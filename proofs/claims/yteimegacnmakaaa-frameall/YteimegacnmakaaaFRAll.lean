/-
  What the document's answer for All returns: the packets that are cut off one by one.
-/
import Derived.Test.YteimegacnmakaaaFRCutG
import Derived.Test.YteimegacnmakaaaFEncs
namespace Go.Proofs.Yteimegacnmakaaa
open Go.RowKit Go.ChangeShapes Go.WideShapes Go.ChangeAt
set_option linter.unusedVariables false
set_option linter.unusedSimpArgs false
theorem isB_zero (w : World) (a : Option Addr) : IsB w a 0 [] := ⟨rfl, Nat.zero_le _, fun h => absurd h (by omega), fun i => by simp⟩
theorem cuts_drop {zs r : List Int} {ps : List Fr.Pk} (h : Cuts zs ps r) : r = zs.drop (encLen ps) := by
  have := (cuts_eq h).1
  rw [this, ← encAll_len, List.drop_left]
theorem pk_news (U : World) (H : Nat) (hH : U.heap.size = H) (k f t e s : Int) (b : ByteArray) : ∀ j u, (pkCells ⟨k, f, t, e, s, b⟩)[j]? = some u → (U.alloc (.cells #[.int .u8 k, .int .u8 f, .int .u8 t, .int .u32 e, .int .u32 s, .string b] 25)).cell? ((⟨H, 0, none⟩ : Addr).add j) = some u := by
  subst hH; exact World.news_of_block (heap_alloc_new U _)
set_option maxHeartbeats 1000000 in
theorem rall_none (cap : Nat) (w : World) (a : Option Addr) (ha : a = none → cap = 0) :
    Calls Try.prog 20 #[.slice a 0 cap] w (AllPost [] w) := by
  cases a with
  | none =>
    obtain rfl := ha rfl
    go_enter Try.func20, Try.ntmps20
    go_wp2
    refine wp_loop_rounds 1 ?_
    rw [rounds_succ]
    go_wp2_with fail
    refine (rcut_c _ 0 _ [] _ (isB_zero _ _) (Nat.zero_le _) (by omega)).mono ?_
    rintro _ w1 ⟨⟨p, v, hp, _⟩ | ⟨hp, rfl⟩, hb1⟩
    · exact absurd hp (no_begins_nil p)
    · rw [show noPk = .agg #[.int .u8 0, .int .u8 0, .int .u8 0, .int .u32 0, .int .u32 0, .string ⟨#[]⟩] from rfl]
      go_wp2
      go_ret2
      exact ⟨[], [], .slice none 0 0, Cuts.nil _, no_begins_nil, rfl, World.ownsRow_nil _ _ _ _, hb1.alloc hb1.size _⟩
  | some ad =>
    by_cases hc : cap = 0
    · subst hc
      go_enter Try.func20, Try.ntmps20
      go_wp2
      refine wp_loop_rounds 1 ?_
      rw [rounds_succ]
      go_wp2_with fail
      refine (rcut_c _ 0 _ [] _ (isB_zero _ _) (Nat.zero_le _) (by omega)).mono ?_
      rintro _ w1 ⟨⟨p, v, hp, _⟩ | ⟨hp, rfl⟩, hb1⟩
      · exact absurd hp (no_begins_nil p)
      · rw [show noPk = .agg #[.int .u8 0, .int .u8 0, .int .u8 0, .int .u32 0, .int .u32 0, .string ⟨#[]⟩] from rfl]
        go_wp2
        go_ret2
        exact ⟨[], [], .slice none 0 0, Cuts.nil _, no_begins_nil, rfl, World.ownsRow_nil _ _ _ _, hb1.alloc hb1.size _⟩
    · have h1 : (0 : Int) ≤ cap := by omega
      go_enter Try.func20, Try.ntmps20
      go_wp2
      refine wp_loop_rounds 1 ?_
      rw [rounds_succ]
      go_wp2_with fail
      refine (rcut_c _ 0 _ [] _ (isB_zero _ _) (Nat.zero_le _) (by omega)).mono ?_
      rintro _ w1 ⟨⟨p, v, hp, _⟩ | ⟨hp, rfl⟩, hb1⟩
      · exact absurd hp (no_begins_nil p)
      · rw [show noPk = .agg #[.int .u8 0, .int .u8 0, .int .u8 0, .int .u32 0, .int .u32 0, .string ⟨#[]⟩] from rfl]
        go_wp2
        go_ret2
        exact ⟨[], [], .slice none 0 0, Cuts.nil _, no_begins_nil, rfl, World.ownsRow_nil _ _ _ _, hb1.alloc hb1.size _⟩
set_option maxRecDepth 100000 in
set_option maxHeartbeats 2000000 in
theorem rall_some (b off len cap : Nat) (zs : List Int) (w : World) (hb : IsB w (some ⟨b, off, none⟩) len zs) (hlc : len ≤ cap) (hsm : len ≤ 40000) :
    Calls Try.prog 20 #[.slice (some ⟨b, off, none⟩) len cap] w (AllPost zs w) := by
  obtain ⟨iP, hp', hp0, hp1, hp2⟩ := info_parts25
  have HB := hid hb
  clear hb
  go_enter Try.func20, Try.ntmps20
  go_wp2
  go_loopw [4, 5] (fun v i wr => ∃ (ps : List Fr.Pk) (r : List Int), Cuts zs ps r ∧ i = .int .i64 (encLen ps : Nat) ∧ wr.ownsRow w.heap.size 25 6 v ps.length (ps.flatMap pkCells) ∧ Below w.heap.size w wr) (fun _ i _ => ((len : Int) - intOf i).toNat)
  case atStart => exact ⟨[], zs, Cuts.nil _, rfl, World.ownsRow_nil _ _ _ _, Below.refl _ _⟩
  case round =>
    obtain ⟨ps, r, hC, rfl, hR4, hbw⟩ := hrel
    have hcl := cuts_len hC
    have hzl := HB.out.1
    have HC := hid hC
    have HRL : Hid (r.length = len - encLen ps) := by show _ = _; omega
    have HRD := hid (cuts_drop hC)
    have hel : encLen ps ≤ len := by omega
    have hmy := enc_many ps
    have i1 : (encLen ps : Int) ≤ len := by omega
    have i2 : (encLen ps : Int) ≤ cap := by omega
    have i3 : (len : Int) ≤ cap := by omega
    clear hC hcl hzl
    by_cases hcap : cap = encLen ps
    · have hl0 : len = encLen ps := by omega
      have HR0 : Hid (r = []) := List.eq_nil_of_length_eq_zero (by rw [HRL.out]; omega)
      go_wp2_with fail
      refine (rcut_c _ 0 _ [] _ (isB_zero _ _) (Nat.zero_le _) (by omega)).mono ?_
      rintro _ w2 ⟨⟨p, v7, hp, _⟩ | ⟨hp, rfl⟩, hb2⟩
      · exact absurd hp (no_begins_nil p)
      · rw [show noPk = .agg #[.int .u8 0, .int .u8 0, .int .u8 0, .int .u32 0, .int .u32 0, .string ⟨#[]⟩] from rfl]
        clear hp
        go_wp2
        go_ret2
        exact ⟨ps, r, _, HC.out, fun p hp => by rw [HR0.out] at hp; exact no_begins_nil p hp, rfl, own_later (own_later hR4 hb2) ((Below.refl _ _).alloc (Nat.le_refl _) _), (hbw.trans (hb2.mono hbw.size)).alloc (Nat.le_trans hbw.size hb2.size) _⟩
    · have HI : Hid (IsB wr (some ⟨b, off + encLen ps, none⟩) (len - encLen ps) r) := by
        have h1 := (HB.out.later hbw).sub (encLen ps) (len - encLen ps) (by omega)
        rw [List.take_of_length_le (by rw [List.length_drop, HB.out.1]; omega), ← HRD.out] at h1
        exact h1
      go_wp2_with fail
      refine (rcut_c _ _ _ r _ (HI.out) (by omega) (by omega)).mono ?_
      rintro _ w2 ⟨⟨p, v7, hp, rfl, hown7⟩ | ⟨hp, rfl⟩, hb2⟩
      · have hbw2 := hbw.trans (hb2.mono hbw.size)
        have hz2' := hbw2.size
        have s4 := own_later hR4 hb2
        have hL := begins_long hp
        have HP := hid hp
        have hsn := cuts_len (Cuts.snoc HC.out hp)
        obtain ⟨pk, pf, pt, pe, ps', pb⟩ := p
        simp only at hL hown7 hsn
        obtain ⟨_, _, hsz, _⟩ := hL
        obtain ⟨a7, cap7, rfl⟩ := own_len hown7
        have hlr : (r.drop (19 + pb.size)).length = len - encLen ps - (19 + pb.size) := by rw [List.length_drop, HRL.out]
        rw [HRL.out] at hsz
        rw [hlr] at hsn ⊢
        have HN : Hid (encLen (ps ++ [⟨pk, pf, pt, pe, ps', pb⟩]) = encLen ps + (19 + pb.size)) := encLen_snoc _ _
        have hmany := enc_many ps
        rw [show Fr.val ⟨pk, pf, pt, pe, ps', pb⟩ = .agg #[.int .u8 pk, .int .u8 pf, .int .u8 pt, .int .u32 pe, .int .u32 ps', .string pb] from rfl]
        clear hp hown7 hlr hsn
        generalize hd : len - encLen ps - (19 + pb.size) = d
        have hd' : (d : Int) = len - encLen ps - (19 + pb.size) := by omega
        have hd2 : (d : Int) ≤ len := by omega
        have HD := hid hd'
        clear hd hd'
        go_wp2_with (at_builtin; refine wpList_append_own _ rfl _ _ 38 rfl w.heap.size 25 iP _ 6 32 Try.underlying38 hp' hp0 hp1 hp2 rfl (by decide) _ _ _ rfl ((s4.alloc _).alloc _) ⟨w2.heap.size + 1, 0, none⟩ 1 1 (pkCells ⟨pk, pf, pt, pe, ps', pb⟩) rfl rfl (pk_news (w2.alloc (.cells #[.int .u8 pk, .int .u8 pf, .int .u8 pt, .int .u32 pe, .int .u32 ps', .string pb] 25)) _ (by simp) pk pf pt pe ps' pb) (by intro u hu; simp [pkCells] at hu; rcases hu with rfl | rfl | rfl | rfl | rfl | rfl <;> rfl) (by unfold maxLen; omega) (by omega) (by simp; omega) ?_; intro v9 w9 hown9 hgrow9 hnil9)
        have hb9 : Below w.heap.size w w9 := Below.grown ((hbw2.alloc hz2' _).alloc (by simp; omega) _) hgrow9 (by simp; omega) (fun z hz => (s4.lt z hz).1)
        go_roundw
        case rel =>
          refine ⟨ps ++ [⟨pk, pf, pt, pe, ps', pb⟩], _, Cuts.snoc HC.out HP.out, ?_, ?_, hb9⟩
          · rw [HN.out]; have := HD.out; congr 1; omega
          · simpa using hown9
        case measure => have := HD.out; simp [intOf]; omega
      · rw [show noPk = .agg #[.int .u8 0, .int .u8 0, .int .u8 0, .int .u32 0, .int .u32 0, .string ⟨#[]⟩] from rfl]
        have HPN := hid hp
        clear hp
        go_wp2
        go_ret2
        exact ⟨ps, r, _, HC.out, HPN.out, rfl, own_later (own_later hR4 hb2) ((Below.refl _ _).alloc (Nat.le_refl _) _), (hbw.trans (hb2.mono hbw.size)).alloc (Nat.le_trans hbw.size hb2.size) _⟩
theorem rall_c (a : Option Addr) (len cap : Nat) (zs : List Int) (w : World) (hb : IsB w a len zs) (hlc : len ≤ cap) (hsm : len ≤ 40000) (ha : a = none → cap = 0) :
    Calls Try.prog 20 #[.slice a len cap] w (AllPost zs w) := by
  by_cases h0 : len = 0
  · subst h0
    obtain rfl : zs = [] := List.eq_nil_of_length_eq_zero hb.1
    exact rall_none cap w a ha
  · obtain ⟨b, off, rfl, _⟩ := hb.2.2.1 (by omega)
    exact rall_some b off len cap zs w hb hlc hsm
end Go.Proofs.Yteimegacnmakaaa
