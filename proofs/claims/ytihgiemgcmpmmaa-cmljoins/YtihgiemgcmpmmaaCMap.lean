/-
  notNeeded of the package cml: the last place of each setting, in a map keyed by a struct.
-/
import Derived.Test.YtihgiemgcmpmmaaCOps
import Derived.Maps.OwnOps
import Derived.Maps.Views
import Derived.DeepKeys4
namespace Go.Proofs.Ytihgiemgcmpmmaa
open Go.RowKit Go.ChangeShapes Go.WideShapes Go.ChangeAt Go.Maps Go.Shelf
set_option linter.unusedVariables false
set_option linter.unusedSimpArgs false
set_option maxRecDepth 100000
theorem laidC : laidOutB Try.prog = true := by kernel_rfl
theorem setting_wide : (match Try.prog.underlying 72 with | some (.array _ _) | some (.struct _) => true | _ => false) = true := by kernel_rfl
theorem setting_law : WideMaps.KeyLaw Try.prog 72 := deep_law_laid laidC (m := 2) (by omega) (of_decide_eq_true (by kernel_rfl)) (by kernel_rfl) setting_wide
theorem setting_keyed : Keyed Try.prog 72 := Keyed.of_law setting_law
/-- A setting: its value, its key. -/
def kyV (k f : Int) : Value := .agg #[.int .u8 k, .int .u32 f]
def kyL (P : Program) (k f : Int) : Lit := (keyOf P 72 (kyV k f)).getD (.bool false)
theorem ky_some {k f : Int} (hk : 0 ≤ k ∧ k < 256) (hf : 0 ≤ f ∧ f < 4294967296) : keyOf Try.prog 72 (kyV k f) = some (kyL Try.prog k f) := by
  have h1 : (Lit.int .u8 k).wf = true := by simp [Lit.wf, IntKind.min, IntKind.max, IntKind.signed, IntKind.bits]; omega
  have h2 : (Lit.int .u32 f).wf = true := by simp [Lit.wf, IntKind.min, IntKind.max, IntKind.signed, IntKind.bits]; omega
  have : (keyOf Try.prog 72 (kyV k f)).isSome = true := by
    have hkt : Try.prog.keyType 72 = true := by kernel_rfl
    have hc : Try.prog.cellsOf 72 = 2 := by kernel_rfl
    have hc1 : Try.prog.cellsOf 41 = 1 := by kernel_rfl
    have hc2 : Try.prog.cellsOf 43 = 1 := by kernel_rfl
    have hs : decide (1 ≤ Try.prog.types.size) = true := by kernel_rfl
    obtain ⟨d, hd⟩ : ∃ d, Try.prog.types.size = d + 1 := ⟨Try.prog.types.size - 1, by have := of_decide_eq_true hs; omega⟩
    unfold kyV keyOf
    rw [Try.underlying72, hd]
    simp [hkt, Value.formed, Try.underlying72, hc, Value.cells, Program.keyLits, Try.underlying41, Try.underlying43, hc1, hc2, h1, h2]
  unfold kyL
  obtain ⟨x, hx⟩ := Option.isSome_iff_exists.1 this
  rw [hx]; rfl
theorem ky_inj {k f k' f' : Int} (hk : 0 ≤ k ∧ k < 256) (hf : 0 ≤ f ∧ f < 4294967296) (hk' : 0 ≤ k' ∧ k' < 256) (hf' : 0 ≤ f' ∧ f' < 4294967296) (h : kyL Try.prog k f = kyL Try.prog k' f') : k = k' ∧ f = f' := by
  have e := setting_law.inj (ky_some hk hf) (by rw [h]; exact ky_some hk' hf')
  simpa [kyV] using e
theorem ky_key {k f : Int} (hk : 0 ≤ k ∧ k < 256) (hf : 0 ≤ f ∧ f < 4294967296) : WideAt.IsKeyLit (kyL Try.prog k f) := setting_keyed.key (ky_some hk hf)
/-- The last place of a setting, of the first m records. -/
def lastF (l : List Rec) (k f : Int) : Nat → Nat
  | 0 => 0
  | m + 1 => if (l.getD m Rec.no).k = k ∧ (l.getD m Rec.no).fid = f then m else lastF l k f m
def LastD (l : List Rec) (m : Nat) (D : DataW Unit) : Prop := IsMap D ∧ ∀ k f : Int, (0 ≤ k ∧ k < 256) → (0 ≤ f ∧ f < 4294967296) → D.atKey (kyL Try.prog k f) (.lit (.int .i64 0)) = .lit (.int .i64 (lastF l k f m))
theorem LastD.start (l : List Rec) : LastD l 0 (.map []) := ⟨isMap_empty, fun k f _ _ => rfl⟩
theorem LastD.put {l : List Rec} {m : Nat} {D : DataW Unit} (h : LastD l m D) (hx : (l.getD m Rec.no).Wf) : LastD l (m + 1) (D.put (kyL Try.prog (l.getD m Rec.no).k (l.getD m Rec.no).fid) (.lit (.int .i64 m))) := by
  refine ⟨h.1.put _ _, fun k f hk hf => ?_⟩
  unfold lastF
  by_cases e : (l.getD m Rec.no).k = k ∧ (l.getD m Rec.no).fid = f
  · rw [if_pos e]
    obtain ⟨rfl, rfl⟩ := e
    rw [atKey_put_same h.1 (ky_key hk hf)]
  · rw [if_neg e, atKey_put_other (fun he => e (ky_inj hx.1 hx.2.1 hk hf he.symm))]
    exact h.2 k f hk hf
/-- The map that was made here, behind m records. -/
def MapAt (w : World) (b : Nat) (l : List Rec) (m : Nat) : Prop := ∃ D : DataW Unit, w.ownsMap Try.prog 72 (plainElem Try.prog 3) b m D ∧ LastD l m D
theorem MapAt.kept {w w' : World} {b : Nat} {l : List Rec} {m : Nat} {row : Option Nat} (h : MapAt w b l m) (hg : w.grownBy w' row) (hne : some b ≠ row) : MapAt w' b l m := by
  obtain ⟨D, h1, h2⟩ := h
  exact ⟨D, h1.kept hg hne, h2⟩
theorem MapAt.later {w w' : World} {b : Nat} {l : List Rec} {m : Nat} (h : MapAt w b l m) (hb : Below w.heap.size w w') : MapAt w' b l m := by
  obtain ⟨D, ⟨es, cl, h1, h2⟩, h3⟩ := h
  exact ⟨D, ⟨es, cl, (hb.block b (lt_blkR h1)).trans h1, h2⟩, h3⟩
theorem cell_grown {w w' : World} {g j : Nat} {u : Value} (h : w.grownBy w' (some g)) (hj : j ≠ g) (hu : w.cell? ⟨j, 0, none⟩ = some u) : w'.cell? ⟨j, 0, none⟩ = some u := by
  obtain ⟨_, _, _, _, hb⟩ := h
  have hlt : j < w.heap.size := by
    by_cases e : j < w.heap.size
    · exact e
    · have : w.heap[j]? = none := by simp; omega
      simp [World.cell?, this] at hu
  have e := hb j hlt (by simpa using hj)
  simp only [World.cell?, e] at hu ⊢
  exact hu
/-- Whether a kind sets anew. -/
def setsF (k : Int) : Bool := k == 8 || k == 9
set_option maxHeartbeats 1000000 in
theorem sets_c (k : Int) (w : World) : Calls Try.prog 32 #[.int .u8 k] w fun e w' => e = .returned (.bool (setsF k)) ∧ w' = w := by
  unfold setsF
  cases e1 : (k == 8) <;> cases e2 : (k == 9) <;> (go_enter Try.func32, Try.ntmps32; go_wp2; go_ret; exact ⟨by first | rfl | simp_all, rfl⟩)
set_option maxRecDepth 20000 in
set_option maxHeartbeats 2000000 in
theorem notNeeded_c (a : Option Addr) (cap : Nat) (l : List Rec) (w : World) (h : IsL w a l) (hm : l.length ≤ 100000) :
    Calls Try.prog 19 #[.slice a l.length cap] w fun e w' => ∃ P1 P2 Mb, e = .returned (.func (.func 31) #[] #[.pointer (some ⟨P1, 0, none⟩), .pointer (some ⟨P2, 0, none⟩)]) ∧ w'.cell? ⟨P1, 0, none⟩ = some (.slice a l.length cap) ∧ w'.cell? ⟨P2, 0, none⟩ = some (.map (some Mb)) ∧ MapAt w' Mb l l.length ∧ Below w.heap.size w w' := by
  have H := hid h
  clear h
  obtain ⟨n, hn⟩ : ∃ n, n = l.length := ⟨_, rfl⟩
  rw [← hn] at hm ⊢
  have HN := hid hn
  clear hn
  have hmm := @run_makeMap Try.prog
  go_enter Try.func19, Try.ntmps19
  go_wp2
  go_loopw [9] (fun i wr => ∃ m : Nat, m ≤ n ∧ i = .int .i64 m ∧ Hid (MapAt wr (w.heap.size + 1) l m) ∧ Hid (wr.cell? ⟨w.heap.size, 0, none⟩ = some (.slice a n cap)) ∧ wr.cell? ⟨w.heap.size + 1 + 1, 0, none⟩ = some (.map (some (w.heap.size + 1))) ∧ Hid (Below w.heap.size w wr)) (fun i _ => (n - intOf i).toNat)
  case atStart =>
    have g0 := heap_alloc_new w (.cells #[.slice a n cap] 23)
    have b0 : Below w.heap.size w (w.alloc (.cells #[.slice a n cap] 23)) := (Below.refl _ _).alloc (Nat.le_refl _) _
    have s0 : (w.alloc (.cells #[.slice a n cap] 23)).heap.size = w.heap.size + 1 := by simp
    generalize w.alloc (.cells #[.slice a n cap] 23) = w1 at *
    have g1 := World.ownsMap_made (H := Unit) w1 Try.prog 72 (plainElem Try.prog 3)
    have b1 : Below w1.heap.size w1 (w1.alloc (.map #[] 0)) := (Below.refl _ _).alloc (Nat.le_refl _) _
    have s1 : (w1.alloc (.map #[] 0)).heap.size = w1.heap.size + 1 := by simp
    generalize w1.alloc (.map #[] 0) = w2 at *
    have g2 := heap_alloc_new w2 (.cells #[.map (some (w.heap.size + 1))] 70)
    have b2 : Below w2.heap.size w2 (w2.alloc (.cells #[.map (some (w.heap.size + 1))] 70)) := (Below.refl _ _).alloc (Nat.le_refl _) _
    generalize w2.alloc (.cells #[.map (some (w.heap.size + 1))] 70) = w3 at *
    rw [s1, s0] at g2
    rw [s0] at g1
    have m2 : MapAt w2 (w.heap.size + 1) l 0 := ⟨_, g1, LastD.start l⟩
    refine ⟨0, by omega, rfl, m2.later b2, cell_later b2 (cell_later b1 (by rw [cell_of_row _ _ _ _ _ _ g0]; rfl)), by rw [cell_of_row _ _ _ _ _ _ g2]; rfl, ?_⟩
    exact (b0.trans (b1.mono b0.size)).trans (b2.mono (by omega))
  case round =>
    obtain ⟨m, hm2, rfl, HM, HP, hq, HB⟩ := hrel
    by_cases hlt : m < n
    · have hltI : (m : Int) < n := by omega
      obtain ⟨b, off, rfl, hc⟩ := H.out.2.2 (by rw [← HN.out]; omega)
      have hr := (hc m (by rw [← HN.out]; exact hlt)).later HB.out
      have HW : Hid ((l.getD m Rec.no).Wf) := by
        show Rec.Wf _
        rw [List.getD, List.getElem?_eq_getElem (by rw [← HN.out]; exact hlt)]
        exact H.out.2.1 _ (List.getElem_mem _)
      have HL : Hid (∀ D, LastD l m D → LastD l (m + 1) (D.put (kyL Try.prog (l.getD m Rec.no).k (l.getD m Rec.no).fid) (.lit (.int .i64 m)))) := fun D hD => hD.put HW.out
      generalize l.getD m Rec.no = x at *
      have k0 : wr.cell? ⟨b, off + m * 9, none⟩ = some (.int .u8 x.k) := hr 0 _ rfl
      have k1 : wr.cell? ⟨b, off + m * 9 + 1, none⟩ = some (.int .u32 x.fid) := hr 1 _ rfl
      have k2 : wr.cell? ⟨b, off + m * 9 + 2, none⟩ = some (.int .u32 x.dir) := hr 2 _ rfl
      have k3 : wr.cell? ⟨b, off + m * 9 + 3, none⟩ = some (.string x.nm) := hr 3 _ rfl
      have k4 : wr.cell? ⟨b, off + m * 9 + 4, none⟩ = some (.int .u32 x.to) := hr 4 _ rfl
      have k5 : wr.cell? ⟨b, off + m * 9 + 5, none⟩ = some (.string x.nm2) := hr 5 _ rfl
      have k6 : wr.cell? ⟨b, off + m * 9 + 6, none⟩ = some (.int .u16 x.md) := hr 6 _ rfl
      have k7 : wr.cell? ⟨b, off + m * 9 + 7, none⟩ = some (.string x.dt) := hr 7 _ rfl
      have k8 : wr.cell? ⟨b, off + m * 9 + 8, none⟩ = some (.int .u64 x.sn) := hr 8 _ rfl
      clear hc hr
      have hb1 : Below wr.heap.size wr (wr.alloc (.cells x.cells.toArray 49)) := (Below.refl _ _).alloc (Nat.le_refl _) _
      have HM1 := hid (HM.out.later hb1)
      have HP1 := hid (cell_later hb1 HP.out)
      have hq1 : (wr.alloc (.cells #[.int .u8 x.k, .int .u32 x.fid, .int .u32 x.dir, .string x.nm, .int .u32 x.to, .string x.nm2, .int .u16 x.md, .string x.dt, .int .u64 x.sn] 49)).cell? ⟨w.heap.size + 1 + 1, 0, none⟩ = some (.map (some (w.heap.size + 1))) := cell_later hb1 hq
      have HB1 := hid (HB.out.trans (hb1.mono HB.out.size))
      clear hb1 HM HP
      obtain ⟨D, hD⟩ := HM1
      have HO := hid hD.1
      have HD := hid hD.2
      clear hD
      go_wp2_with (at_mapUpdate; refine wpList_mapUpdate_own _ rfl _ _ _ 70 rfl 72 3 setting_keyed Try.underlying70 _ (w.heap.size + 1) m D rfl HO.out (by unfold maxLen; omega) _ _ (kyL Try.prog x.k x.fid) rfl rfl (ky_some HW.out.1 HW.out.2.1) (.lit (.int .i64 m)) [] (plainElem_int Try.underlying3 (by simp [Lit.wf, IntKind.min, IntKind.max, IntKind.signed, IntKind.bits]; omega)) ?_; intro w9 hown9 hgrow9)
      have hne : ∀ j u, j ≠ w.heap.size + 1 → (wr.alloc (.cells x.cells.toArray 49)).cell? ⟨j, 0, none⟩ = some u → w9.cell? ⟨j, 0, none⟩ = some u := fun j u hj hu => cell_grown hgrow9 (by simpa using hj) hu
      have HM9 : Hid (MapAt w9 (w.heap.size + 1) l (m + 1)) := ⟨_, hown9, HL.out _ HD.out⟩
      have HP9 := hid (hne _ _ (by omega) HP1.out)
      have hq9 := hne _ _ (by omega) hq1
      have HB9 : Hid (Below w.heap.size w w9) := Below.grown HB1.out hgrow9 HB1.out.size (fun k hk => by cases hk; omega)
      clear hown9 hgrow9 hne
      go_roundw
      case rel => exact ⟨m + 1, by omega, by go_num, HM9, HP9, hq9, HB9⟩
      case measure => simp [intOf]; omega
    · have em : m = n := by omega
      subst em
      have hge : ¬ (m : Int) < m := by omega
      go_wp2
      go_ret
      exact ⟨w.heap.size, w.heap.size + 1 + 1, rfl, HP.out, w.heap.size + 1, hq, HM.out, HB.out⟩
/-- Whether a record is set anew behind it. -/
def needF (l : List Rec) (i : Nat) : Bool := setsF (l.getD i Rec.no).k && decide (i < lastF l (l.getD i Rec.no).k (l.getD i Rec.no).fid l.length)
set_option maxRecDepth 20000 in
set_option maxHeartbeats 2000000 in
theorem notNeeded1_c (a : Option Addr) (cap : Nat) (l : List Rec) (i : Nat) (P1 P2 Mb : Nat) (w : World) (h : IsL w a l) (hm : l.length ≤ 100000) (hi : i < l.length) (h1 : w.cell? ⟨P1, 0, none⟩ = some (.slice a l.length cap)) (h2 : w.cell? ⟨P2, 0, none⟩ = some (.map (some Mb))) (hM : MapAt w Mb l l.length) :
    Calls Try.prog 31 #[.int .i64 i, .pointer (some ⟨P1, 0, none⟩), .pointer (some ⟨P2, 0, none⟩)] w fun e w' => e = .returned (.bool (needF l i)) ∧ Below w.heap.size w w' := by
  obtain ⟨b, off, rfl, hc⟩ := h.2.2 (by omega)
  have hr := hc i hi
  have HW : Hid ((l.getD i Rec.no).Wf) := by
    show Rec.Wf _
    rw [List.getD, List.getElem?_eq_getElem hi]
    exact h.2.1 _ (List.getElem_mem _)
  have hE : needF l i = (setsF (l.getD i Rec.no).k && decide (i < lastF l (l.getD i Rec.no).k (l.getD i Rec.no).fid l.length)) := rfl
  rw [hE]
  clear hE hc h
  generalize l.getD i Rec.no = x at *
  have k0 : w.cell? ⟨b, off + i * 9, none⟩ = some (.int .u8 x.k) := hr 0 _ rfl
  have k1 : w.cell? ⟨b, off + i * 9 + 1, none⟩ = some (.int .u32 x.fid) := hr 1 _ rfl
  have k2 : w.cell? ⟨b, off + i * 9 + 2, none⟩ = some (.int .u32 x.dir) := hr 2 _ rfl
  have k3 : w.cell? ⟨b, off + i * 9 + 3, none⟩ = some (.string x.nm) := hr 3 _ rfl
  have k4 : w.cell? ⟨b, off + i * 9 + 4, none⟩ = some (.int .u32 x.to) := hr 4 _ rfl
  have k5 : w.cell? ⟨b, off + i * 9 + 5, none⟩ = some (.string x.nm2) := hr 5 _ rfl
  have k6 : w.cell? ⟨b, off + i * 9 + 6, none⟩ = some (.int .u16 x.md) := hr 6 _ rfl
  have k7 : w.cell? ⟨b, off + i * 9 + 7, none⟩ = some (.string x.dt) := hr 7 _ rfl
  clear hr
  have hb1 : Below w.heap.size w (w.alloc (.cells #[.int .u8 x.k, .int .u32 x.fid, .int .u32 x.dir, .string x.nm, .int .u32 x.to, .string x.nm2, .int .u16 x.md, .string x.dt] 46)) := (Below.refl _ _).alloc (Nat.le_refl _) _
  have hq1 := cell_later hb1 h2
  obtain ⟨D, hO, hD⟩ := hM.later hb1
  obtain ⟨c, hrun, hat, hwc⟩ := hO.lookup_int setting_keyed Try.underlying70 Try.underlying3 (by kernel_rfl) (ky_some HW.out.1 HW.out.2.1)
  rw [hD.2 _ _ HW.out.1 HW.out.2.1] at hat
  obtain rfl : (lastF l x.k x.fid l.length : Int) = c := by simpa using hat
  unfold kyV at hrun
  have HB := hid hb1
  clear hat hwc hO hD hb1 hM
  generalize hlf : lastF l x.k x.fid l.length = lf at *
  generalize l.length = n at *
  have hiI : (i : Int) < n := by omega
  cases hs : setsF x.k with
  | false =>
    go_enter Try.func31, Try.ntmps31
    go_wp2_with (go_at_call 32; refine (sets_c x.k _).mono ?_; rintro _ _ ⟨rfl, rfl⟩; rw [hs])
    go_ret
    exact ⟨rfl, HB.out⟩
  | true =>
    go_enter Try.func31, Try.ntmps31
    go_wp2_with (go_at_call 32; refine (sets_c x.k _).mono ?_; rintro _ _ ⟨rfl, rfl⟩; rw [hs])
    go_ret
    exact ⟨rfl, HB.out⟩
end Go.Proofs.Ytihgiemgcmpmmaa
