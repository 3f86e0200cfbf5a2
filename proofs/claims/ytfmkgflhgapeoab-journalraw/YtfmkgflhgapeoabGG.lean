/-
  The document's sectors: four, number, sector of backwaterref05.
  The document's sectors: head, first, last of backwaterref05.
  The document's load of a group: load of backwaterref05.
  The document's sectors of a group: lay of backwaterref05.
-/
import Derived.Test.YtfmkgflhgapeoabGC
import Derived.Deep.RegionHeld3
import Derived.Test.YtfmkgflhgapeoabGD
namespace Go.Proofs.Ytfmkgflhgapeoab
open Go.RowKit Go.ChangeShapes Go.WideShapes Go.ChangeAt Go.Maps
set_option linter.unusedVariables false
set_option linter.unusedSimpArgs false
set_option maxHeartbeats 400000 in
theorem rfour_c (n : Int) (h0 : 0 ≤ n) (h1 : n < 4294967296) (w : World) :
    Calls Try.prog 80 #[.int .u32 n] w fun e w' => e = .returned (.slice (some ⟨w.heap.size, 0, none⟩) 4 4) ∧ w' = w.alloc (.cells ((Fr.le4 n).map by8).toArray 5) := by
  go_enter Try.func80, Try.ntmps80
  go_wp2
  go_ret
  refine ⟨rfl, ?_⟩
  have h9 : n / 16777216 % 256 = n / 16777216 := by omega
  simp [Fr.le4, by8, IntKind.wrap_u8', h9]
set_option maxHeartbeats 400000 in
theorem rnum_c (a : Option Addr) (len cap : Nat) (zs : List Int) (w : World) (hb : IsB w a len zs) (h4 : 4 ≤ len) :
    Calls Try.prog 60 #[.slice a len cap] w fun e w' => e = .returned (.int .u32 (Fr.at4 zs 0)) ∧ Below w.heap.size w w' := by
  obtain ⟨hl, hm, hc, hz⟩ := hb
  obtain ⟨b, off, rfl, hcell⟩ := hc (by omega)
  have c0 : w.cell? ⟨b, off, none⟩ = some (.int .u8 (zs.getD 0 0)) := hcell 0 (by omega)
  have c1 := hcell 1 (by omega)
  have c2 := hcell 2 (by omega)
  have c3 := hcell 3 (by omega)
  have z0 := hz 0
  have z1 := hz 1
  have z2 := hz 2
  have z3 := hz 3
  have l0 : (0 : Int) < len := by omega
  have l1 : (1 : Int) < len := by omega
  have l2 : (2 : Int) < len := by omega
  have l3 : (3 : Int) < len := by omega
  have E : Hid (Fr.at4 zs 0 = Fr.num4 (zs.getD 0 0) (zs.getD 1 0) (zs.getD 2 0) (zs.getD 3 0)) := rfl
  generalize zs.getD 0 0 = x0 at *
  generalize zs.getD 1 0 = x1 at *
  generalize zs.getD 2 0 = x2 at *
  generalize zs.getD 3 0 = x3 at *
  clear hc hcell hz hl
  go_enter Try.func60, Try.ntmps60
  go_wp2_with fail
  go_quiet (fail)
  go_wp2
  go_ret
  refine ⟨ret_int ?_, by first | exact Below.refl _ _ | exact (Below.refl _ _).drew | exact below_drewN (Below.refl _ _) _ | exact ⟨rfl, rfl, rfl, Nat.le_refl _, fun _ _ => rfl⟩⟩
  rw [E.out]; unfold Fr.num4
  first | omega | (rw [IntKind.wrap_u32]; omega) | (simp only [IntKind.wrap_u32]; omega)
/-- A sector whose first k bytes are written. -/
def fillS (zs : List Int) (k : Nat) : List Int := zs.take k ++ List.replicate (32 - k) 0
theorem fill_len {zs : List Int} {k : Nat} (hk : k ≤ zs.length) (h : zs.length ≤ 32) : (fillS zs k).length = 32 := by unfold fillS; simp; omega
theorem fill_set {zs : List Int} {k : Nat} (hk : k < zs.length) (h : zs.length ≤ 32) : (fillS zs k).set k (zs.getD k 0) = fillS zs (k + 1) := by
  unfold fillS
  have h1 : (zs.take k).length = k := by rw [List.length_take]; omega
  rw [List.set_append_right _ _ (by omega), h1, Nat.sub_self, show 32 - k = (32 - (k + 1)) + 1 by omega, List.replicate_succ, List.set_cons_zero, List.take_succ_eq_append_getElem hk]
  have e : zs.getD k 0 = zs[k] := by simp [List.getD, hk]
  rw [e, List.append_assoc]; rfl
theorem fill_end {zs : List Int} (h : zs.length ≤ 32) : fillS zs zs.length = Jo.pad zs := by unfold fillS Jo.pad; rw [List.take_length]
theorem fill_zero (zs : List Int) : fillS zs 0 = zsec := rfl
theorem sizeR5 : (Try.prog.info? 36).map (·.size) = some 32 := by kernel_rfl
set_option maxRecDepth 100000 in
set_option maxHeartbeats 1000000 in
theorem rsector_f (a : Option Addr) (len cap : Nat) (zs : List Int) (w : World) (h : IsB w a len zs) (hl : len ≤ 32) :
    Calls Try.prog 79 #[.slice a len cap, .bool false] w fun e w' => e = .returned (secV (Jo.pad zs)) ∧ Below w.heap.size w w' := by
  have zz := zlit
  have zn : ¬ zsec = [] := by decide
  have H := hid h
  have hzl := h.1
  have hS : (Jo.pad zs).length = 32 := Jo.pad_len (by omega)
  have hB0 : Below w.heap.size w ((w.alloc (.cells (zsec.map by8).toArray 36)).alloc (.cells (zsec.map by8).toArray 36)) := ((Below.refl _ _).alloc (Nat.le_refl _) _).alloc (by simp) _
  have HB0 := hid hB0
  have HX0 : Hid (Bx ((w.alloc (.cells (zsec.map by8).toArray 36)).alloc (.cells (zsec.map by8).toArray 36)) (w.heap.size + 1) 36 zsec) := by
    have := heap_alloc_new (w.alloc (.cells (zsec.map by8).toArray 36)) (.cells (zsec.map by8).toArray 36)
    have hs : (w.alloc (.cells (zsec.map by8).toArray 36)).heap.size = w.heap.size + 1 := by simp
    rw [hs] at this
    exact this
  have HR0 : Hid (((w.alloc (.cells (zsec.map by8).toArray 36)).alloc (.cells (zsec.map by8).toArray 36)).heap[w.heap.size]? = some (.cells (zsec.map by8).toArray 36 (0, 0))) := by
    have hb2 : Below (w.alloc (.cells (zsec.map by8).toArray 36)).heap.size (w.alloc (.cells (zsec.map by8).toArray 36)) ((w.alloc (.cells (zsec.map by8).toArray 36)).alloc (.cells (zsec.map by8).toArray 36)) := (Below.refl _ _).alloc (Nat.le_refl _) _
    exact (hb2.block _ (by simp)).trans (heap_alloc_new w _)
  clear h hB0
  go_enter Try.func79, Try.ntmps79
  go_wp2
  go_loopw [6] (fun i wr => ∃ k : Nat, k ≤ len ∧ i = .int .i64 k ∧ Bx wr (w.heap.size + 1) 36 (fillS zs k) ∧ wr.heap[w.heap.size]? = some (.cells (zsec.map by8).toArray 36 (0, 0)) ∧ Below w.heap.size w wr) (fun i _ => (len - intOf i).toNat)
  case atStart => exact ⟨0, by omega, rfl, HX0.out, HR0.out, HB0.out⟩
  case round =>
    obtain ⟨k, hk, rfl, hx, hr, hb⟩ := hrel
    by_cases hlt : k < len
    · obtain ⟨q, off, rfl, hc⟩ := H.out.2.2.1 (by omega)
      have ck := cell_later hb (hc k hlt)
      have cx := bx_cell hx k (by rw [fill_len (by omega) (by omega)]; omega)
      have cf := bx_frozen hx k
      have k32 : (k : Int) < 32 := by omega
      have HS := hid (bx_set hx k (zs.getD k 0) (by rw [fill_len (by omega) (by omega)]; omega))
      rw [fill_set (by omega) (by omega)] at HS
      clear hc
      generalize zs.getD k 0 = x at *
      go_wp2
      go_roundw
      case rel =>
        refine ⟨k + 1, by omega, by go_num, ?_, ?_, ?_⟩
        · exact HS.out
        · rw [heap_setCell_other _ _ _ _ (by simp)]; exact hr
        · exact hb.setCell (by simp) _
      case measure => simp [intOf]; omega
    · have hkl : k = len := by omega
      subst hkl
      rw [← hzl, fill_end (by omega)] at hx
      go_wp2_with (first
        | (refine wpList_loadS _ rfl _ _ rfl sizeR5 Try.underlying36 _ rfl (Jo.pad zs) hS _ _ hx ?_)
        | (refine wpList_storeA _ rfl _ _ _ rfl sizeR5 _ rfl (Jo.pad zs) rfl hS _ _ hr (by simp; decide) ?_; intro w4 k1 k2 k3))
      exact bodyPost_ret (v := secV (Jo.pad zs)) (res_sec1 rfl _ _ sizeR5 Try.underlying36 w.heap.size rfl _ hS _ _ k1) rfl ⟨rfl, hb.trans (k2.below hb.size (fun q e => by omega))⟩
theorem grown_low {w w' : World} {base e size n : Nat} {v : Value} {xs : List Value} (hown : w.ownsRow base e size v n xs) (hg : w.grownBy w' v.ownBlock) {q : Nat} (hq : q < base) {cs : Array Value} {t : TypeId} {fr : Nat × Nat} (h : w.heap[q]? = some (.cells cs t fr)) : w'.heap[q]? = some (.cells cs t fr) := by
  rw [(Out.grown (S := fun k => base ≤ k) hg (fun k hk => (hown.lt k hk).1)).block q (lt_blk h) (by omega)]; exact h
theorem isB_new (W : World) (l : List Int) (hb : Jo.Bytes l) (hl : l.length ≤ 1000) (n : Nat) (hn : l.length = n) : IsB (W.alloc (.cells (l.map by8).toArray 5)) (some ⟨W.heap.size, 0, none⟩) n l := by
  subst hn
  refine ⟨rfl, by unfold maxLen; omega, fun _ => ⟨W.heap.size, 0, rfl, fun i hi => ?_⟩, fun i => by have := Jo.bytes_getD hb i; omega⟩
  rw [cell_of_row _ _ _ _ _ _ (heap_alloc_new W _)]
  simp [hi, by8, List.getD]
theorem own_emptyB (w : World) : (w.alloc (.cells #[] 5)).ownsRow w.heap.size 5 1 (.slice (some ⟨w.heap.size, 0, none⟩) 0 0) 0 [] :=
  ⟨rfl, .inr ⟨w.heap.size, 0, #[], rfl, Nat.le_refl _, heap_alloc_new w _, Nat.le_refl _, by unfold maxLen; omega, rfl, rfl⟩⟩
set_option maxRecDepth 100000 in
set_option maxHeartbeats 1000000 in
theorem rsector_t (a : Option Addr) (len cap : Nat) (zs : List Int) (w : World) (h : IsB w a len zs) (hn : a = none → cap = 0) (hbz : Jo.Bytes zs) (hl : len ≤ 28) :
    Calls Try.prog 79 #[.slice a len cap, .bool true] w fun e w' => e = .returned (secV (Jo.sealed zs)) ∧ Below w.heap.size w w' := by
  have zz := zlit
  have zn : ¬ zsec = [] := by decide
  have hzl := h.1
  have hfb := Fr.fold_lt zs
  have hS : (Jo.pad (zs ++ Fr.le4 (M.foldF zs))).length = 32 := Jo.pad_len (by simp [Jo.le4_len]; omega)
  have hB0 : Below w.heap.size w ((w.alloc (.cells (zsec.map by8).toArray 36)).alloc (.cells #[] 5)) := ((Below.refl _ _).alloc (Nat.le_refl _) _).alloc (by simp) _
  have hO0 := own_emptyB (w.alloc (.cells (zsec.map by8).toArray 36))
  have hb1 : Below (w.alloc (.cells (zsec.map by8).toArray 36)).heap.size (w.alloc (.cells (zsec.map by8).toArray 36)) ((w.alloc (.cells (zsec.map by8).toArray 36)).alloc (.cells #[] 5)) := (Below.refl _ _).alloc (Nat.le_refl _) _
  have hR0 : ((w.alloc (.cells (zsec.map by8).toArray 36)).alloc (.cells #[] 5)).heap[w.heap.size]? = some (.cells (zsec.map by8).toArray 36 (0, 0)) := (hb1.block _ (by simp)).trans (heap_alloc_new w _)
  have hsz : (w.alloc (.cells (zsec.map by8).toArray 36)).heap.size = w.heap.size + 1 := by simp
  rw [hsz] at hO0
  have H := hid h
  have HB0 := hid hB0
  have HO0 := hid hO0
  have HR0 := hid hR0
  clear h hB0 hO0 hR0 hb1 hsz
  go_enter Try.func79, Try.ntmps79
  go_wp2_with (first
    | (at_builtin; refine wpList_appendB _ rfl _ _ rfl (w.heap.size + 1) _ _ _ rfl HO3.out _ 4 4 (Fr.le4 (M.foldF zs)) rfl HF3.out (fun e => by cases e) (by omega) (by have := HB3.out.size; have := HR3.out; have := lt_blk this; omega) ?_; intro v4 w4 hown4 hgrow4; have HB4 := hid (below_grown HB3.out HO3.out (Nat.le_succ _) HB3.out.size hgrow4); have HO4 := hid hown4; have HR4 := hid (grown_low HO3.out hgrow4 (Nat.lt_succ_self _) HR3.out); clear hown4 hgrow4)
    | (at_builtin; refine wpList_appendB _ rfl _ _ rfl (w.heap.size + 1) _ _ _ rfl HO0.out _ _ _ zs rfl (H.out.later HB0.out) hn (by omega) (by simp) ?_; intro v2 w2 hown2 hgrow2; have HB2 := hid (below_grown HB0.out HO0.out (Nat.le_succ _) HB0.out.size hgrow2); have HO2 := hid hown2; have HR2 : Hid (w2.heap[w.heap.size]? = some (.cells (zsec.map by8).toArray 36 (0, 0))) := grown_low HO0.out hgrow2 (Nat.lt_succ_self _) HR0.out; clear hown2 hgrow2)
    | (go_at_call 90; refine (rfold_c _ _ _ _ _ (H.out.later HB2.out)).mono ?_; rintro _ w3 ⟨rfl, hw3⟩; rw [hw3]; clear hw3 w3)
    | (go_at_call 80; refine (rfour_c _ hfb.1 hfb.2 _).mono ?_; rintro _ w3 ⟨rfl, rfl⟩; have HO3 := hid (HO2.out.alloc (.cells ((Fr.le4 (M.foldF zs)).map by8).toArray 5)); have HF3 := hid (isB_new w2 (Fr.le4 (M.foldF zs)) (Jo.bytes_le4 _) (by simp [Jo.le4_len]) 4 rfl); have HB3 := hid (HB2.out.alloc HB2.out.size (.cells ((Fr.le4 (M.foldF zs)).map by8).toArray 5)); have HR3 : Hid ((w2.alloc (.cells ((Fr.le4 (M.foldF zs)).map by8).toArray 5)).heap[w.heap.size]? = some (.cells (zsec.map by8).toArray 36 (0, 0))) := (((Below.refl _ w2).alloc (Nat.le_refl _) _ : Below w2.heap.size w2 _).block _ (lt_blk HR2.out)).trans HR2.out))
  obtain ⟨L, hL⟩ : ∃ L, L = zs ++ Fr.le4 (M.foldF zs) := ⟨_, rfl⟩
  have hLl : L.length = len + 4 := by rw [hL, List.length_append, Jo.le4_len, hzl]
  have hO4 : w4.ownsRow (w.heap.size + 1) 5 1 v4 L.length (L.map by8) := by
    have := HO4.out
    rw [List.nil_append, ← List.map_append, ← hL] at this
    rw [hLl]
    simpa using this
  obtain ⟨a4, cap4, rfl, hB4, hc4, _, hin4⟩ := own_isB hO4 (by rw [hL]; exact Jo.bytes_app hbz (Jo.bytes_le4 _))
  rw [← hL] at hS
  have HL := hid hL
  clear hO4 HO4 hL HO0 HO2 HO3 HR0 HR2 HR3 HB0 HB2 HB3 HF3
  have hl32 : L.length ≤ 32 := by omega
  have hb5 : Below w4.heap.size w4 (w4.alloc (.cells (zsec.map by8).toArray 36)) := (Below.refl _ _).alloc (Nat.le_refl _) _
  have HX5 := hid (heap_alloc_new w4 (.cells (zsec.map by8).toArray 36))
  have HR5 := hid ((hb5.block _ (lt_blk HR4.out)).trans HR4.out)
  have HB5 := hid (HB4.out.trans (hb5.mono HB4.out.size))
  have HI5 := hid (hB4.later hb5)
  have hwl : w.heap.size < w4.heap.size := lt_blk HR4.out
  clear hb5 hB4 HR4 HB4
  go_loopw [6] (fun i wr => ∃ k : Nat, k ≤ L.length ∧ i = .int .i64 k ∧ Bx wr w4.heap.size 36 (fillS L k) ∧ wr.heap[w.heap.size]? = some (.cells (zsec.map by8).toArray 36 (0, 0)) ∧ Below w.heap.size w wr ∧ IsB wr a4 L.length L) (fun i _ => (L.length - intOf i).toNat)
  case atStart => exact ⟨0, by omega, rfl, HX5.out, HR5.out, HB5.out, HI5.out⟩
  case round =>
    obtain ⟨k, hk, rfl, hx, hr, hb, hI⟩ := hrel
    by_cases hlt : k < L.length
    · obtain ⟨q, off, rfl, hc⟩ := hI.2.2.1 (by omega)
      have ck := hc k hlt
      have cx := bx_cell hx k (by rw [fill_len (by omega) (by omega)]; omega)
      have cf := bx_frozen hx k
      have k32 : (k : Int) < 32 := by omega
      have HS := hid (bx_set hx k (L.getD k 0) (by rw [fill_len (by omega) (by omega)]; omega))
      rw [fill_set (by omega) (by omega)] at HS
      have HI := hid hI
      have hq4 : q ≠ w4.heap.size := by have := (hin4 _ rfl).2; simp at this; omega
      clear hc hI
      generalize L.getD k 0 = x at *
      go_wp2
      go_roundw
      case rel =>
        refine ⟨k + 1, by omega, by go_num, HS.out, ?_, hb.setCell (by simp; omega) _, isB_blk HI.out ?_⟩
        · rw [heap_setCell_other _ _ _ _ (by simp; omega)]; exact hr
        · rw [heap_setCell_other _ _ _ _ (by simpa using hq4)]
      case measure => simp [intOf]; omega
    · have hkl : k = L.length := by omega
      subst hkl
      rw [fill_end (by omega)] at hx
      go_wp2_with (first
        | (refine wpList_loadS _ rfl _ _ rfl sizeR5 Try.underlying36 _ rfl (Jo.pad L) hS _ _ hx ?_)
        | (refine wpList_storeA _ rfl _ _ _ rfl sizeR5 _ rfl (Jo.pad L) rfl hS _ _ hr (by simp; decide) ?_; intro w5 k1 k2 k3))
      exact bodyPost_ret (v := secV (Jo.pad L)) (res_sec1 rfl _ _ sizeR5 Try.underlying36 w.heap.size rfl _ hS _ _ k1) rfl ⟨by rw [HL.out]; rfl, hb.trans (k2.below hb.size (fun q e => by omega))⟩
end Go.Proofs.Ytfmkgflhgapeoab
namespace Go.Proofs.Ytfmkgflhgapeoab
open Go.RowKit Go.ChangeShapes Go.WideShapes Go.ChangeAt Go.Maps
set_option linter.unusedVariables false
set_option linter.unusedSimpArgs false
/-- Bytes that are laid behind w, where the answer's sector lies. -/
def RowS (w V : World) (v : Value) (l : List Int) : Prop := V.ownsRow (w.heap.size + 1) 5 1 v l.length (l.map by8) ∧ Below w.heap.size w V ∧ V.heap[w.heap.size]? = some (.cells (zsec.map by8).toArray 36 (0, 0)) ∧ Jo.Bytes l
theorem RowS.base {w V : World} {v : Value} {l : List Int} (h : RowS w V v l) : w.heap.size + 1 ≤ V.heap.size := lt_blk h.2.2.1
theorem RowS.later {w V V' : World} {v : Value} {l : List Int} (h : RowS w V v l) (hb : Below V.heap.size V V') : RowS w V' v l :=
  ⟨own_far h.1 fun k hk => hb.block k (h.1.lt k hk).2, h.2.1.trans (hb.mono h.2.1.size), (hb.block _ (lt_blk h.2.2.1)).trans h.2.2.1, h.2.2.2⟩
theorem RowS.begin (w : World) (x : Int) (hx : 0 ≤ x ∧ x < 256) : RowS w ((w.alloc (.cells (zsec.map by8).toArray 36)).alloc (.cells #[.int .u8 x] 5)) (.slice (some ⟨w.heap.size + 1, 0, none⟩) 1 1) [x] := by
  have hb1 : Below (w.alloc (.cells (zsec.map by8).toArray 36)).heap.size (w.alloc (.cells (zsec.map by8).toArray 36)) ((w.alloc (.cells (zsec.map by8).toArray 36)).alloc (.cells #[.int .u8 x] 5)) := (Below.refl _ _).alloc (Nat.le_refl _) _
  have hsz : (w.alloc (.cells (zsec.map by8).toArray 36)).heap.size = w.heap.size + 1 := by simp
  have hn := heap_alloc_new (w.alloc (.cells (zsec.map by8).toArray 36)) (.cells #[.int .u8 x] 5)
  rw [hsz] at hn
  exact ⟨⟨rfl, .inr ⟨w.heap.size + 1, 1, #[.int .u8 x], rfl, Nat.le_refl _, hn, Nat.le_refl _, by unfold maxLen; omega, rfl, rfl⟩⟩, ((Below.refl _ _).alloc (Nat.le_refl _) _).alloc (by simp) _, (hb1.block _ (by simp)).trans (heap_alloc_new w _), Jo.bytes_cons hx (fun y hy => by cases hy)⟩
theorem RowS.new {w V : World} {v : Value} {l : List Int} (h : RowS w V v l) (zs : List Int) (hz : Jo.Bytes zs) (hl : zs.length ≤ 1000) (n : Nat) (hn : zs.length = n) : RowS w (V.alloc (.cells (zs.map by8).toArray 5)) v l ∧ IsB (V.alloc (.cells (zs.map by8).toArray 5)) (some ⟨V.heap.size, 0, none⟩) n zs :=
  ⟨h.later ((Below.refl _ V).alloc (Nat.le_refl _) _), isB_new V zs hz hl n hn⟩
theorem RowS.app {w V V' : World} {v v' : Value} {l zs : List Int} {n : Nat} (h : RowS w V v l) (ho : V'.ownsRow (w.heap.size + 1) 5 1 v' (l.length + n) (l.map by8 ++ zs.map by8)) (hn : zs.length = n) (hg : V.grownBy V' v.ownBlock) (hz : Jo.Bytes zs) : RowS w V' v' (l ++ zs) := by
  refine ⟨?_, below_grown h.2.1 h.1 (Nat.le_succ _) h.2.1.size hg, grown_low h.1 hg (Nat.lt_succ_self _) h.2.2.1, Jo.bytes_app h.2.2.2 hz⟩
  rw [List.length_append, List.map_append, hn]; exact ho
theorem RowS.shape {w V : World} {v : Value} {l : List Int} (h : RowS w V v l) : ∃ a cap, v = .slice a l.length cap ∧ IsB V a l.length l ∧ (a = none → cap = 0) := by
  obtain ⟨a, cap, h1, h2, h3, h4, h5⟩ := own_isB h.1 h.2.2.2
  exact ⟨a, cap, h1, h2, h4⟩
set_option maxRecDepth 100000 in
set_option maxHeartbeats 1000000 in
theorem rhead_c (t : Int) (w : World) (ht : 0 ≤ t ∧ t < 4294967296) :
    Calls Try.prog 61 #[.int .u32 t] w fun e w' => e = .returned (secV (Jo.headS t)) ∧ Below w.heap.size w w' := by
  have zz := zlit
  have zn : ¬ zsec = [] := by decide
  have hS : (Jo.headS t).length = 32 := (Jo.head_sct t).1
  have R0 := hid (RowS.begin w 72 (by omega))
  go_enter Try.func61, Try.ntmps61
  go_wp2_with fail
  generalize ((w.alloc (.cells (zsec.map by8).toArray 36)).alloc (.cells #[.int .u8 72] 5)) = V0 at *
  refine (rfour_c t (by omega) (by omega) _).mono ?_
  rintro _ _ ⟨rfl, rfl⟩
  have N1 := hid (R0.out.new (Fr.le4 t) (Jo.bytes_le4 _) (by simp [Jo.le4_len]) 4 rfl)
  go_wp2_with (at_builtin; refine wpList_appendB _ rfl _ _ rfl (w.heap.size + 1) _ _ _ rfl N1.out.1.1 _ 4 4 (Fr.le4 t) rfl N1.out.2 (fun e => by cases e) (by simp [Jo.le4_len]) N1.out.1.base ?_; intro v1 V1 hown1 hgrow1; have R1 := hid (N1.out.1.app hown1 rfl hgrow1 (Jo.bytes_le4 _)); clear hown1 hgrow1)
  obtain ⟨a9, cap9, hv9, hI9, hn9⟩ := R1.out.shape
  subst hv9
  have hE : Jo.sealed ([72] ++ Fr.le4 t) = Jo.headS t := by unfold Jo.headS; first | rfl | (congr 1; simp)
  have C9 := rsector_t a9 _ cap9 ([72] ++ Fr.le4 t) _ hI9 hn9 R1.out.2.2.2 (by simp [Jo.le4_len])
  rw [hE] at C9
  refine C9.mono ?_
  rintro _ w5 ⟨rfl, hb5⟩
  have R9 := hid (R1.out.later hb5)
  have r5 := R9.out.2.2.1
  clear C9 hI9 hn9 hb5 hE
  go_wp2_with (refine wpList_storeA _ rfl _ _ _ rfl sizeR5 _ rfl (Jo.headS t) rfl hS _ _ r5 (by simp; decide) ?_; intro w6 k1 k2 k3)
  exact bodyPost_ret (v := secV (Jo.headS t)) (res_sec1 rfl _ _ sizeR5 Try.underlying36 w.heap.size rfl _ hS _ _ k1) rfl ⟨rfl, R9.out.2.1.trans (k2.below R9.out.2.1.size (fun q e => by omega))⟩
set_option maxRecDepth 100000 in
set_option maxHeartbeats 1000000 in
theorem rlast_c (t n : Int) (w : World) (ht : 0 ≤ t ∧ t < 4294967296) (hn : 0 ≤ n ∧ n < 4294967296) :
    Calls Try.prog 83 #[.int .u32 t, .int .u32 n] w fun e w' => e = .returned (secV (Jo.lastS t n)) ∧ Below w.heap.size w w' := by
  have zz := zlit
  have zn : ¬ zsec = [] := by decide
  have hS : (Jo.lastS t n).length = 32 := (Jo.last_sct t n).1
  have R0 := hid (RowS.begin w 67 (by omega))
  go_enter Try.func83, Try.ntmps83
  go_wp2_with fail
  generalize ((w.alloc (.cells (zsec.map by8).toArray 36)).alloc (.cells #[.int .u8 67] 5)) = V0 at *
  refine (rfour_c t (by omega) (by omega) _).mono ?_
  rintro _ _ ⟨rfl, rfl⟩
  have N1 := hid (R0.out.new (Fr.le4 t) (Jo.bytes_le4 _) (by simp [Jo.le4_len]) 4 rfl)
  go_wp2_with (at_builtin; refine wpList_appendB _ rfl _ _ rfl (w.heap.size + 1) _ _ _ rfl N1.out.1.1 _ 4 4 (Fr.le4 t) rfl N1.out.2 (fun e => by cases e) (by simp [Jo.le4_len]) N1.out.1.base ?_; intro v1 V1 hown1 hgrow1; have R1 := hid (N1.out.1.app hown1 rfl hgrow1 (Jo.bytes_le4 _)); clear hown1 hgrow1)
  refine (rfour_c n (by omega) (by omega) _).mono ?_
  rintro _ _ ⟨rfl, rfl⟩
  have N2 := hid (R1.out.new (Fr.le4 n) (Jo.bytes_le4 _) (by simp [Jo.le4_len]) 4 rfl)
  go_wp2_with (at_builtin; refine wpList_appendB _ rfl _ _ rfl (w.heap.size + 1) _ _ _ rfl N2.out.1.1 _ 4 4 (Fr.le4 n) rfl N2.out.2 (fun e => by cases e) (by simp [Jo.le4_len]) N2.out.1.base ?_; intro v2 V2 hown2 hgrow2; have R2 := hid (N2.out.1.app hown2 rfl hgrow2 (Jo.bytes_le4 _)); clear hown2 hgrow2)
  obtain ⟨a9, cap9, hv9, hI9, hn9⟩ := R2.out.shape
  subst hv9
  have hE : Jo.sealed (([67] ++ Fr.le4 t) ++ Fr.le4 n) = Jo.lastS t n := by unfold Jo.lastS; first | rfl | (congr 1; simp)
  have C9 := rsector_t a9 _ cap9 (([67] ++ Fr.le4 t) ++ Fr.le4 n) _ hI9 hn9 R2.out.2.2.2 (by simp [Jo.le4_len])
  rw [hE] at C9
  refine C9.mono ?_
  rintro _ w5 ⟨rfl, hb5⟩
  have R9 := hid (R2.out.later hb5)
  have r5 := R9.out.2.2.1
  clear C9 hI9 hn9 hb5 hE
  go_wp2_with (refine wpList_storeA _ rfl _ _ _ rfl sizeR5 _ rfl (Jo.lastS t n) rfl hS _ _ r5 (by simp; decide) ?_; intro w6 k1 k2 k3)
  exact bodyPost_ret (v := secV (Jo.lastS t n)) (res_sec1 rfl _ _ sizeR5 Try.underlying36 w.heap.size rfl _ hS _ _ k1) rfl ⟨rfl, R9.out.2.1.trans (k2.below R9.out.2.1.size (fun q e => by omega))⟩
set_option maxRecDepth 100000 in
set_option maxHeartbeats 1000000 in
theorem rfirst_c (t n k l : Int) (w : World) (ht : 0 ≤ t ∧ t < 4294967296) (hn : 0 ≤ n ∧ n < 4294967296) (hk : 0 ≤ k ∧ k < 256) (hl : 0 ≤ l ∧ l < 4294967296) :
    Calls Try.prog 81 #[.int .u32 t, .int .u32 n, .int .i64 k, .int .i64 l] w fun e w' => e = .returned (secV (Jo.firstS t n k l)) ∧ Below w.heap.size w w' := by
  have zz := zlit
  have zn : ¬ zsec = [] := by decide
  have hS : (Jo.firstS t n k l).length = 32 := (Jo.first_sct t n hk l).1
  have R0 := hid (RowS.begin w 71 (by omega))
  have hwk : k % 256 = k := by omega
  have hwl : l % 4294967296 = l := by omega
  go_enter Try.func81, Try.ntmps81
  go_wp2_with fail
  generalize ((w.alloc (.cells (zsec.map by8).toArray 36)).alloc (.cells #[.int .u8 71] 5)) = V0 at *
  refine (rfour_c t (by omega) (by omega) _).mono ?_
  rintro _ _ ⟨rfl, rfl⟩
  have N1 := hid (R0.out.new (Fr.le4 t) (Jo.bytes_le4 _) (by simp [Jo.le4_len]) 4 rfl)
  go_wp2_with (at_builtin; refine wpList_appendB _ rfl _ _ rfl (w.heap.size + 1) _ _ _ rfl N1.out.1.1 _ 4 4 (Fr.le4 t) rfl N1.out.2 (fun e => by cases e) (by simp [Jo.le4_len]) N1.out.1.base ?_; intro v1 V1 hown1 hgrow1; have R1 := hid (N1.out.1.app hown1 rfl hgrow1 (Jo.bytes_le4 _)); clear hown1 hgrow1)
  refine (rfour_c n (by omega) (by omega) _).mono ?_
  rintro _ _ ⟨rfl, rfl⟩
  have N2 := hid (R1.out.new (Fr.le4 n) (Jo.bytes_le4 _) (by simp [Jo.le4_len]) 4 rfl)
  go_wp2_with (first
    | (at_builtin; refine wpList_appendB _ rfl _ _ rfl (w.heap.size + 1) _ _ _ rfl N3.out.1.1 _ 1 1 [k] rfl N3.out.2 (fun e => by cases e) (by simp [Jo.le4_len]) N3.out.1.base ?_; intro v3 V3 hown3 hgrow3; have R3 := hid (N3.out.1.app hown3 rfl hgrow3 (Jo.bytes_cons (by omega) (fun y hy => by cases hy))); clear hown3 hgrow3)
    | (at_builtin; refine wpList_appendB _ rfl _ _ rfl (w.heap.size + 1) _ _ _ rfl N2.out.1.1 _ 4 4 (Fr.le4 n) rfl N2.out.2 (fun e => by cases e) (by simp [Jo.le4_len]) N2.out.1.base ?_; intro v2 V2 hown2 hgrow2; have R2 := hid (N2.out.1.app hown2 rfl hgrow2 (Jo.bytes_le4 _)); clear hown2 hgrow2; have N3 := hid (R2.out.new [k] (Jo.bytes_cons (by omega) (fun y hy => by cases hy)) (by simp) 1 rfl)))
  refine (rfour_c l (by omega) (by omega) _).mono ?_
  rintro _ _ ⟨rfl, rfl⟩
  have N4 := hid (R3.out.new (Fr.le4 l) (Jo.bytes_le4 _) (by simp [Jo.le4_len]) 4 rfl)
  go_wp2_with (at_builtin; refine wpList_appendB _ rfl _ _ rfl (w.heap.size + 1) _ _ _ rfl N4.out.1.1 _ 4 4 (Fr.le4 l) rfl N4.out.2 (fun e => by cases e) (by simp [Jo.le4_len]) N4.out.1.base ?_; intro v4 V4 hown4 hgrow4; have R4 := hid (N4.out.1.app hown4 rfl hgrow4 (Jo.bytes_le4 _)); clear hown4 hgrow4)
  obtain ⟨a9, cap9, hv9, hI9, hn9⟩ := R4.out.shape
  subst hv9
  have hE : Jo.sealed (((([71] ++ Fr.le4 t) ++ Fr.le4 n) ++ [k]) ++ Fr.le4 l) = Jo.firstS t n k l := by unfold Jo.firstS; first | rfl | (congr 1; simp)
  have C9 := rsector_t a9 _ cap9 (((([71] ++ Fr.le4 t) ++ Fr.le4 n) ++ [k]) ++ Fr.le4 l) _ hI9 hn9 R4.out.2.2.2 (by simp [Jo.le4_len])
  rw [hE] at C9
  refine C9.mono ?_
  rintro _ w5 ⟨rfl, hb5⟩
  have R9 := hid (R4.out.later hb5)
  have r5 := R9.out.2.2.1
  clear C9 hI9 hn9 hb5 hE
  go_wp2_with (refine wpList_storeA _ rfl _ _ _ rfl sizeR5 _ rfl (Jo.firstS t n k l) rfl hS _ _ r5 (by simp; decide) ?_; intro w6 k1 k2 k3)
  exact bodyPost_ret (v := secV (Jo.firstS t n k l)) (res_sec1 rfl _ _ sizeR5 Try.underlying36 w.heap.size rfl _ hS _ _ k1) rfl ⟨rfl, R9.out.2.1.trans (k2.below R9.out.2.1.size (fun q e => by omega))⟩
end Go.Proofs.Ytfmkgflhgapeoab
namespace Go.Proofs.Ytfmkgflhgapeoab
open Go.RowKit Go.ChangeShapes Go.WideShapes Go.ChangeAt Go.Maps
set_option linter.unusedVariables false
set_option linter.unusedSimpArgs false
/-- 'append(s, x...)' of bytes that may be none, in a region that draws its order. -/
theorem step_appendB (w : World) {ops : Array Oper} {o : Oper} {a : Act} {K : Act → World → Prop} {Q : Exit → Act → World → Prop} {E : Prop} (hgd : o.guard = none) (s x : Operand)
    (ho : o.op = .call { callee := .builtin .append, args := #[s, x], argTypes := #[31, 31] }) (base : Nat) (v : Value) (n : Nat) (xs : List Value) (hs : a.eval s = v) (hown : w.ownsRow base 5 1 v n xs)
    (pa : Option Addr) (m c : Nat) (zs : List Int) (hx : a.eval x = .slice pa m c) (hb : IsB w pa m zs) (hc : pa = none → c = 0) (h63 : n + m ≤ 1000000) (hbase : base ≤ w.heap.size)
    (h : ∀ v' w', w'.ownsRow base 5 1 v' (n + m) (xs ++ zs.map by8) → w.grownBy w' v.ownBlock → K (a.put o.dst v') w') :
    if Region.wanted o (yielded ops a.tmps) = true then Oper.wp Try.prog o a w K Q else E := by
  rw [if_pos (by simp [Region.wanted, hgd])]
  obtain ⟨i0, hi, hz0, hz1, hz2⟩ := info_parts8
  cases pa with
  | none =>
    have hm : m = 0 := by
      rcases Nat.eq_zero_or_pos m with h0 | h0
      · exact h0
      · obtain ⟨b, off, e, _⟩ := hb.2.2.1 h0; cases e
    subst hm
    have hz : zs = [] := List.eq_nil_of_length_eq_zero hb.1
    subst hz
    have hc0 := hc rfl
    subst hc0
    have hrun := run_append_owned_none (P := Try.prog) (w := w) base 31 o.type 5 i0 1 Try.underlying31 hi v n xs hown
    unfold Oper.wp
    simp [execOp, ho, resolve, invoke, builtin, hs, hx, hrun, Result.andThen]
    exact h v w (by simpa using hown) (grown_refl _ _)
  | some ad =>
    by_cases hm : m = 0
    · subst hm
      have hz : zs = [] := List.eq_nil_of_length_eq_zero hb.1
      subst hz
      refine wp_append_own w s x 31 ho base 5 i0 (.int .u8 0) 1 1 Try.underlying31 hi hz0 hz1 hz2 rfl (by decide) v n xs hs hown ad 0 c [] hx rfl (fun j u hu => by simp at hu) (fun u hu => by cases hu) (by unfold maxLen; omega) (by omega) hbase ?_
      intro v' w' h1 h2 h3
      exact h v' w' (by simpa using h1) h2
    · obtain ⟨b, off, e, _⟩ := hb.2.2.1 (by omega)
      cases e
      refine wp_append_own w s x 31 ho base 5 i0 (.int .u8 0) 1 1 Try.underlying31 hi hz0 hz1 hz2 rfl (by decide) v n xs hs hown ⟨b, off, none⟩ m c (zs.map by8) hx (by simp [hb.1]) (isB_news hb) (one8 zs) (by unfold maxLen; omega) (by omega) hbase ?_
      intro v' w' h1 h2 h3
      exact h v' w' h1 h2
set_option maxRecDepth 20000 in
set_option maxHeartbeats 2000000 in
theorem rload_c (a : Option Addr) (len cap : Nat) (g : Jo.Gr) (w : World) (h : IsG0 w a len g) (hok : g.length ≤ 8) (hsm : ∀ j, j < g.length → (g.getD j []).length ≤ 16384) :
    Calls Try.prog 84 #[.slice a len cap] w fun e w' => ∃ v, e = .returned v ∧ w'.ownsRow w.heap.size 5 1 v (Jo.loadF g).length ((Jo.loadF g).map by8) ∧ Below w.heap.size w w' := by
  have H := hid h
  obtain ⟨h1, h2, h3⟩ := h
  unfold maxLen at h2
  have HL := hid h1
  have H3 := hid h3
  have HS := hid hsm
  have HO := hid hok
  clear h3 h1 hsm hok
  go_enter Try.func84, Try.ntmps84
  go_wp2
  go_loopw [3, 4] (fun v i wr => ∃ k : Nat, k ≤ len ∧ i = .int .i64 k ∧ wr.ownsRow w.heap.size 5 1 v (Jo.loadF (g.take k)).length ((Jo.loadF (g.take k)).map by8) ∧ Below w.heap.size w wr) (fun _ i _ => len - (intOf i).toNat)
  case atStart => exact ⟨0, Nat.zero_le _, rfl, by simpa [Jo.loadF] using World.ownsRow_nil w w.heap.size 5 1, Below.refl _ _⟩
  case round =>
    obtain ⟨k, hk, rfl, hown, hB⟩ := hrel
    have hBz := hB.size
    by_cases hlt : k < len
    · obtain ⟨b, off, rfl, hc⟩ := H3.out (by omega)
      obtain ⟨pa, pc, c1, c2, c3, c4⟩ := hc k hlt
      have hpl := HS.out k (by rw [HL.out]; exact hlt)
      have hle := load_take_le (g := g) (k := k) (by rw [HL.out]; exact hk) HO.out (fun j hj => HS.out j (by rw [HL.out]; omega))
      have HT := hid (Jo.load_take (g := g) (k := k) (by rw [HL.out]; exact hlt))
      clear hc
      generalize hp : g.getD k [] = p at *
      clear hp
      have KS : Hid (∀ w', Below w.heap.size w w' → w'.cell? ⟨b, off + k, none⟩ = some (.slice pa p.length pc)) := fun w' hb => cell_later hb c1
      have C2 := hid c2
      have C4 := hid c4
      have HO1 := hid hown
      have HB1 := hid hB
      have K0 : wr.drew.cell? ⟨b, off + k, none⟩ = some (.slice pa p.length pc) := KS.out _ hB.drew
      have HF := hid (rfour_c (IntKind.u32.wrap p.length) (by rw [IntKind.wrap_u32]; omega) (by rw [IntKind.wrap_u32]; omega))
      have HW : Hid (IntKind.u32.wrap (p.length : Int) = p.length) := by show _ = _; rw [IntKind.wrap_u32]; omega
      have hb4 : Below wr.heap.size wr (wr.alloc (.cells ((Fr.le4 (IntKind.u32.wrap p.length)).map by8).toArray 5)).drew := (((Below.refl _ wr).alloc (Nat.le_refl _) (.cells ((Fr.le4 (IntKind.u32.wrap p.length)).map by8).toArray 5) : Below wr.heap.size wr _)).drew
      have HB4 : Hid (Below w.heap.size w (wr.alloc (.cells ((Fr.le4 (IntKind.u32.wrap p.length)).map by8).toArray 5)).drew) := hB.trans (hb4.mono hB.size)
      have HO4 : Hid ((wr.alloc (.cells ((Fr.le4 (IntKind.u32.wrap p.length)).map by8).toArray 5)).drew.ownsRow w.heap.size 5 1 u3 (Jo.loadF (g.take k)).length ((Jo.loadF (g.take k)).map by8)) := own_far (w := wr) hown fun q hq => hb4.block q (hown.lt q hq).2
      have HF4 : Hid (IsB (wr.alloc (.cells ((Fr.le4 (IntKind.u32.wrap p.length)).map by8).toArray 5)).drew (some ⟨wr.heap.size, 0, none⟩) 4 (Fr.le4 (IntKind.u32.wrap p.length))) := isB_new wr.drew _ (Jo.bytes_le4 _) (by simp [Jo.le4_len]) 4 rfl
      have K4 : (wr.alloc (.cells ((Fr.le4 (IntKind.u32.wrap p.length)).map by8).toArray 5)).drew.cell? ⟨b, off + k, none⟩ = some (.slice pa p.length pc) := KS.out _ HB4.out
      clear c1 c2 c4 hB hown hb4
      go_wp2_with fail
      go_region_held3 (fun w' => w'.cell? ⟨b, off + k, none⟩ = some (.slice pa p.length pc)) (first | (with_reducible exact K6) | (with_reducible exact K5) | (with_reducible exact K4) | (with_reducible exact K0) | go_keep)
        (first
          | (go_at_call 80; refine (HF.out wr.drew).mono ?_; rintro _ _ ⟨rfl, rfl⟩)
          | (refine step_appendB _ (by rfl) _ _ (by rfl) w.heap.size _ _ _ (by rfl) HO5.out pa p.length pc p (by rfl) (C2.out.later HB5.out) C4.out (by omega) HB5.out.size ?_; intro v6 w6 hown6 hgrow6; (have HB6 := hid (below_grown HB5.out HO5.out (Nat.le_refl _) HB5.out.size hgrow6)); (have K6 := KS.out _ HB6.out); (have HO6 := hid hown6); clear hown6 hgrow6)
          | (refine step_appendB _ (by rfl) _ _ (by rfl) w.heap.size _ _ _ (by rfl) HO4.out _ 4 4 (Fr.le4 (IntKind.u32.wrap p.length)) (by rfl) HF4.out (fun e => by cases e) (by omega) HB4.out.size ?_; intro v5 w5 hown5 hgrow5; (have HB5 := hid (below_grown HB4.out HO4.out (Nat.le_refl _) HB4.out.size hgrow5)); (have K5 := KS.out _ HB5.out); (have HO5 := hid hown5); clear hown5 hgrow5))
      obtain ⟨a6, c6, rfl⟩ := own_shape6 HO6.out
      go_wp2
      go_roundw
      case rel => exact ⟨k + 1, by omega, by go_num, by rw [HT.out]; have := HO6.out; rw [HW.out] at this; simpa [Jo.le4_len, Nat.add_assoc] using this, HB6.out⟩
      case measure => simp [intOf]; omega
    · have ek : k = len := by omega
      have ht : g.take k = g := List.take_of_length_le (by rw [HL.out]; omega)
      rw [ht] at hown
      obtain ⟨a6, c6, rfl⟩ := own_shape6 hown
      have HO6 := hid hown
      have HB6 := hid hB
      clear hown hB
      go_wp2
      go_ret
      exact ⟨_, rfl, HO6.out, HB6.out⟩
end Go.Proofs.Ytfmkgflhgapeoab
namespace Go.Proofs.Ytfmkgflhgapeoab
open Go.RowKit Go.ChangeShapes Go.WideShapes Go.ChangeAt Go.Maps
set_option linter.unusedVariables false
set_option linter.unusedSimpArgs false
theorem infoRS : ∃ i : TypeInfo, Try.prog.info? 36 = some i ∧ i.zero = some (secV zsec) ∧ i.size = 32 ∧ i.bytes = 32 := by
  have h : (Try.prog.info? 36).map (fun i => (i.zero, i.size, i.bytes)) = some (some (secV zsec), 32, 32) := by kernel_rfl
  cases hi : Try.prog.info? 36 with
  | none => rw [hi] at h; cases h
  | some i => rw [hi] at h; simp at h; exact ⟨i, rfl, h.1, h.2.1, h.2.2⟩
theorem sizeRw (w : World) : (sizeOf 36).run Try.prog w = .ok 32 w := by
  obtain ⟨i, hi, _, h, _⟩ := infoRS
  simp [sizeOf, typeInfo, hi, h]
theorem zeroRw (w : World) : (zeroValue 36).run Try.prog w = .ok (secV zsec) w := by
  obtain ⟨i, hi, h, _, _⟩ := infoRS
  simp [zeroValue, typeInfo, hi, h]
theorem exec_slice1R {o : Oper} {a : Act} {w : World} (x : Operand) (hop : o.op = Op.buildSlice 48 1 #[(0, x)]) (s : Sec) (hx : a.eval x = secV s) (hs : s.length = 32) :
    (execOp a.eval o).run Try.prog w = .ok (.value (.slice (some ⟨w.heap.size, 0, none⟩) 1 1)) (w.alloc (.cells (s.map by8).toArray 36)) := by
  have e := jrun_slice1 (t := 48) (e := 36) Try.underlying48 sizeRw zeroRw (by omega) (by omega) (s.map by8).toArray (by simp [hs]) w
  unfold secV at hx
  simp only [execOp, hop, List.map_toArray, List.map_cons, List.map_nil, hx, Sem.run_bind, e, Result.andThen, Sem.run_pure]
theorem own_oneB (w : World) (x : Int) : (w.alloc (.cells #[.int .u8 x] 5)).ownsRow w.heap.size 5 1 (.slice (some ⟨w.heap.size, 0, none⟩) 1 1) 1 ([x].map by8) :=
  ⟨rfl, .inr ⟨w.heap.size, 1, #[.int .u8 x], rfl, Nat.le_refl _, heap_alloc_new w _, Nat.le_refl _, by unfold maxLen; omega, rfl, rfl⟩⟩
theorem own_oneR (w : World) (s : List Int) (hs : s.length = 32) : (w.alloc (.cells (s.map by8).toArray 36)).ownsRow w.heap.size 36 32 (.slice (some ⟨w.heap.size, 0, none⟩) 1 1) 1 (scells [s]) := by
  refine ⟨by simp [scells, hs], .inr ⟨w.heap.size, 1, (s.map by8).toArray, rfl, Nat.le_refl _, heap_alloc_new w _, Nat.le_refl _, by unfold maxLen; omega, by simp [hs], ?_⟩⟩
  rw [List.take_of_length_le (by simp [hs])]
  simp [scells]
theorem row_lat {w w' : World} {base e size n : Nat} {v : Value} {xs : List Value} (h : w.ownsRow base e size v n xs) (hb : Below w.heap.size w w') : w'.ownsRow base e size v n xs := own_far h fun k hk => hb.block k (h.lt k hk).2
/-- A row of bytes stays where a row of sectors grows. -/
theorem row_kept9 {w w' : World} {B B' n m : Nat} {u v : Value} {xs ys : List Value} (h : w.ownsRow B 5 1 u n xs) (h' : w.ownsRow B' 36 32 v m ys) (hg : w.grownBy w' v.ownBlock) : w'.ownsRow B 5 1 u n xs :=
  own_far h fun k hk => (Out.grown (S := fun q => v.ownBlock = some q) hg (fun q e => e)).block k (h.lt k hk).2 (own_types h h' (by decide) k hk)
set_option maxRecDepth 100000 in
set_option maxHeartbeats 4000000 in
theorem rlay_c (a : Option Addr) (len cap : Nat) (g : Jo.Gr) (t n : Int) (w : World) (h : IsG0 w a len g) (hok : Jo.okG g = true) (ht : 0 ≤ t ∧ t < 4294967296) (hn : 0 ≤ n ∧ n < 4294967296) :
    Calls Try.prog 64 #[.slice a len cap, .int .u32 t, .int .u32 n] w fun e w' => ∃ v, e = .returned v ∧ w'.ownsRow w.heap.size 36 32 v (Jo.laid g t n).length (scells (Jo.laid g t n)) ∧ Below w.heap.size w w' := by
  obtain ⟨o1, o2, o3⟩ := Jo.ok_iff.1 hok
  have hL := Jo.ok_load hok
  have hgl := h.1
  have hby := Jo.bytes_load h.isG.bytes
  have hl8 : (len : Int) ≤ 8 := by omega
  obtain ⟨i0, hi, hz0, hz1, hz2⟩ := infoRS
  have O3 : ∀ j, j < g.length → (g.getD j []).length ≤ 16384 := fun j hj => by have := o3 g[j] (List.getElem_mem hj); simpa [List.getD, hj] using this
  have LC := hid (rload_c a len cap g w h o2 O3)
  have HLD : Hid (Jo.laid g t n = Jo.firstS t n g.length (Jo.loadF g).length :: (Jo.dataL (Jo.loadF g) (Jo.many (Jo.loadF g).length) ++ [Jo.lastS t n])) := rfl
  rw [hgl] at HLD
  clear h o3 O3
  go_enter Try.func64, Try.ntmps64
  go_wp2_with fail
  refine LC.out.mono ?_
  rintro _ w1 ⟨lv, rfl, hown1, hb1⟩
  obtain ⟨la, lcap, rfl, hI1, hlc, hnil, hin⟩ := own_isB hown1 hby
  generalize Jo.loadF g = L at *
  obtain ⟨lb, lo, rfl, _⟩ := hI1.2.2.1 (by omega)
  have HO1 := hid hown1
  have HB1 := hid hb1
  have hS := (Jo.first_sct t n (k := len) (by omega) L.length).1
  have FC := hid (rfirst_c t n len L.length w1 ht hn (by omega) (by omega))
  generalize hF : Jo.firstS t n len L.length = F at *
  clear hown1 hb1 hI1 hnil hin LC hF
  go_wp2_with (first
    | (go_at_call 81; refine FC.out.mono ?_; rintro _ w2 ⟨rfl, hb2⟩)
    | (refine wpList_exec rfl (exec_slice1R _ rfl F rfl hS) ?_))
  have hb3 : Below w2.heap.size w2 (w2.alloc (.cells (F.map by8).toArray 36)) := (Below.refl _ _).alloc (Nat.le_refl _) _
  have HB3 := hid ((HB1.out.trans (hb2.mono HB1.out.size)).trans (hb3.mono (Nat.le_trans HB1.out.size hb2.size)))
  have HO3 := hid (row_lat (row_lat HO1.out hb2) hb3)
  have HR3 := hid (own_base (own_oneR w2 F hS) (Nat.le_trans HB1.out.size hb2.size))
  clear hb2 hb3 HO1 HB1 FC
  go_wp2
  go_loopw [8, 9] (fun v i wr => ∃ k : Nat, k ≤ Jo.many L.length ∧ i = .int .i64 ((31 * k : Nat) : Int) ∧ wr.ownsRow w.heap.size 36 32 v (k + 1) (scells (F :: Jo.dataL L k)) ∧ wr.ownsRow w.heap.size 5 1 (.slice (some ⟨lb, lo, none⟩) L.length lcap) L.length (L.map by8) ∧ Below w.heap.size w wr) (fun _ i _ => (200000 - intOf i).toNat)
  case atStart => exact ⟨0, Nat.zero_le _, rfl, HR3.out, HO3.out, HB3.out⟩
  case round =>
    obtain ⟨k, hk, rfl, hown, hlo, hB⟩ := hrel
    have hmm := Jo.many_le L.length
    by_cases hlt : 31 * k < L.length
    · obtain ⟨va, vc, rfl⟩ := own_shape6 hown
      obtain ⟨la9, lc9, hle, hI, _, _, _⟩ := own_isB hlo hby
      cases hle
      have hkb : k ≤ 5000 := by omega
      have hcl := Jo.chunk_len L k
      have hcb : Jo.Bytes (68 :: Jo.chunk L k) := Jo.bytes_cons (by omega) (Jo.bytes_take (Jo.bytes_drop hby _) _)
      have hIc := isB_chunk hI k hlt
      have hSk := (Jo.data_sct hby k).1
      have hb1 : Below wr.heap.size wr (wr.alloc (.cells #[.int .u8 68] 5)) := (Below.refl _ _).alloc (Nat.le_refl _) _
      have HC1 := hid (hIc.later hb1)
      have HB1 := hid hb1
      have HL1 := hid (own_oneB wr 68)
      have HSN : Hid (scells (F :: Jo.dataL L (k + 1)) = scells (F :: Jo.dataL L k) ++ (Jo.dataS L k).map by8) := by show _ = _; rw [Jo.dataL_snoc, ← List.cons_append, scells_snoc]
      have HO5 := hid hown
      have HLO := hid hlo
      have HB5 := hid hB
      have hkm : k + 1 ≤ Jo.many L.length := by unfold Jo.many; omega
      have HDS : Hid (Jo.pad (68 :: Jo.chunk L k) = Jo.dataS L k) := rfl
      obtain ⟨q, hq⟩ : ∃ q, q = 31 * k := ⟨_, rfl⟩
      rw [← hq] at hlt HC1 hcl ⊢
      have hq2 : ((31 * (k + 1) : Nat) : Int) = q + 31 := by omega
      have HQ := hid hq2
      have hltI : (q : Int) < L.length := by omega
      generalize Jo.dataS L k = DS at *
      generalize Jo.chunk L k = ch at *
      have hqb : q ≤ 131104 := by omega
      clear hown hlo hB hI hIc hb1 hq hq2 hmm
      have K1 : Hid True := hid trivial
      by_cases hfull : L.length < q + 31
      · have hfI : (L.length : Int) < q + 31 := by omega
        have hmin : min 31 (L.length - q) = L.length - q := by omega
        rw [hmin] at hcl HC1
        have hcl2 : 1 + (L.length - q) = (68 :: ch).length := by simp only [List.length_cons]; omega
        have HCL := hid hcl2
        have HCB := hid hcb
        have hc32 : (68 :: ch).length ≤ 32 := by rw [← hcl2]; omega
        have HC32 := hid hc32
        clear hcl2 hcb hc32 hcl
        go_wp2_with (first
          | (have _q := K4.out; clear _q K4; at_builtin; refine wpList_append_own _ rfl _ _ 48 rfl w.heap.size 36 i0 (secV zsec) 32 32 Try.underlying48 hi hz0 hz1 hz2 (by rfl) (by decide) _ _ _ rfl HO7.out ⟨W3.heap.size, 0, none⟩ 1 1 (DS.map by8) rfl (by simp [hSk]) (news_sec HN7.out) (one8 _) (by unfold maxLen; omega) (by omega) HB7.out.size ?_; intro v9 w9 hown9 hgrow9 hnil9)
          | (have _q := K3.out; clear _q; refine wpList_exec rfl (exec_slice1R _ rfl DS rfl hSk) ?_; clear K3; (have K4 : Hid True := hid trivial))
          | (go_at_call 79; refine SC.out.mono ?_; rintro _ W3 ⟨rfl, hb3⟩; rw [HDS.out]; (have B3 := B2.out.trans (hb3.mono B2.out.size)); (have hb7 : Below W3.heap.size W3 (W3.alloc (.cells (DS.map by8).toArray 36)) := (Below.refl _ _).alloc (Nat.le_refl _) _); (have B7 := hid (B3.trans (hb7.mono B3.size))); (have HO7 := hid (row_lat HO5.out B7.out)); (have HL7 := hid (row_lat HLO.out B7.out)); (have HB7 := hid (HB5.out.trans (B7.out.mono HB5.out.size))); (have HN7 := hid (heap_alloc_new W3 (.cells (DS.map by8).toArray 36))); (have K3 : Hid True := hid trivial); clear hb3 B3 hb7)
          | (have _q := K1.out; clear _q K1; at_builtin; refine wpList_appendB _ rfl _ _ rfl wr.heap.size _ _ _ rfl HL1.out _ (L.length - q) _ ch rfl HC1.out (fun e => by cases e) (by omega) (by simp) ?_; intro v2 W2 hown2 hgrow2; (have B2 := hid (below_grown HB1.out HL1.out (Nat.le_refl _) HB1.out.size hgrow2)); (have own2 : W2.ownsRow wr.heap.size 5 1 v2 (68 :: ch).length ((68 :: ch).map by8) := by rw [← HCL.out]; exact hown2); obtain ⟨a2, cap2, rfl, hI2, _, _, _⟩ := own_isB own2 HCB.out; (have SC := hid (rsector_f a2 _ cap2 (68 :: ch) W2 hI2 HC32.out)); clear own2 hown2 hgrow2 hI2))
        have HB9 := hid (below_grown HB7.out HO7.out (Nat.le_refl _) HB7.out.size hgrow9)
        have HL9 := hid (row_kept9 HL7.out HO7.out hgrow9)
        have HO9 := hid hown9
        obtain ⟨a9, c9, rfl⟩ := own_shape6 hown9
        clear hown9 hgrow9 hnil9
        go_roundw
        case rel => exact ⟨k + 1, hkm, by rw [HQ.out], by rw [HSN.out]; exact HO9.out, HL9.out, HB9.out⟩
        case measure => simp [intOf]; omega
      · have hfI : ¬ (L.length : Int) < q + 31 := by omega
        have hmin : min 31 (L.length - q) = q + 31 - q := by omega
        rw [hmin] at hcl HC1
        have hcl2 : 1 + (q + 31 - q) = (68 :: ch).length := by simp only [List.length_cons]; omega
        have HCL := hid hcl2
        have HCB := hid hcb
        have hc32 : (68 :: ch).length ≤ 32 := by rw [← hcl2]; omega
        have HC32 := hid hc32
        clear hcl2 hcb hc32 hcl
        go_wp2_with (first
          | (have _q := K4.out; clear _q K4; at_builtin; refine wpList_append_own _ rfl _ _ 48 rfl w.heap.size 36 i0 (secV zsec) 32 32 Try.underlying48 hi hz0 hz1 hz2 (by rfl) (by decide) _ _ _ rfl HO7.out ⟨W3.heap.size, 0, none⟩ 1 1 (DS.map by8) rfl (by simp [hSk]) (news_sec HN7.out) (one8 _) (by unfold maxLen; omega) (by omega) HB7.out.size ?_; intro v9 w9 hown9 hgrow9 hnil9)
          | (have _q := K3.out; clear _q; refine wpList_exec rfl (exec_slice1R _ rfl DS rfl hSk) ?_; clear K3; (have K4 : Hid True := hid trivial))
          | (go_at_call 79; refine SC.out.mono ?_; rintro _ W3 ⟨rfl, hb3⟩; rw [HDS.out]; (have B3 := B2.out.trans (hb3.mono B2.out.size)); (have hb7 : Below W3.heap.size W3 (W3.alloc (.cells (DS.map by8).toArray 36)) := (Below.refl _ _).alloc (Nat.le_refl _) _); (have B7 := hid (B3.trans (hb7.mono B3.size))); (have HO7 := hid (row_lat HO5.out B7.out)); (have HL7 := hid (row_lat HLO.out B7.out)); (have HB7 := hid (HB5.out.trans (B7.out.mono HB5.out.size))); (have HN7 := hid (heap_alloc_new W3 (.cells (DS.map by8).toArray 36))); (have K3 : Hid True := hid trivial); clear hb3 B3 hb7)
          | (have _q := K1.out; clear _q K1; at_builtin; refine wpList_appendB _ rfl _ _ rfl wr.heap.size _ _ _ rfl HL1.out _ (q + 31 - q) _ ch rfl HC1.out (fun e => by cases e) (by omega) (by simp) ?_; intro v2 W2 hown2 hgrow2; (have B2 := hid (below_grown HB1.out HL1.out (Nat.le_refl _) HB1.out.size hgrow2)); (have own2 : W2.ownsRow wr.heap.size 5 1 v2 (68 :: ch).length ((68 :: ch).map by8) := by rw [← HCL.out]; exact hown2); obtain ⟨a2, cap2, rfl, hI2, _, _, _⟩ := own_isB own2 HCB.out; (have SC := hid (rsector_f a2 _ cap2 (68 :: ch) W2 hI2 HC32.out)); clear own2 hown2 hgrow2 hI2))
        have HB9 := hid (below_grown HB7.out HO7.out (Nat.le_refl _) HB7.out.size hgrow9)
        have HL9 := hid (row_kept9 HL7.out HO7.out hgrow9)
        have HO9 := hid hown9
        obtain ⟨a9, c9, rfl⟩ := own_shape6 hown9
        clear hown9 hgrow9 hnil9
        go_roundw
        case rel => exact ⟨k + 1, hkm, by rw [HQ.out], by rw [HSN.out]; exact HO9.out, HL9.out, HB9.out⟩
        case measure => simp [intOf]; omega
    · have hkm : k = Jo.many L.length := by unfold Jo.many at *; omega
      subst hkm
      obtain ⟨va, vc, rfl⟩ := own_shape6 hown
      have LS := hid (rlast_c t n wr ht hn)
      have hLS := (Jo.last_sct t n).1
      have hge : ¬ ((31 * Jo.many L.length : Nat) : Int) < L.length := by omega
      have HO5 := hid hown
      have HB5 := hid hB
      have hmb : Jo.many L.length ≤ 5000 := by unfold Jo.many; omega
      have hdl : (Jo.laid g t n).length = Jo.many L.length + 1 + 1 := by rw [HLD.out]; unfold Jo.dataL; simp
      have hsc : scells (Jo.laid g t n) = scells (F :: Jo.dataL L (Jo.many L.length)) ++ (Jo.lastS t n).map by8 := by rw [HLD.out, ← List.cons_append, scells_snoc]
      have HDL := hid hdl
      have HSC := hid hsc
      clear hown hlo hB hlt hdl hsc hmm hk
      generalize 31 * Jo.many L.length = q at *
      generalize Jo.many L.length = mm at *
      go_wp2_with fail
      refine LS.out.mono ?_
      rintro _ w6 ⟨rfl, hb6⟩
      have hb7 : Below w6.heap.size w6 (w6.alloc (.cells ((Jo.lastS t n).map by8).toArray 36)) := (Below.refl _ _).alloc (Nat.le_refl _) _
      have HO7 := hid (row_lat (row_lat HO5.out hb6) hb7)
      have HB7 := hid ((HB5.out.trans (hb6.mono HB5.out.size)).trans (hb7.mono (Nat.le_trans HB5.out.size hb6.size)))
      have HN7 := hid (heap_alloc_new w6 (.cells ((Jo.lastS t n).map by8).toArray 36))
      clear hb7 hb6 HO5 HB5 LS
      go_wp2_with (first
        | (at_builtin; refine wpList_append_own _ rfl _ _ 48 rfl w.heap.size 36 i0 (secV zsec) 32 32 Try.underlying48 hi hz0 hz1 hz2 (by rfl) (by decide) _ _ _ rfl HO7.out ⟨w6.heap.size, 0, none⟩ 1 1 ((Jo.lastS t n).map by8) rfl (by simp [hLS]) (news_sec HN7.out) (one8 _) (by unfold maxLen; omega) (by omega) HB7.out.size ?_; intro v9 w9 hown9 hgrow9 hnil9; obtain ⟨a9, c9, rfl⟩ := own_shape6 hown9; have HO9 := hid hown9; have HB9 := hid (below_grown HB7.out HO7.out (Nat.le_refl _) HB7.out.size hgrow9); clear hown9 hgrow9 hnil9)
        | (refine wpList_exec rfl (exec_slice1R _ rfl (Jo.lastS t n) rfl hLS) ?_))
      go_ret
      exact ⟨_, rfl, by rw [HDL.out, HSC.out]; exact HO9.out, HB9.out⟩
end Go.Proofs.Ytfmkgflhgapeoab
