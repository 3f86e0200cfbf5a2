/-
  The document's Unquote.
-/
import Derived.Test.YtkokjkaclcjnjaaDoorRdAv
namespace Go.Proofs.YtkokjkaclcjnjaaDoor
open Go.RowKit Go.ChangeShapes Go.WideShapes Go.ChangeAt
set_option linter.unusedVariables false
set_option linter.unusedSimpArgs false
set_option maxRecDepth 100000
def OwL (w : World) (base : Nat) (v : Value) (l : List UInt8) : Prop := w.ownsRow base 5 1 v l.length (Lib.byteCells l)
theorem OwL.nil (w : World) (base : Nat) : OwL w base (.slice none 0 0) [] := World.ownsRow_nil _ _ 5 1
theorem OwL.later {w w' : World} {base : Nat} {v : Value} {l : List UInt8} (h : OwL w base v l) (hb : Below w.heap.size w w') : OwL w' base v l := own_latR h hb
theorem OwL.shape {w : World} {base : Nat} {v : Value} {l : List UInt8} (h : OwL w base v l) : ∃ a c, v = .slice a l.length c := by
 rcases h.2 with ⟨e, e0⟩ | ⟨g', cap, cur, hv, _⟩
 · exact ⟨none, 0, by rw [e, e0]⟩
 · exact ⟨_, cap, hv⟩
theorem byteCells_u8 (l : List UInt8) : Lib.byteCells l = (l.map fun b => (b.toNat : Int)).map u8V := by
 unfold Lib.byteCells
 rw [List.map_map]
 rfl
theorem tx_bytes (l : List UInt8) : Fr.tx (l.map fun b => (b.toNat : Int)) = ⟨l.toArray⟩ := by
 unfold Fr.tx
 rw [List.map_map]
 have : (l.map ((fun x : Int => UInt8.ofNat x.toNat) ∘ fun b : UInt8 => (b.toNat : Int))) = l := by
   conv => rhs; rw [← List.map_id l]
   congr 1
   funext b
   simp
 rw [this]
theorem conv_noneT (w : World) (p : Option Addr) (c : Nat) : (convert 32 9 (.slice p 0 c)).run Tryd.prog w = .ok (.string ByteArray.empty) w := by
 rw [run_convert_bytes_string w 32 9 5 _ 0 c Tryd.underlying32 Tryd.underlying5 Tryd.underlying9]
 cases p <;> simp [Conv.bytesToString, loadCells]
 all_goals rfl
theorem OwL.conv {w : World} {base : Nat} {a : Option Addr} {c : Nat} {l : List UInt8} (h : OwL w base (.slice a l.length c) l) : (convert 32 9 (.slice a l.length c)).run Tryd.prog w = .ok (.string ⟨l.toArray⟩) w := by
 unfold OwL at h
 rw [byteCells_u8] at h
 have hl : (l.map fun b => (b.toNat : Int)).length = l.length := List.length_map ..
 rw [← hl] at h
 obtain ⟨a', c', e, hI, _, _⟩ := isB_ownR h (fun y hy => by obtain ⟨b, _, rfl⟩ := List.mem_map.1 hy; have := b.toNat_lt; omega)
 rw [hl] at e hI
 simp only [Value.slice.injEq] at e
 obtain ⟨rfl, _, _⟩ := e
 rw [← tx_bytes]
 by_cases hp : 0 < l.length
 · obtain ⟨h1, h2, h3, h4⟩ := hI
   obtain ⟨b, off, rfl, hc⟩ := h3 hp
   exact run_convert_bytes_arg w 32 5 Tryd.underlying32 Tryd.underlying5 b off l.length c _ h1 hc 9 Tryd.underlying9
 · have h0 : l = [] := List.eq_nil_of_length_eq_zero (by omega)
   subst h0
   exact conv_noneT w _ c
theorem digI_or (x : UInt8) : hexI x < 16 ∧ (hexI x < 0 ∧ digI x = 16 ∨ ¬ hexI x < 0 ∧ digI x = hexI x) := by
 refine ⟨hexI_lt x, ?_⟩
 unfold digI
 by_cases e : hexI x < 0
 · exact .inl ⟨e, if_pos e⟩
 · exact .inr ⟨e, if_neg e⟩
theorem one_news (W : World) (z : Int) : ∀ j u, [Value.int .u8 z][j]? = some u → (W.alloc (.cells #[.int .u8 z] 5)).cell? ((⟨W.heap.size, 0, none⟩ : Addr).add j) = some u := fun j u hu => by
 match j, hu with
 | 0, hu => simp at hu; subst hu; simp [Addr.add]
theorem one_one (z : Int) : ∀ u ∈ [Value.int .u8 z], u.oneCell' = true := fun u hu => by simp at hu; subst hu; rfl
theorem below_grownT {B : Nat} {a w w' : World} {base : Nat} {e size n : Nat} {v : Value} {xs : List Value} (h : Below B a w) (hown : w.ownsRow base e size v n xs) (hB : B ≤ base) (hBw : B ≤ w.heap.size) (hg : w.grownBy w' v.ownBlock) : Below B a w' :=
 h.grown hg hBw (fun k hk => Nat.le_trans hB (hown.lt k hk).1)
theorem str_at (s : ByteArray) {i : Nat} {z : Int} (hz : z = (i : Int)) (h : i < s.size) (W : World) : (Instr.index 9 (.string s) (.int .i64 z)).run Tryd.prog W = .ok (.int .u8 ((s[i]'h).toNat : Int)) W := by
 subst hz
 rw [run_index_string W 9 s .i64 _ Tryd.underlying9, dif_pos ⟨by omega, by omega⟩]
 simp
theorem drop_atU {l : List UInt8} {i : Nat} (h : i < l.length) : l.drop i = l[i]'h :: l.drop (i + 1) := List.drop_eq_getElem_cons h
set_option maxHeartbeats 8000000 in
theorem runq_c (s : ByteArray) (w : World) (hm : s.size ≤ 100000000) :
   Calls Tryd.prog 10 #[.string s] w (UqP (docL s.data.toList) w) := by
 obtain ⟨R, hR⟩ : ∃ R, R = docL s.data.toList := ⟨_, rfl⟩
 rw [← hR]
 have hsl : s.data.toList.length = s.size := rfl
 unfold docL at hR
 rw [hsl] at hR
 have HR := hid hR
 clear hR
 by_cases h2 : s.size < 2
 · have h2I : (s.size : Int) < 2 := by omega
   have RE : Hid (R = none) := hid (by rw [HR.out, if_pos (.inl h2)])
   go_enter Tryd.func10, Tryd.ntmps10
   go_wp2
   refine bodyPost_ret (v := .tuple #[.string ⟨#[]⟩, .int .i64 3]) (by simp [results, Tryd.results10, go_sem]) rfl (UqP.no RE.out (Below.refl _ _))
 · have h2I : ¬ (s.size : Int) < 2 := by omega
   have g0 : 0 < s.size := by omega
   have gl : s.size - 1 < s.size := by omega
   have gI : (s.size : Int) - 1 = ((s.size - 1 : Nat) : Int) := by omega
   have gI2 : (0 : Int) < s.size := by omega
   have gI3 : ((s.size - 1 : Nat) : Int) < s.size := by omega
   by_cases hf : s[0]'g0 = 34
   · have bf : (((s[0]'g0).toNat : Int) != 34) = false := by rw [ne34]; simp [hf]
     by_cases hl : s[s.size - 1]'gl = 34
     · have bl : (((s[s.size - 1]'gl).toNat : Int) != 34) = false := by rw [ne34]; simp [hl]
       have RE : Hid (R = keepQ s.data.toList (docP s.size ((s.data.toList.drop 1).take (s.size - 2)))) := hid (by rw [HR.out, if_neg (by rw [← get_l s g0, ← get_l s gl]; simp [hf, hl]; omega)])
       clear HR hf hl
       obtain ⟨i0, hi, hz0, hz1, hz2⟩ := info_u8B
       have hx1 : (1 : Int) ≤ ((s.size - 1 : Nat) : Int) := by omega
       have hx2 : ((s.size - 1 : Nat) : Int) ≤ s.size := by omega
       have M0 : (s.extract 1 (s.size - 1)).data.toList = (s.data.toList.drop 1).take (s.size - 2) := by rw [Lib.extract_data]; rfl
       have MZ : (s.extract 1 (s.size - 1)).size = s.size - 2 := by simp; omega
       rw [← M0] at RE
       clear M0
       go_enter Tryd.func10, Tryd.ntmps10
       go_wp2
       generalize s.extract 1 (s.size - 1) = M at *
       have hMb : M.size ≤ s.size := by omega
       have MZ9 := hid MZ
       clear MZ
       obtain ⟨D, HD⟩ : ∃ D, Hid (D = docP s.size M.data.toList) := ⟨_, hid rfl⟩
       rw [← HD.out] at RE
       have hml : M.data.toList.length = M.size := rfl
       go_loopg [4, 6] s.size (fun gk v4 v6 wr => ∃ (i : Nat) (l : List UInt8), v6 = .int .i64 i ∧ M.size ≤ i + gk ∧ i ≤ M.size + 3 ∧ Hid (D = (docP gk (M.data.toList.drop i)).map (l ++ ·)) ∧ l.length + gk ≤ s.size ∧ Hid (OwL wr w.heap.size v4 l) ∧ Hid (Below w.heap.size w wr))
       case atStart => exact ⟨0, [], rfl, by omega, by omega, hid (by rw [HD.out]; simp), by simp, hid (OwL.nil _ _), hid (Below.refl _ _)⟩
       case round =>
         clear HD
         obtain ⟨i, l, rfl, hig, hi3, DX, lX, OE, BX⟩ := hrel
         obtain ⟨va, vc, rfl⟩ := OE.out.shape
         by_cases hlt : i < M.size
         · have hltI : (i : Int) < M.size := by omega
           have iB : (i : Int) ≤ 100000000 := by omega
           have iw1 : IntKind.i64.wrap ((i : Int) + 1) = (i : Int) + 1 := by rw [IntKind.wrap_i64]; omega
           have iw2 : IntKind.i64.wrap ((i : Int) + 2) = (i : Int) + 2 := by rw [IntKind.wrap_i64]; omega
           obtain ⟨gk', rfl⟩ : ∃ gk', gk = gk' + 1 := ⟨gk - 1, by omega⟩
           have DS := DX.out
           rw [drop_atU (by exact hlt)] at DS
           have ea : M.data.toList[i]'hlt = M[i]'hlt := rfl
           rw [ea] at DS
           clear ea
           by_cases ha : M[i]'hlt = 92
           · have b92 : (((M[i]'hlt).toNat : Int) != 92) = false := by rw [ha]; rfl
             rw [ha] at DS
             by_cases h3 : M.size ≤ i + 2
             · have h3I : (M.size : Int) ≤ (i : Int) + 2 := by omega
               have RN : Hid (R = none) := hid (by
                 have : D = none := by
                   rw [DS]
                   have hle : (M.data.toList.drop (i + 1)).length < 2 := by rw [List.length_drop, hml]; omega
                   generalize M.data.toList.drop (i + 1) = t at hle
                   match t, hle with
                   | [], _ => rfl
                   | [x], _ => rfl
                   | x :: y :: t', h => exact absurd h (by simp)
                 rw [RE.out, this]; rfl)
               clear DX DS ha
               go_wp2
               refine bodyPost_ret (v := .tuple #[.string ⟨#[]⟩, .int .i64 3]) (by simp [results, Tryd.results10, go_sem]) rfl (UqP.no RN.out BX.out)
             · have h3I : ¬ (M.size : Int) ≤ (i : Int) + 2 := by omega
               have i1 : i + 1 < M.size := by omega
               have i2 : i + 2 < M.size := by omega
               have i1L : (i : Int) + 1 < M.size := by omega
               have i2L : (i : Int) + 2 < M.size := by omega
               rw [drop_atU (i := i + 1) (by exact i1), drop_atU (i := i + 1 + 1) (by exact i2)] at DS
               have e1 : M.data.toList[i + 1]'i1 = M[i + 1]'i1 := rfl
               have e2 : M.data.toList[i + 1 + 1]'i2 = M[i + 2]'i2 := rfl
               rw [e1, e2, docP_esc] at DS
               clear e1 e2
               obtain ⟨x, hx⟩ : ∃ x, M[i + 1]'i1 = x := ⟨_, rfl⟩
               obtain ⟨y, hy⟩ : ∃ y, M[i + 2]'i2 = y := ⟨_, rfl⟩
               rw [hx, hy] at DS
               have sx : ∀ W : World, (Instr.index 9 (.string M) (.int .i64 ((i : Int) + 1))).run Tryd.prog W = .ok (.int .u8 (x.toNat : Int)) W := fun W => by rw [← hx]; exact str_at M (by omega) i1 W
               have sy : ∀ W : World, (Instr.index 9 (.string M) (.int .i64 ((i : Int) + 2))).run Tryd.prog W = .ok (.int .u8 (y.toNat : Int)) W := fun W => by rw [← hy]; exact str_at M (by omega) i2 W
               have DH := hid DS
               have DX1 := hid (fun W => digit_c x W)
               have DY1 := hid (fun W => digit_c y W)
               have HN : Hid (∀ nq, Below wr.heap.size wr (wr.drewN nq)) := hid (fun nq => ⟨rfl, rfl, rfl, Nat.le_refl _, fun _ _ => rfl⟩)
               clear DX DS ha
               have hx16 := hid (digI_or x)
               have hy16 := hid (digI_or y)
               generalize digI x = p' at *
               generalize digI y = q' at *
               generalize hexI x = p at *
               generalize hexI y = q at *
               go_upto_region 12 with fail
               go_wp2_with fail
               have hS0 : True := True.intro
               refine wp_region_held_drew (S := fun w' => True) (by kernel_rfl) hS0 (fun hHeld => ?_)
               refine take_l 0 (v := ?_) rfl (by kernel_rfl) (by kernel_rfl) (by kernel_rfl) (fun _ _ _ h => h) (Or.inl ⟨by rfl, ?_⟩) (by assumption) ?_
               rotate_left
               · (intro w' hSw; clear hSw; go_simp; first | done | with_reducible rfl)
               try simp only [Act.put, List.setIfInBounds_toArray, List.set_cons_zero, List.set_cons_succ]
               refine take_l 1 (v := ?_) rfl (by kernel_rfl) (by kernel_rfl) (by kernel_rfl) (fun _ _ _ h => h) (Or.inl ⟨by rfl, ?_⟩) (by assumption) ?_
               rotate_left
               · (intro w' hSw; clear hSw; go_simp; first | done | with_reducible rfl)
               try simp only [Act.put, List.setIfInBounds_toArray, List.set_cons_zero, List.set_cons_succ]
               refine take_l 2 (v := ?_) rfl (by kernel_rfl) (by kernel_rfl) (by kernel_rfl) (fun _ _ _ h => h) (Or.inl ⟨by rfl, ?_⟩) (by assumption) ?_
               rotate_left
               · (intro w' hSw; clear hSw; go_simp; first | done | with_reducible rfl)
               try simp only [Act.put, List.setIfInBounds_toArray, List.set_cons_zero, List.set_cons_succ]
               refine take_l 3 (v := ?_) rfl (by kernel_rfl) (by kernel_rfl) (by kernel_rfl) (fun _ _ _ h => h) (Or.inl ⟨by rfl, ?_⟩) (by assumption) ?_
               rotate_left
               · (intro w' hSw; clear hSw; go_simp; first | done | with_reducible rfl)
               try simp only [Act.put, List.setIfInBounds_toArray, List.set_cons_zero, List.set_cons_succ]
               refine take_l 5 (v := ?_) rfl (by kernel_rfl) (by kernel_rfl) (by kernel_rfl) (fun _ _ _ h => h) (Or.inl ⟨by rfl, ?_⟩) (by assumption) ?_
               rotate_left
               · (intro w' hSw; clear hSw; go_simp; first | done | with_reducible rfl)
               try simp only [Act.put, List.setIfInBounds_toArray, List.set_cons_zero, List.set_cons_succ]
               refine take_l 6 (v := ?_) rfl (by kernel_rfl) (by kernel_rfl) (by kernel_rfl) (fun _ _ _ h => h) (Or.inl ⟨by rfl, ?_⟩) (by assumption) ?_
               rotate_left
               · (intro w' hSw; clear hSw; go_simp; first | done | with_reducible rfl)
               try simp only [Act.put, List.setIfInBounds_toArray, List.set_cons_zero, List.set_cons_succ]
               refine take_l 7 (v := ?_) rfl (by kernel_rfl) (by kernel_rfl) (by kernel_rfl) (fun _ _ _ h => h) (Or.inl ⟨by rfl, ?_⟩) (by assumption) ?_
               rotate_left
               · (intro w' hSw; clear hSw; go_simp; first | done | with_reducible rfl)
               try simp only [Act.put, List.setIfInBounds_toArray, List.set_cons_zero, List.set_cons_succ]
               refine take_l 8 (v := ?_) rfl (by kernel_rfl) (by kernel_rfl) (by kernel_rfl) (fun _ _ _ h => h) (Or.inl ⟨by rfl, ?_⟩) (by assumption) ?_
               rotate_left
               · (intro w' hSw; clear hSw; go_simp; first | done | with_reducible rfl)
               try simp only [Act.put, List.setIfInBounds_toArray, List.set_cons_zero, List.set_cons_succ]
               refine cons_l 4 rfl (by kernel_rfl) (fun K hK => ?_)
               go_simp
               refine (DX1.out _).mono ?_; rintro _ wz ⟨rfl, hwz⟩; rw [hwz]; clear hwz
               go_simp
               refine hK.out _ _ True.intro (fun hHeld => ?_)
               clear hK K
               try simp only [Act.put, List.setIfInBounds_toArray, List.set_cons_zero, List.set_cons_succ]
               refine cons_l 9 rfl (by kernel_rfl) (fun K hK => ?_)
               go_simp
               refine (DY1.out _).mono ?_; rintro _ wz ⟨rfl, hwz⟩; rw [hwz]; clear hwz
               go_simp
               refine hK.out _ _ True.intro (fun hHeld => ?_)
               clear hK K
               try simp only [Act.put, List.setIfInBounds_toArray, List.set_cons_zero, List.set_cons_succ]
               refine take_l 10 (v := ?_) rfl (by kernel_rfl) (by kernel_rfl) (by kernel_rfl) (fun _ _ _ h => h) (Or.inl ⟨by rfl, ?_⟩) (by assumption) ?_
               rotate_left
               · (intro w' hSw; clear hSw; go_simp; first | done | with_reducible rfl)
               try simp only [Act.put, List.setIfInBounds_toArray, List.set_cons_zero, List.set_cons_succ]
               refine take_l 11 (v := ?_) rfl (by kernel_rfl) (by kernel_rfl) (by kernel_rfl) (fun _ _ _ h => h) (Or.inl ⟨by rfl, ?_⟩) (by assumption) ?_
               rotate_left
               · (intro w' hSw; clear hSw; go_simp; first | done | with_reducible rfl)
               try simp only [Act.put, List.setIfInBounds_toArray, List.set_cons_zero, List.set_cons_succ]
               refine wpAnyH_done (by kernel_rfl) ?_ _
               have hb5 : Below wr.heap.size wr wr.drew := Below.drew (Below.refl _ _)
               have OE5 := hid (OE.out.later hb5)
               have BX5 := hid (BX.out.trans (hb5.mono BX.out.size))
               clear OE BX hb5 HN hS0 sx sy
               generalize wr.drew = W at *
               have OE := OE5
               have BX := BX5
               clear OE5 BX5 hx hy
               obtain ⟨hp16, hpc⟩ := hx16.out
               obtain ⟨hq16, hqc⟩ := hy16.out
               rcases hpc with ⟨hp, hpe⟩ | ⟨hp, hpe⟩
               · subst hpe
                 have RN : Hid (R = none) := hid (by
                   have : D = none := by rw [DH.out, if_pos (.inl hp)]; rfl
                   rw [RE.out, this]; rfl)
                 go_wp2
                 refine bodyPost_ret (v := .tuple #[.string ⟨#[]⟩, .int .i64 3]) (by simp [results, Tryd.results10, go_sem]) rfl (UqP.no RN.out BX.out)
               · subst hpe
                 have hp15 : ¬ (15 : Int) < p' := by omega
                 rcases hqc with ⟨hq, hqe⟩ | ⟨hq, hqe⟩
                 · subst hqe
                   have RN : Hid (R = none) := hid (by
                     have : D = none := by rw [DH.out, if_pos (.inr hq)]; rfl
                     rw [RE.out, this]; rfl)
                   go_wp2
                   refine bodyPost_ret (v := .tuple #[.string ⟨#[]⟩, .int .i64 3]) (by simp [results, Tryd.results10, go_sem]) rfl (UqP.no RN.out BX.out)
                 · subst hqe
                   have hq15 : ¬ (15 : Int) < q' := by omega
                   obtain ⟨b, hb⟩ : ∃ b, b = UInt8.ofNat (p'.toNat * 16 + q'.toNat) := ⟨_, rfl⟩
                   have hbI : p' * 16 + q' = (b.toNat : Int) := by rw [hb]; simp; omega
                   have DN : Hid (D = (docP gk' (M.data.toList.drop (i + 1 + 1 + 1))).map ((l ++ [b]) ++ ·)) := hid (by rw [DH.out, if_neg (by omega), Option.map_map, ← hb]; congr 1; funext z; simp)
                   have b255 : (b.toNat : Int) < 256 := by have := b.toNat_lt; omega
                   clear DH hb
                   have b4 := below_1 W (.cells #[.int .u8 (b.toNat : Int)] 5)
                   have O4 := hid (OE.out.later b4)
                   have C4 := hid (BX.out.trans (b4.mono BX.out.size))
                   clear b4
                   unfold OwL at O4
                   go_upto_region 16 with (at_builtin; refine wpList_append_own _ rfl _ _ 32 rfl w.heap.size 5 i0 (.int .u8 0) 1 1 Tryd.underlying32 hi hz0 hz1 hz2 rfl (by decide) _ _ _ rfl O4.out ⟨W.heap.size, 0, none⟩ 1 1 [.int .u8 (b.toNat : Int)] rfl rfl (one_news W b.toNat) (one_one _) (by unfold maxLen; omega) (by omega) C4.out.size ?_; intro v9 w9 hown9 hgrow9 hnil9)
                   have HB9 := hid (below_grownT C4.out O4.out (Nat.le_refl _) C4.out.size hgrow9)
                   have HO9 : Hid (OwL w9 w.heap.size v9 (l ++ [b])) := hid (by unfold OwL; rw [byteCells_app, byteCells_one, List.length_append, List.length_singleton]; exact hown9)
                   obtain ⟨a9, c9, rfl⟩ := HO9.out.shape
                   clear hown9 hgrow9 hnil9
                   go_wp2
                   go_roundg gk'
                   case measure => omega
                   case rel => exact ⟨i + 1 + 1 + 1, l ++ [b], by go_num, by omega, by omega, DN, by rw [List.length_append, List.length_singleton]; omega, hid (by have h := HO9.out; rw [show (l ++ [b]).length = l.length + 1 by simp] at h; exact h), HB9⟩
           · have b92 : (((M[i]'hlt).toNat : Int) != 92) = true := by
               rw [bne_iff_ne]
               intro h
               exact ha (UInt8.toNat_inj.1 (by show (M[i]'hlt).toNat = 92; omega))
             rw [docP_plain _ _ ha] at DS
             have DN : Hid (D = (docP gk' (M.data.toList.drop (i + 1))).map ((l ++ [M[i]'hlt]) ++ ·)) := hid (by rw [DS, Option.map_map]; congr 1; funext z; simp)
             clear DX DS
             have b4 := below_1 wr (.cells #[.int .u8 ((M[i]'hlt).toNat : Int)] 5)
             have O4 := hid (OE.out.later b4)
             have C4 := hid (BX.out.trans (b4.mono BX.out.size))
             clear b4
             unfold OwL at O4
             go_upto_region 7 with (at_builtin; refine wpList_append_own _ rfl _ _ 32 rfl w.heap.size 5 i0 (.int .u8 0) 1 1 Tryd.underlying32 hi hz0 hz1 hz2 rfl (by decide) _ _ _ rfl O4.out ⟨wr.heap.size, 0, none⟩ 1 1 [.int .u8 ((M[i]'hlt).toNat : Int)] rfl rfl (one_news wr _) (one_one _) (by unfold maxLen; omega) (by omega) C4.out.size ?_; intro v9 w9 hown9 hgrow9 hnil9)
             have HB9 := hid (below_grownT C4.out O4.out (Nat.le_refl _) C4.out.size hgrow9)
             have HO9 : Hid (OwL w9 w.heap.size v9 (l ++ [M[i]'hlt])) := hid (by unfold OwL; rw [byteCells_app, byteCells_one, List.length_append, List.length_singleton]; exact hown9)
             obtain ⟨a9, c9, rfl⟩ := HO9.out.shape
             clear hown9 hgrow9 hnil9
             go_wp2
             go_roundg gk'
             case measure => omega
             case rel => exact ⟨i + 1, l ++ [M[i]'hlt], by go_num, by omega, by omega, DN, by rw [List.length_append, List.length_singleton]; omega, HO9, HB9⟩
         · have hge : ¬ (i : Int) < M.size := by omega
           have DE : Hid (D = some l) := hid (by rw [DX.out, List.drop_of_length_le (by omega), docP_nil]; simp)
           have cv := OE.out.conv
           have QC := hid (rquote_c ⟨l.toArray⟩ wr (by show l.length ≤ _; omega))
           have ql : (⟨l.toArray⟩ : ByteArray).data.toList = l := by simp
           rw [ql] at QC
           obtain ⟨Qs, hQs⟩ : ∃ Qs : ByteArray, Qs = ⟨(quoteL l).toArray⟩ := ⟨_, rfl⟩
           have hQd : Qs.data.toList = quoteL l := by rw [hQs]
           rw [← hQs] at QC
           clear DX ql hQs
           by_cases hq : quoteL l = s.data.toList
           · have b9 : (Qs.toList == s.toList) = true := by rw [Lib.toList_data, Lib.toList_data, hQd, hq]; simp
             have RY : Hid (R = some l) := hid (by rw [RE.out, DE.out, keepQ_some, if_pos hq])
             clear RE DE
             go_wp2_with (go_at_call 13; refine QC.out.mono ?_; rintro _ w5 ⟨rfl, hb5⟩; have cv5 := (OE.out.later hb5).conv; have B5 := hid (BX.out.trans (hb5.mono BX.out.size)); clear hb5)
             refine bodyPost_ret (v := .tuple #[.string ⟨l.toArray⟩, .int .i64 0]) (by simp [results, Tryd.results10, go_sem]) rfl (UqP.yes RY.out B5.out)
           · have b9 : (Qs.toList == s.toList) = false := by
               rw [Lib.toList_data, Lib.toList_data, hQd, beq_eq_false_iff_ne]
               exact hq
             have RN : Hid (R = none) := hid (by rw [RE.out, DE.out, keepQ_some, if_neg hq])
             clear RE DE
             go_wp2_with (go_at_call 13; refine QC.out.mono ?_; rintro _ w5 ⟨rfl, hb5⟩; have B5 := hid (BX.out.trans (hb5.mono BX.out.size)); clear hb5)
             refine bodyPost_ret (v := .tuple #[.string ⟨#[]⟩, .int .i64 3]) (by simp [results, Tryd.results10, go_sem]) rfl (UqP.no RN.out B5.out)
     · have bl : (((s[s.size - 1]'gl).toNat : Int) != 34) = true := by rw [ne34]; simp [hl]
       have RE : Hid (R = none) := hid (by rw [HR.out, if_pos (.inr (.inr (by rw [← get_l s gl]; exact hl)))])
       clear HR hf hl
       go_enter Tryd.func10, Tryd.ntmps10
       go_wp2
       refine bodyPost_ret (v := .tuple #[.string ⟨#[]⟩, .int .i64 3]) (by simp [results, Tryd.results10, go_sem]) rfl (UqP.no RE.out (Below.refl _ _))
   · have bf : (((s[0]'g0).toNat : Int) != 34) = true := by rw [ne34]; simp [hf]
     have RE : Hid (R = none) := hid (by rw [HR.out, if_pos (.inr (.inl (by rw [← get_l s g0]; exact hf)))])
     clear HR hf
     go_enter Tryd.func10, Tryd.ntmps10
     go_wp2
     refine bodyPost_ret (v := .tuple #[.string ⟨#[]⟩, .int .i64 3]) (by simp [results, Tryd.results10, go_sem]) rfl (UqP.no RE.out (Below.refl _ _))
end Go.Proofs.YtkokjkaclcjnjaaDoor
