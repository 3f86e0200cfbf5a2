/-
  
-/
import Derived.Test.YtfmghbennahlfaaGreatCnAu
import Derived.Laws.AppendOwnNone
import Derived.Test.YtfmghbennahlfaaGreatCnAg
namespace Go.Proofs.YtfmghbennahlfaaGreat
open Go.RowKit Go.ChangeShapes Go.WideShapes Go.ChangeAt Go.Maps
set_option linter.unusedVariables false
set_option linter.unusedSimpArgs false
def IsG (w : World) (a : Option Addr) (len : Nat) (g : Jo.Gr) : Prop :=
 g.length = len ∧ len ≤ maxLen ∧ (0 < len → ∃ b off, a = some ⟨b, off, none⟩ ∧ ∀ i, i < len → ∃ pa cap, w.cell? ⟨b, off + i, none⟩ = some (.slice pa (g.getD i []).length cap) ∧ IsB w pa (g.getD i []).length (g.getD i []) ∧ (g.getD i []).length ≤ cap)
theorem IsG.bytes {w : World} {a : Option Addr} {len : Nat} {g : Jo.Gr} (h : IsG w a len g) : ∀ p ∈ g, Jo.Bytes p := by
 intro p hp x hx
 obtain ⟨i, hi, rfl⟩ := List.getElem_of_mem hp
 obtain ⟨h1, h2, h3⟩ := h
 obtain ⟨b, off, e, hc⟩ := h3 (by omega)
 obtain ⟨pa, cap, c1, c2, c3⟩ := hc i (by omega)
 obtain ⟨j, hj, rfl⟩ := List.getElem_of_mem hx
 have := c2.2.2.2 j
 simp [List.getD, hi, hj] at this
 omega
theorem need_len {g : Jo.Gr} (h : g.length < 1 ∨ 8 < g.length) : Jo.needF g = 0 := by
 unfold Jo.needF; rw [if_neg (fun e => by have := Jo.ok_iff.1 e; omega)]
theorem need_big {g : Jo.Gr} (k : Nat) (hk : k < g.length) (h : 16384 < (g.getD k []).length) : Jo.needF g = 0 := by
 unfold Jo.needF
 rw [if_neg fun e => ?_]
 have := (Jo.ok_iff.1 e).2.2 g[k] (List.getElem_mem hk)
 simp [List.getD, hk] at h
 omega
theorem need_all {g : Jo.Gr} (h1 : 1 ≤ g.length) (h2 : g.length ≤ 8) (h : ∀ k, k < g.length → (g.getD k []).length ≤ 16384) : Jo.needF g = Jo.secsOf (Jo.loadF g).length := by
 refine Jo.need_ok (Jo.ok_iff.2 ⟨h1, h2, fun p hp => ?_⟩)
 obtain ⟨i, hi, rfl⟩ := List.getElem_of_mem hp
 have := h i hi
 simpa [List.getD, hi] using this
theorem load_len_take {g : Jo.Gr} {k : Nat} (h : k < g.length) : (Jo.loadF (g.take (k + 1))).length = (Jo.loadF (g.take k)).length + (4 + (g.getD k []).length) := by
 rw [Jo.load_take h]; simp [Jo.le4_len]
theorem load_take_le {g : Jo.Gr} {k : Nat} (hk : k ≤ g.length) (h8 : g.length ≤ 8) (h : ∀ j, j < k → (g.getD j []).length ≤ 16384) : (Jo.loadF (g.take k)).length ≤ 131104 := by
 have h1 := Jo.load_le (g := g.take k) (m := 16384) fun p hp => by
   obtain ⟨i, hi, rfl⟩ := List.getElem_of_mem hp
   have h2 := h i (by simp at hi; omega)
   have hi2 : i < g.length := by simp at hi; omega
   simpa [List.getD, hi2] using h2
 have h3 : (g.take k).length * (4 + 16384) ≤ 8 * (4 + 16384) := Nat.mul_le_mul_right _ (by simp; omega)
 omega
set_option maxHeartbeats 400000 in
theorem sectorsOf_c (n : Nat) (w : World) (h : n ≤ 1000000) : Calls Tryz.prog 248 #[.int .i64 n] w fun e w' => e = .returned (.int .i64 (Jo.secsOf n : Nat)) ∧ w' = w := by
 have E : Hid (((Jo.secsOf n : Nat) : Int) = 2 + ((n : Int) + 31 - 1) / 31) := by unfold Jo.secsOf Jo.many; show _ = _; omega
 go_enter Tryz.func248, Tryz.ntmps248
 go_wp2
 go_ret
 exact ⟨ret_int E.out.symm, rfl⟩
set_option maxHeartbeats 1000000 in
theorem needs_c (a : Option Addr) (len cap : Nat) (g : Jo.Gr) (w : World) (h : IsG w a len g) :
   Calls Tryz.prog 199 #[.slice a len cap] w fun e w' => e = .returned (.int .i64 (Jo.needF g : Nat)) ∧ w' = w := by
 obtain ⟨h1, h2, h3⟩ := h
 unfold maxLen at h2
 by_cases hs : len < 1
 · have E := hid (need_len (g := g) (by omega))
   go_enter Tryz.func199, Tryz.ntmps199
   go_wp2
   go_ret
   exact ⟨ret_int (by rw [E.out]; rfl), rfl⟩
 by_cases hg : 8 < len
 · have E := hid (need_len (g := g) (by omega))
   have hg' : (8 : Int) < len := by omega
   clear h3
   go_enter Tryz.func199, Tryz.ntmps199
   go_wp2
   go_ret
   exact ⟨ret_int (by rw [E.out]; rfl), rfl⟩
 obtain ⟨b, off, rfl, hc⟩ := h3 (by omega)
 have hs' : ¬ (len : Int) < 1 := by omega
 have hg' : ¬ (8 : Int) < len := by omega
 have HC := hid hc
 have HL := hid h1
 clear hc h3 h1
 go_enter Tryz.func199, Tryz.ntmps199
 go_wp2
 go_loop [3, 16] (fun n i => ∃ k : Nat, k ≤ len ∧ i = .int .i64 k ∧ n = .int .i64 ((Jo.loadF (g.take k)).length : Nat) ∧ ∀ j, j < k → (g.getD j []).length ≤ 16384) (fun _ i => len - (intOf i).toNat)
 case atStart => exact ⟨0, Nat.zero_le _, rfl, by simp [Jo.loadF], fun j hj => by omega⟩
 case round =>
   obtain ⟨k, hk, rfl, rfl, hall⟩ := hrel
   have hle := load_take_le (g := g) (k := k) (by rw [HL.out]; exact hk) (by rw [HL.out]; omega) hall
   by_cases hlt : k < len
   · obtain ⟨pa, pc, c1, c2, c3⟩ := HC.out k hlt
     have hpl := c2.2.1
     unfold maxLen at hpl
     have HT := hid (load_len_take (g := g) (k := k) (by rw [HL.out]; exact hlt))
     by_cases hbig : 16384 < (g.getD k []).length
     · have E := hid (need_big (g := g) k (by rw [HL.out]; exact hlt) hbig)
       generalize (g.getD k []).length = pl at *
       go_wp2
       go_ret
       exact ⟨ret_int (by rw [E.out]; rfl), rfl⟩
     · have HA := hid hall
       have HB := hid hbig
       clear hall
       generalize (Jo.loadF (g.take k)).length = q at *
       have hbig' : ¬ (16384 : Int) < ((g.getD k []).length : Nat) := by omega
       go_wp2
       go_round
       case rel => exact ⟨k + 1, by omega, by go_num, by rw [HT.out]; go_num, fun j hj => by
         by_cases e : j = k
         · subst e; exact Nat.le_of_not_lt HB.out
         · exact HA.out j (by omega)⟩
       case measure => simp [intOf]; omega
   · have ek : k = len := by omega
     subst ek
     have hne := need_all (g := g) (by rw [HL.out]; omega) (by rw [HL.out]; omega) (fun j hj => hall j (by rw [HL.out] at hj; exact hj))
     have ht : g.take k = g := List.take_of_length_le (by rw [HL.out]; exact Nat.le_refl _)
     rw [ht] at hle ⊢
     have E := hid hne
     clear hne ht hall
     go_wp2_with ((go_at_call 248; refine (sectorsOf_c _ _ (by omega)).mono ?_; rintro e w' ⟨rfl, rfl⟩))
     go_ret
     exact ⟨ret_int (by rw [E.out]), rfl⟩
theorem addr_add (b off j : Nat) : (⟨b, off, none⟩ : Addr).add j = ⟨b, off + j, none⟩ := by unfold Addr.add; split <;> simp_all
theorem isB_news {w : World} {b off len : Nat} {zs : List Int} (h : IsB w (some ⟨b, off, none⟩) len zs) : ∀ j u, (zs.map by8)[j]? = some u → w.cell? ((⟨b, off, none⟩ : Addr).add j) = some u := by
 intro j u hu
 obtain ⟨h1, h2, h3, h4⟩ := h
 rw [List.getElem?_map] at hu
 by_cases hj : j < zs.length
 · obtain ⟨b', off', e, hc⟩ := h3 (by omega)
   cases e
   rw [List.getElem?_eq_getElem hj] at hu
   simp at hu
   rw [addr_add, hc j (by omega), ← hu]
   simp [List.getD, hj, by8]
 · rw [List.getElem?_eq_none (by omega)] at hu; cases hu
theorem one8 (zs : List Int) : ∀ u ∈ zs.map by8, u.oneCell' = true := fun u hu => by obtain ⟨x, _, rfl⟩ := List.mem_map.1 hu; rfl
theorem grown_refl (w : World) (r : Option Nat) : w.grownBy w r := ⟨rfl, rfl, rfl, Nat.le_refl _, fun _ _ _ => rfl⟩
theorem wpList_appendB (w : World) {ops : Array Oper} {rest : List Oper} {o : Oper} {a : Act} {Q : Exit → Act → World → Prop} (hgd : o.guard = none) (s x : Operand)
   (ho : o.op = .call { callee := .builtin .append, args := #[s, x], argTypes := #[37, 37] }) (base : Nat) (v : Value) (n : Nat) (xs : List Value) (hs : a.eval s = v) (hown : w.ownsRow base 5 1 v n xs)
   (pa : Option Addr) (m c : Nat) (zs : List Int) (hx : a.eval x = .slice pa m c) (hb : IsB w pa m zs) (hc : pa = none → c = 0) (h63 : n + m ≤ 1000000) (hbase : base ≤ w.heap.size)
   (h : ∀ v' w', w'.ownsRow base 5 1 v' (n + m) (xs ++ zs.map by8) → w.grownBy w' v.ownBlock → wpList Tryz.prog ops Q rest (a.put o.dst v') w') : wpList Tryz.prog ops Q (o :: rest) a w := by
 obtain ⟨i0, hi, hz0, hz1, hz2⟩ := info_parts8
 cases pa with
 | none =>
   have hm : m = 0 := by
     rcases Nat.eq_zero_or_pos m with h0 | h0
     · exact h0
     · obtain ⟨b, off, e, _⟩ := hb.2.2.1 h0; cases e
   subst hm
   have hz : zs = [] := List.eq_nil_of_length_eq_zero hb.1
   subst hz
   have hc0 := hc rfl
   subst hc0
   refine wpList_append_own_none hgd s x 37 ho base 5 i0 1 Tryz.underlying37 hi v n xs hs hown hx ?_
   exact h v w (by simpa using hown) (grown_refl _ _)
 | some ad =>
   by_cases hm : m = 0
   · subst hm
     have hz : zs = [] := List.eq_nil_of_length_eq_zero hb.1
     subst hz
     refine wpList_append_own w hgd s x 37 ho base 5 i0 (.int .u8 0) 1 1 Tryz.underlying37 hi hz0 hz1 hz2 rfl (by decide) v n xs hs hown ad 0 c [] hx rfl (fun j u hu => by simp at hu) (fun u hu => by cases hu) (by unfold maxLen; omega) (by omega) hbase ?_
     intro v' w' h1 h2 h3
     exact h v' w' (by simpa using h1) h2
   · obtain ⟨b, off, e, _⟩ := hb.2.2.1 (by omega)
     cases e
     refine wpList_append_own w hgd s x 37 ho base 5 i0 (.int .u8 0) 1 1 Tryz.underlying37 hi hz0 hz1 hz2 rfl (by decide) v n xs hs hown ⟨b, off, none⟩ m c (zs.map by8) hx (by simp [hb.1]) (isB_news hb) (one8 zs) (by unfold maxLen; omega) (by omega) hbase ?_
     intro v' w' h1 h2 h3
     exact h v' w' h1 h2
theorem own_isB {w : World} {base : Nat} {v : Value} {zs : List Int} (h : w.ownsRow base 5 1 v zs.length (zs.map by8)) (hb : Jo.Bytes zs) : ∃ a cap, v = .slice a zs.length cap ∧ IsB w a zs.length zs ∧ zs.length ≤ cap ∧ (a = none → cap = 0) ∧ (∀ q, a = some q → base ≤ q.block ∧ q.block < w.heap.size) := by
 have hbd : ∀ i, 0 ≤ zs.getD i 0 ∧ zs.getD i 0 ≤ 255 := fun i => by have := Jo.bytes_getD hb i; omega
 have hlt := h.lt
 rcases h with ⟨hl, ⟨rfl, hn⟩ | ⟨g, cap, cur, rfl, hg, hbk, hnc, hcm, hcs, ht⟩⟩
 · exact ⟨none, 0, by rw [hn], ⟨rfl, by unfold maxLen; omega, (fun hp => by omega), hbd⟩, by omega, (fun _ => rfl), (fun q e => by cases e)⟩
 · refine ⟨some ⟨g, 0, none⟩, cap, rfl, ⟨rfl, by omega, fun hp => ⟨g, 0, rfl, fun i hi => ?_⟩, hbd⟩, hnc, (fun e => by cases e), (fun q e => by cases e; exact hlt g rfl)⟩
   rw [cell_of_row w g _ cur 5 (0, 0) hbk]
   have e1 : (cur.toList.take (zs.length * 1))[i]? = (zs.map by8)[i]? := by rw [ht]
   rw [List.getElem?_take, if_pos (by omega)] at e1
   simp only [Nat.zero_add]
   rw [← Array.getElem?_toList, e1]
   simp [hi, by8, List.getD]
def IsG0 (w : World) (a : Option Addr) (len : Nat) (g : Jo.Gr) : Prop :=
 g.length = len ∧ len ≤ maxLen ∧ (0 < len → ∃ b off, a = some ⟨b, off, none⟩ ∧ ∀ i, i < len → ∃ pa cap, w.cell? ⟨b, off + i, none⟩ = some (.slice pa (g.getD i []).length cap) ∧ IsB w pa (g.getD i []).length (g.getD i []) ∧ (g.getD i []).length ≤ cap ∧ (pa = none → cap = 0))
theorem IsG0.isG {w : World} {a : Option Addr} {len : Nat} {g : Jo.Gr} (h : IsG0 w a len g) : IsG w a len g := by
 obtain ⟨h1, h2, h3⟩ := h
 refine ⟨h1, h2, fun hp => ?_⟩
 obtain ⟨b, off, e, hc⟩ := h3 hp
 refine ⟨b, off, e, fun i hi => ?_⟩
 obtain ⟨pa, cap, c1, c2, c3, _⟩ := hc i hi
 exact ⟨pa, cap, c1, c2, c3⟩
theorem IsG0.later {w w' : World} {a : Option Addr} {len : Nat} {g : Jo.Gr} (h : IsG0 w a len g) (hb : Below w.heap.size w w') : IsG0 w' a len g := by
 obtain ⟨h1, h2, h3⟩ := h
 refine ⟨h1, h2, fun hp => ?_⟩
 obtain ⟨b, off, e, hc⟩ := h3 hp
 refine ⟨b, off, e, fun i hi => ?_⟩
 obtain ⟨pa, cap, c1, c2, c3, c4⟩ := hc i hi
 exact ⟨pa, cap, cell_later hb c1, c2.later hb, c3, c4⟩
theorem zero4 : (#[.int .u8 0, .int .u8 0, .int .u8 0, .int .u8 0] : Array Value) = (([0, 0, 0, 0] : List Int).map by8).toArray := rfl
theorem below_grown {B : Nat} {a w w' : World} {base : Nat} {e size n : Nat} {v : Value} {xs : List Value} (h : Below B a w) (hown : w.ownsRow base e size v n xs) (hB : B ≤ base) (hBw : B ≤ w.heap.size) (hg : w.grownBy w' v.ownBlock) : Below B a w' :=
 Below.grown h hg hBw (fun k hk => by have := (hown.lt k hk).1; omega)
theorem own_keep {S : Nat → Prop} {w w' : World} {base : Nat} {e : TypeId} {size : Nat} {v : Value} {n : Nat} {xs : List Value} (h : w.ownsRow base e size v n xs) (ho : Out S w w') (hS : ∀ k, v.ownBlock = some k → ¬ S k) : w'.ownsRow base e size v n xs := by
 refine ⟨h.1, ?_⟩
 rcases h.2 with h | ⟨g, cap, cur, e1, e2, e3, e4⟩
 · exact .inl h
 · exact .inr ⟨g, cap, cur, e1, e2, by rw [ho.block g (lt_blk e3) (hS g (by rw [e1]; rfl))]; exact e3, e4⟩
theorem own_shape6 {w : World} {base e size n : Nat} {v : Value} {xs : List Value} (h : w.ownsRow base e size v n xs) : ∃ a cap, v = .slice a n cap := by
 rcases h.2 with ⟨hv, hn⟩ | ⟨g, cap, cur, hv, _⟩
 · exact ⟨_, _, by rw [hv, hn]⟩
 · exact ⟨_, _, hv⟩
theorem isB_put4 {w : World} {g : Nat} {T : TypeId} {n : Int} (h : Bx w g T (put [0, 0, 0, 0] 0 (Fr.le4 n))) : IsB w (some ⟨g, 0, none⟩) 4 (Fr.le4 n) :=
 bx_isB (s := Fr.le4 n) h (Jo.bytes_le4 _) 0 4 (by rw [Jo.le4_len]; omega) (by decide)
theorem out_new {a w' : World} {o : Obj} (h : Out (fun k => k = a.heap.size) (a.alloc o) w') : Out (fun k => a.heap.size ≤ k) a w' :=
 (Out.of ((Below.refl _ _).alloc (Nat.le_refl _) o)).trans (h.mono (fun k e => by omega))
theorem out_below {a w' : World} (h : Out (fun k => a.heap.size ≤ k) a w') : Below a.heap.size a w' := h.below (Nat.le_refl _) (fun k e => e)
set_option maxRecDepth 20000 in
set_option maxHeartbeats 2000000 in
theorem loadOf_c (a : Option Addr) (len cap : Nat) (g : Jo.Gr) (w : World) (h : IsG0 w a len g) (hok : g.length ≤ 8) (hsm : ∀ j, j < g.length → (g.getD j []).length ≤ 16384) :
   Calls Tryz.prog 252 #[.slice a len cap] w fun e w' => ∃ v, e = .returned v ∧ w'.ownsRow w.heap.size 5 1 v (Jo.loadF g).length ((Jo.loadF g).map by8) ∧ Below w.heap.size w w' := by
 have H := hid h
 obtain ⟨h1, h2, h3⟩ := h
 unfold maxLen at h2
 have HL := hid h1
 have H3 := hid h3
 have HS := hid hsm
 have HO := hid hok
 clear h3 h1 hsm hok
 have zf := zero4
 go_enter Tryz.func252, Tryz.ntmps252
 go_wp2
 go_loopw [3, 9] (fun v i wr => ∃ k : Nat, k ≤ len ∧ i = .int .i64 k ∧ wr.ownsRow w.heap.size 5 1 v (Jo.loadF (g.take k)).length ((Jo.loadF (g.take k)).map by8) ∧ Below w.heap.size w wr) (fun _ i _ => len - (intOf i).toNat)
 case atStart => exact ⟨0, Nat.zero_le _, rfl, by simpa [Jo.loadF] using World.ownsRow_nil w w.heap.size 5 1, Below.refl _ _⟩
 case round =>
   obtain ⟨k, hk, rfl, hown, hB⟩ := hrel
   have hBz := hB.size
   by_cases hlt : k < len
   · obtain ⟨b, off, rfl, hc⟩ := H3.out (by omega)
     obtain ⟨pa, pc, c1, c2, c3, c4⟩ := hc k hlt
     have c1' := cell_later hB c1
     have hpl := HS.out k (by rw [HL.out]; exact hlt)
     have hle := load_take_le (g := g) (k := k) (by rw [HL.out]; exact hk) HO.out (fun j hj => HS.out j (by rw [HL.out]; omega))
     have C2 := hid c2
     have C4 := hid c4
     have HT := hid (Jo.load_take (g := g) (k := k) (by rw [HL.out]; exact hlt))
     have HO1 := hid hown
     have HB1 := hid hB
     clear hc c1 c2 c4 hB
     generalize hp : g.getD k [] = p at *
     clear hp
     have hx1 : Bx (wr.alloc (.cells (([0, 0, 0, 0] : List Int).map by8).toArray 398)) wr.heap.size 398 [0, 0, 0, 0] := heap_alloc_new wr _
     have hB1 : Below wr.heap.size wr (wr.alloc (.cells (([0, 0, 0, 0] : List Int).map by8).toArray 398)) := (Below.refl _ _).alloc (Nat.le_refl _) _
     go_wp2_with (first
       | (at_builtin; refine wpList_appendB _ rfl _ _ rfl w.heap.size _ _ _ rfl hown5 pa p.length pc p rfl (C2.out.later (HB1.out.trans B5)) C4.out (by omega) (by have := B5.size; omega) ?_; intro v6 w6 hown6 hgrow6)
       | (at_builtin; refine wpList_appendB _ rfl _ _ rfl w.heap.size _ _ _ rfl hown1 (some ⟨wr.heap.size, 0, none⟩) 4 4 (Fr.le4 p.length) rfl (isB_put4 hb1) (fun e => by cases e) (by omega) (by have := O1.size; omega) ?_; intro v5 w5 hown5 hgrow5; (have B5 : Below w.heap.size wr w5 := below_grown ((out_below O1).mono hBz) hown1 (Nat.le_refl _) (by have := O1.size; omega) hgrow5))
       | (go_at_call 249; refine (putNumber_c wr.heap.size 0 4 398 [0, 0, 0, 0] _ _ (by exact hx1) (by decide) (by omega) (by omega)).mono ?_; rintro e w1 ⟨rfl, hb1, ho1, hz1⟩; (have O1 := out_new ho1); (have hown1 := own_keep HO1.out O1 (fun k hk h => by have := (HO1.out.lt k hk).2; omega))))
     have B6 : Below w.heap.size w w6 := below_grown (HB1.out.trans B5) hown5 (Nat.le_refl _) (by have := B5.size; omega) hgrow6
     obtain ⟨a6, c6, rfl⟩ := own_shape6 hown6
     go_roundw
     case rel => exact ⟨k + 1, by omega, by go_num, by rw [HT.out]; simpa [Jo.le4_len, Nat.add_assoc] using hown6, B6⟩
     case measure => simp [intOf]; omega
   · have ek : k = len := by omega
     have ht : g.take k = g := List.take_of_length_le (by rw [HL.out]; omega)
     rw [ht] at hown
     have HO1 := hid hown
     obtain ⟨a6, c6, rfl⟩ := own_shape6 hown
     clear hown ht
     go_wp2
     go_ret
     exact ⟨_, rfl, HO1.out, hB⟩
end Go.Proofs.YtfmghbennahlfaaGreat
namespace Go.Proofs.YtfmghbennahlfaaGreat
open Go.RowKit Go.ChangeShapes Go.WideShapes Go.ChangeAt Go.Maps Go.Shelf
attribute [local go_sem] Oper.semAt_some
set_option linter.unusedVariables false
set_option linter.unusedSimpArgs false
set_option maxHeartbeats 2000000 in
theorem chunk1_in (l B b off len cap : Nat) (hlen : len ≤ 1000000) (hlc : len ≤ cap) (I : Nat → World → Prop)
   (hI : ∀ k W, I k W → W.heap[B]? = some (.cells #[.slice (some ⟨b, off, none⟩) len cap] 37 (0, 0)) ∧ W.heap[B + 1]? = some (.cells #[.int .i64 31] 3 (0, 0)))
   (hd : ∀ k W, I k W → I k W.drew)
   (hY : ∀ k W, 31 * k < len → I k W → YieldAt Fence.wide 1 Tryz.prog l #[.slice (some ⟨b, off + 31 * k, none⟩) (min 31 (len - 31 * k)) (min 31 (len - 31 * k))] W fun e W' => e = .returned (.bool true) ∧ I (k + 1) W')
   (W : World) (h0 : I 0 W) :
   CallsIn Fence.wide 2 Tryz.prog 303 #[.func (.yield l) #[] #[], .pointer (some ⟨B, 0, none⟩), .pointer (some ⟨B + 1, 0, none⟩)] W fun e W' => (∃ v, e = .returned v) ∧ I (Jo.many len) W' := by
 refine callsIn_of_wp Tryz.func303 rfl trivial ?_ rfl
 simp only [Tryz.ntmps303, List.size_toArray, List.length_cons, List.length_nil, Nat.reduceAdd, Nat.reduceSub, Array.replicate_succ, Array.replicate_zero, List.push_toArray, List.append_toArray, List.nil_append, List.cons_append]
 gi_wp2
 gi_loopw [4] (fun i wr => ∃ k : Nat, i = .int .i64 ((31 * k : Nat) : Int) ∧ k ≤ Jo.many len ∧ I k wr) (fun i _ => len + 31 - (intOf i).toNat)
 case atStart => exact ⟨0, rfl, Nat.zero_le _, h0⟩
 case round =>
   obtain ⟨k, rfl, hk, hIk⟩ := hrel
   obtain ⟨b1, b2⟩ := hI k wr hIk
   have c1 := cell_box b1
   have c2 := cell_box b2
   have hm := Jo.many_le len
   by_cases hlt : 31 * k < len
   · have i0 : ((31 * k : Nat) : Int) < len := by omega
     have i1 : (0 : Int) ≤ ((31 * k : Nat) : Int) := by omega
     have i2 : ((31 * k : Nat) : Int) ≤ len := by omega
     have i3 : ((31 * k : Nat) : Int) ≤ cap := by omega
     have i4 : (len : Int) ≤ cap := by omega
     have HK : Hid (k + 1 ≤ Jo.many len) := by show _ ≤ _; omega
     have HQ : Hid (31 * (k + 1) = 31 * k + 31) := by show _ = _; omega
     have hY' := hY k wr.drew hlt (hd _ _ hIk)
     by_cases hA : 31 ≤ len - 31 * k
     · rw [Nat.min_eq_left hA] at hY'
       obtain ⟨fn, tmps, assign, body, hy, hR⟩ := hY'
       have HR := hid hR
       have eA : (((31 * k : Nat) : Int) + 31).toNat - 31 * k = 31 := by omega
       have hA' : (31 : Int) ≤ ((len - 31 * k : Nat) : Int) := by omega
       have e3 : ((31 * k : Nat) : Int) + 31 ≤ len := by omega
       have e4 : ((31 * k : Nat) : Int) + 31 ≤ cap := by omega
       clear hR
       generalize 31 * k = q at *
       gi_wp2_with fail
       gi_region
       gi_wp2
       refine HR.out.mono ?_
       rintro _ W3 ⟨rfl, hI3⟩
       obtain ⟨d1, d2⟩ := hI _ _ hI3
       have f1 := cell_box d1
       have f2 := cell_box d2
       gi_wp2
       go_roundw
       case rel => exact ⟨k + 1, by rw [HQ.out]; go_num, HK.out, hI3⟩
       case measure => simp [intOf]; omega
     · rw [Nat.min_eq_right (by omega)] at hY'
       obtain ⟨fn, tmps, assign, body, hy, hR⟩ := hY'
       have HR := hid hR
       have eA : (((31 * k : Nat) : Int) + ((len - 31 * k : Nat) : Int)).toNat - 31 * k = len - 31 * k := by omega
       have hA' : ((len - 31 * k : Nat) : Int) < 31 := by omega
       have hA2 : ((len - 31 * k : Nat) : Int) ≤ 31 := by omega
       have e3 : ((31 * k : Nat) : Int) + ((len - 31 * k : Nat) : Int) ≤ len := by omega
       have e4 : ((31 * k : Nat) : Int) + ((len - 31 * k : Nat) : Int) ≤ cap := by omega
       clear hR
       generalize 31 * k = q at *
       gi_wp2_with fail
       gi_region
       gi_wp2
       refine HR.out.mono ?_
       rintro _ W3 ⟨rfl, hI3⟩
       obtain ⟨d1, d2⟩ := hI _ _ hI3
       have f1 := cell_box d1
       have f2 := cell_box d2
       gi_wp2
       go_roundw
       case rel => exact ⟨k + 1, by rw [HQ.out]; go_num, HK.out, hI3⟩
       case measure => simp [intOf]; omega
   · have ek : k = Jo.many len := by omega
     have i0 : ¬ ((31 * k : Nat) : Int) < len := by omega
     have HI : Hid (I (Jo.many len) wr) := ek ▸ hIk
     clear hIk ek hm hk hY hd hI
     generalize 31 * k = q at *
     gi_wp2
     exact body_end (by kernel_rfl) rfl ⟨⟨_, rfl⟩, HI.out⟩
end Go.Proofs.YtfmghbennahlfaaGreat
namespace Go.Proofs.YtfmghbennahlfaaGreat
open Go.RowKit Go.ChangeShapes Go.WideShapes Go.ChangeAt Go.Maps Go.Shelf
attribute [local go_sem] Oper.semAt_some
set_option linter.unusedVariables false
set_option linter.unusedSimpArgs false
set_option maxHeartbeats 400000 in
theorem chunk_c (a : Option Addr) (len cap : Nat) (w : World) :
   Calls Tryz.prog 254 #[.slice a len cap, .int .i64 31] w fun e w' => e = .returned (.func (.func 303) #[] #[.pointer (some ⟨w.heap.size, 0, none⟩), .pointer (some ⟨w.heap.size + 1, 0, none⟩)]) ∧ w' = (w.alloc (.cells #[.slice a len cap] 37)).alloc (.cells #[.int .i64 31] 3) := by
 go_enter Tryz.func254, Tryz.ntmps254
 go_wp2
 go_ret
 exact ⟨rfl, rfl⟩
def scells (ss : List (List Int)) : List Value := ss.flatMap (·.map by8)
theorem scells_snoc (ss : List (List Int)) (s : List Int) : scells (ss ++ [s]) = scells ss ++ s.map by8 := by unfold scells; simp
theorem jfold_fill (off : Nat) : ∀ (l : List Value) (k : Nat) (cs : Array Value), off + k + l.length ≤ cs.size →
   (l.zipIdx k).foldl (fun cs (p : Value × Nat) => cs.setIfInBounds (off + p.2) p.1) cs = (cs.toList.take (off + k) ++ l ++ cs.toList.drop (off + k + l.length)).toArray
 | [], k, cs, h => by simp
 | v :: l, k, cs, h => by
   rw [List.zipIdx_cons, List.foldl_cons, jfold_fill off l (k + 1) _ (by simp at h ⊢; omega)]
   congr 1
   rw [Array.toList_setIfInBounds]
   simp only [List.length_cons] at h ⊢
   rw [List.take_set, List.drop_set_of_lt (by omega)]
   have e : off + (k + 1) = (off + k) + 1 := by omega
   have hlt : off + k < cs.toList.length := by simp; omega
   rw [e, List.take_succ_eq_append_getElem hlt, List.set_append, if_neg (by rw [List.length_take]; omega), List.length_take]
   have : off + k - min (off + k) cs.toList.length = 0 := by omega
   rw [this]
   simp
   congr 1
   omega
theorem jfill_at (off : Nat) (v cs : Array Value) (h : off + v.size ≤ cs.size) : v.zipIdx.foldl (fun cs (p : Value × Nat) => cs.setIfInBounds (off + p.2) p.1) cs = (cs.toList.take off ++ v.toList ++ cs.toList.drop (off + v.size)).toArray := by
 have := jfold_fill off v.toList 0 cs (by simpa using h)
 simp only [Nat.add_zero, Array.length_toList] at this
 rw [← this]
 rw [← Array.foldl_toList, Array.toList_zipIdx]
theorem jrun_slice1 {t e : TypeId} {n : Nat} {z : Value} (ht : Tryz.prog.underlying t = some (.slice e)) (hn : ∀ w, (sizeOf e).run Tryz.prog w = .ok n w) (hz : ∀ w, (zeroValue e).run Tryz.prog w = .ok z w) (h0 : 0 < n) (h1 : n ≤ 16777216) (cs : Array Value) (hc : cs.size = n) (w : World) :
   (Instr.buildSlice t 1 #[(0, .agg cs)]).run Tryz.prog w = .ok (.slice (some ⟨w.heap.size, 0, none⟩) 1 1) (w.alloc (.cells cs e)) := by
 have e2 : ∀ xs : Array Value, xs.size = n → cs.zipIdx.foldl (fun cs (p : Value × Nat) => cs.setIfInBounds (0 + p.2) p.1) xs = cs := by
   intro xs hx
   rw [jfill_at 0 cs xs (by omega)]
   apply Array.ext'
   simp [hc, hx]
 have e3 : ∀ xs : Array Value, xs.size = n → Array.foldl (fun cs (p : Value × Nat) => cs.setIfInBounds p.2 p.1) xs cs.zipIdx 0 n = cs := fun xs hx => by
   have h := e2 xs hx
   rw [Array.size_zipIdx, hc] at h
   simpa using h
 have h2 : ¬ n = 0 := by omega
 have h3 : ¬ 16777216 < n := by omega
 simp only [Instr.buildSlice, Sem.run_bind, run_underlying ht, hn, Result.andThen_ok]
 simp [h2, h3, hz, Instr.fill, Value.cells, hc, e3, Result.andThen, newRow, go_sem]
theorem fill_sec (X Y : Array Value) (hX : X.size = 32) (hY : Y.size = 32) : Array.foldl (fun cs (x : Value × Nat) => cs.setIfInBounds x.snd x.fst) Y X.zipIdx 0 32 = X := by
 have h : X.zipIdx.foldl (fun cs (p : Value × Nat) => cs.setIfInBounds (0 + p.2) p.1) Y = X := by
   rw [jfill_at 0 X Y (by omega)]
   apply Array.ext'
   simp [hX, hY]
 rw [Array.size_zipIdx, hX] at h
 simpa using h
theorem sizeSw (w : World) : (sizeOf 260).run Tryz.prog w = .ok 32 w := by
 have h := sizeS
 cases hi : Tryz.prog.info? 260 with
 | none => rw [hi] at h; cases h
 | some i => rw [hi] at h; simp at h; simp [sizeOf, typeInfo, hi, h]
theorem infoSec : ∃ i : TypeInfo, Tryz.prog.info? 260 = some i ∧ i.zero = some (secV zsec) ∧ i.size = 32 ∧ i.bytes = 32 := by
 have h : (Tryz.prog.info? 260).map (fun i => (i.zero, i.size, i.bytes)) = some (some (secV zsec), 32, 32) := by kernel_rfl
 cases hi : Tryz.prog.info? 260 with
 | none => rw [hi] at h; cases h
 | some i => rw [hi] at h; simp at h; exact ⟨i, rfl, h.1, h.2.1, h.2.2⟩
section
variable {o : Oper} {a : Act} {w : World}
theorem exec_slice1 (x : Operand) (hop : o.op = Op.buildSlice 233 1 #[(0, x)]) (s : Sec) (hx : a.eval x = secV s) (hs : s.length = 32) :
   (execOp a.eval o).run Tryz.prog w = .ok (.value (.slice (some ⟨w.heap.size, 0, none⟩) 1 1)) (w.alloc (.cells (s.map by8).toArray 260)) := by
 have e := jrun_slice1 (t := 233) (e := 260) Tryz.underlying233 sizeSw zeroS (by omega) (by omega) (s.map by8).toArray (by simp [hs]) w
 unfold secV at hx
 simp only [execOp, hop, List.map_toArray, List.map_cons, List.map_nil, hx, Sem.run_bind, e, Result.andThen, Sem.run_pure]
theorem exec_loadS (x : Operand) (hop : o.op = .load 260 x) (g : Nat) (hx : a.eval x = .pointer (some ⟨g, 0, none⟩)) (s : Sec) (hs : s.length = 32) (T : TypeId) (hb : Bx w g T s) :
   (execOp a.eval o).run Tryz.prog w = .ok (.value (secV s)) w := by
 have hl := run_loadVar_row (P := Tryz.prog) w g T 260 (s.map by8).toArray (0, 0) _ hb Tryz.underlying260 rfl (by rw [sizeS]; simp [hs])
 simp only [execOp, hop, hx, Sem.run_bind, Instr.loadAt, Instr.sureAddr, Result.andThen, Sem.run_pure, hl]
 rfl
theorem exec_storeS (x y : Operand) (hop : o.op = .store 260 x y) (g : Nat) (hx : a.eval x = .pointer (some ⟨g, 0, none⟩)) (s : Sec) (hy : a.eval y = secV s) (hs : s.length = 32) (T : TypeId) (c : Array Value) (hb : w.heap[g]? = some (.cells c T (0, 0))) (hc : c.size = 32) :
   (execOp a.eval o).run Tryz.prog w = .ok .skip (w.setRow g (s.map by8).toArray) := by
 have hl := run_storeVar_row (P := Tryz.prog) w g T 260 c (s.map by8).toArray hb (by rw [sizeS]; simp [hs]) (by simp [hs, hc]) (secV_one s)
 unfold secV at hy
 simp only [execOp, hop, hx, hy, Sem.run_bind, Instr.storeAt, Instr.sureAddr, Result.andThen, Sem.run_pure, hl]
theorem exec_storeN (x y : Operand) (hop : o.op = .store 260 x y) (H : Nat) (hx : a.eval x = .pointer (some ⟨H, 0, none⟩)) (hH : H = w.heap.size) (s : Sec) (hy : a.eval y = secV s) (hs : s.length = 32) (c : Array Value) (hc : c.size = 32) :
   (execOp a.eval o).run Tryz.prog (w.alloc (.cells c 260)) = .ok .skip (w.alloc (.cells (s.map by8).toArray 260)) := by
 subst hH
 rw [exec_storeS x y hop w.heap.size hx s hy hs 260 c (heap_alloc_new w _) hc, World.setRow_alloc_new]
theorem exec_copyS (x y : Operand) (hop : o.op = .call { callee := .builtin .copy, args := #[x, y], argTypes := #[37, 37] }) (g : Nat) (hx : a.eval x = .slice (some ⟨g, 1, none⟩) 31 31) (T : TypeId) (s : List Int) (hb : Bx w g T s) (hs : s.length = 32)
   (b off m c : Nat) (zs : List Int) (hy : a.eval y = .slice (some ⟨b, off, none⟩) m c) (hz : IsB w (some ⟨b, off, none⟩) m zs) (hm : m ≤ 31) :
   (execOp a.eval o).run Tryz.prog w = .ok (.value (goInt m)) (w.setRow g ((put s 1 zs).map by8).toArray) := by
 have hu : (Tryz.prog.info? 5).map (·.size) = some 1 := by kernel_rfl
 have hl := run_copy_row (P := Tryz.prog) w 37 37 o.type 5 g 1 31 31 ⟨b, off, none⟩ m c (s.map by8).toArray T (zs.map by8) Tryz.underlying37 hu hb (by simp [hz.1]; exact (Nat.min_eq_left hm).symm) (isB_news hz) (by simp [hz.1, hs]; omega) (one8 zs)
 simp only [List.length_map, hz.1] at hl
 have e : ((s.map by8).toArray.toList.take 1 ++ zs.map by8 ++ (s.map by8).toArray.toList.drop (1 + m)).toArray = ((put s 1 zs).map by8).toArray := by
   unfold put; simp [hz.1, List.map_take, List.map_drop]
 rw [e] at hl
 simp [execOp, hop, resolve, invoke, builtin, hx, hy, hl, Result.andThen]
theorem exec_copyN (x y : Operand) (hop : o.op = .call { callee := .builtin .copy, args := #[x, y], argTypes := #[37, 37] }) (H : Nat) (hx : a.eval x = .slice (some ⟨H, 1, none⟩) 31 31) (hH : H = w.heap.size) (s : List Int) (hs : s.length = 32)
   (b off m c : Nat) (zs : List Int) (hy : a.eval y = .slice (some ⟨b, off, none⟩) m c) (hz : IsB w (some ⟨b, off, none⟩) m zs) (hm : m ≤ 31) :
   (execOp a.eval o).run Tryz.prog (w.alloc (.cells (s.map by8).toArray 260)) = .ok (.value (goInt m)) (w.alloc (.cells ((put s 1 zs).map by8).toArray 260)) := by
 subst hH
 rw [exec_copyS x y hop w.heap.size hx 260 s (heap_alloc_new w _) hs b off m c zs hy (hz.later ((Below.refl _ _).alloc (Nat.le_refl _) _)) hm, World.setRow_alloc_new]
end
theorem step_append {P : Program} (w : World) {ops : Array Oper} {o : Oper} {a : Act} {K : Act → World → Prop} {Q : Exit → Act → World → Prop} {E : Prop} (hgd : o.guard = none) (s x : Operand) (t : TypeId)
   (ho : o.op = .call { callee := .builtin .append, args := #[s, x], argTypes := #[t, t] })
   (base : Nat) (e : TypeId) (i : TypeInfo) (z : Value) (size bytes : Nat) (ht : P.underlying t = some (.slice e)) (hi : P.info? e = some i) (hz : i.zero = some z)
   (hsize : i.size = size) (hby : i.bytes = bytes) (hzs : z.cells.size = size) (hsz : 0 < size)
   (v : Value) (n : Nat) (xs : List Value) (hs : a.eval s = v) (hown : w.ownsRow base e size v n xs)
   (ad : Addr) (m c : Nat) (news : List Value) (hx : a.eval x = .slice (some ad) m c) (hl : news.length = m * size) (hnews : ∀ j u, news[j]? = some u → w.cell? (ad.add j) = some u) (h1 : ∀ u ∈ news, u.oneCell' = true)
   (h63 : n + m ≤ maxLen) (hbytes : (n + m) * bytes ≤ 140737488355328) (hbase : base ≤ w.heap.size)
   (h : ∀ v' w', w'.ownsRow base e size v' (n + m) (xs ++ news) → w.grownBy w' v.ownBlock → K (a.put o.dst v') w') :
   if Region.wanted o (yielded ops a.tmps) = true then Oper.wp P o a w K Q else E := by
 rw [if_pos (by simp [Region.wanted, hgd])]
 exact wp_append_own w s x t ho base e i z size bytes ht hi hz hsize hby hzs hsz v n xs hs hown ad m c news hx hl hnews h1 h63 hbytes hbase fun v' w' a b _ => h v' w' a b
theorem news_sec {w : World} {B : Nat} {s : List Int} {t : TypeId} {fr : Nat × Nat} (hb : w.heap[B]? = some (.cells (s.map by8).toArray t fr)) : ∀ j u, (s.map by8)[j]? = some u → w.cell? ((⟨B, 0, none⟩ : Addr).add j) = some u := fun j u hu => by
 rw [addr_add, cell_of_row w B _ _ t fr hb]
 simpa using hu
theorem news_X {w : World} {B : Nat} {s : List Int} {t : TypeId} {fr : Nat × Nat} {X : Array Value} (hb : w.heap[B]? = some (.cells X t fr)) (e : X = (s.map by8).toArray) : ∀ j u, (s.map by8)[j]? = some u → w.cell? ((⟨B, 0, none⟩ : Addr).add j) = some u := by
 subst e; exact news_sec hb
theorem put_mark {z : List Int} (h : z.length ≤ 31) : put (markS 68) 1 z = Jo.pad (68 :: z) := by
 unfold put markS Jo.pad
 simp only [List.take_succ_cons, List.take_zero, List.cons_append, List.nil_append, Nat.add_comm 1, List.drop_succ_cons, List.drop_replicate, List.length_cons]
 congr 3
 omega
theorem exec_copyD {o : Oper} {a : Act} {w : World} (x y : Operand) (hop : o.op = .call { callee := .builtin .copy, args := #[x, y], argTypes := #[37, 37] }) (H : Nat) (hx : a.eval x = .slice (some ⟨H, 1, none⟩) 31 31) (hH : H = w.heap.size)
   (b off m c : Nat) (L : List Int) (k : Nat) (hy : a.eval y = .slice (some ⟨b, off, none⟩) m c) (hz : IsB w (some ⟨b, off, none⟩) m (Jo.chunk L k)) (hm : m ≤ 31) :
   (execOp a.eval o).run Tryz.prog (w.alloc (.cells ((markS 68).map by8).toArray 260)) = .ok (.value (goInt m)) (w.alloc (.cells ((Jo.dataS L k).map by8).toArray 260)) := by
 rw [exec_copyN x y hop H hx hH (markS 68) rfl b off m c (Jo.chunk L k) hy hz hm, put_mark (by rw [hz.1]; exact hm)]
 rfl
end Go.Proofs.YtfmghbennahlfaaGreat
