/-
  The search for PAIRs of the package cml: newSearch, takeOut.
  The first PAIR of what is left: pair of the package cml.
-/
import Derived.Test.YtihgiemgcmpmmaaGreatShAa
import Derived.Deep.OwnRows
import Derived.Deep.LoopGhost
namespace Go.Proofs.YtihgiemgcmpmmaaGreat
open Go.RowKit Go.ChangeShapes Go.WideShapes Go.ChangeAt Go.Maps Go.Shelf
set_option linter.unusedVariables false
set_option linter.unusedSimpArgs false
def Fr (B P : Nat) (o : Obj) (w w' : World) : Prop := Below B w w' ∧ B ≤ w.heap.size ∧ w'.heap[P]? = some o
theorem Fr.start {B P : Nat} {o : Obj} {w : World} (hB : B ≤ w.heap.size) (h : w.heap[P]? = some o) : Fr B P o w w := ⟨Below.refl _ _, hB, h⟩
theorem Fr.on {B P : Nat} {o : Obj} {w w1 w2 : World} (h : Fr B P o w w1) (hb : Below w1.heap.size w1 w2) : Fr B P o w w2 := ⟨h.1.trans (hb.mono (Nat.le_trans h.2.1 h.1.size)), h.2.1, (hb.block _ (lt_blkR h.2.2)).trans h.2.2⟩
theorem Fr.drew {B P : Nat} {o : Obj} {w w1 : World} (h : Fr B P o w w1) : Fr B P o w w1.drew := ⟨Below.drew h.1, h.2.1, h.2.2⟩
theorem Fr.set {B P : Nat} {o : Obj} {w w1 : World} (h : Fr B P o w w1) {p : Addr} (hp : B ≤ p.block) (hne : P ≠ p.block) (v : Value) : Fr B P o w (w1.setCell p v) := ⟨h.1.setCell hp v, h.2.1, (heap_setCell_other _ _ _ _ hne).trans h.2.2⟩
def Sr (w : World) (S G X : Nat) (a : Option Addr) (n cap : Nat) (g : Nat → Bool) (nx : Nat → Nat) : Prop :=
 w.heap[S]? = some (.cells #[.slice a n cap, .slice (some ⟨G, 0, none⟩) n n, .slice (some ⟨X, 0, none⟩) n n] 103 (0, 0)) ∧ w.rowIs G 4 n (fun i => .bool (g i)) ∧ w.rowIs X 3 n (fun i => .int .i64 (nx i : Nat)) ∧ S ≠ G ∧ S ≠ X ∧ G ≠ X
theorem Sr.later {w w' : World} {S G X : Nat} {a : Option Addr} {n cap : Nat} {g : Nat → Bool} {nx : Nat → Nat} (h : Sr w S G X a n cap g nx) (hb : Below w.heap.size w w') : Sr w' S G X a n cap g nx :=
 ⟨(hb.block _ (lt_blkR h.1)).trans h.1, h.2.1.of_block (hb.block _ h.2.1.lt), h.2.2.1.of_block (hb.block _ h.2.2.1.lt), h.2.2.2⟩
theorem Sr.cells {w : World} {S G X : Nat} {a : Option Addr} {n cap : Nat} {g : Nat → Bool} {nx : Nat → Nat} (h : Sr w S G X a n cap g nx) : w.cell? ⟨S, 0, none⟩ = some (.slice a n cap) ∧ w.cell? ⟨S, 1, none⟩ = some (.slice (some ⟨G, 0, none⟩) n n) ∧ w.cell? ⟨S, 2, none⟩ = some (.slice (some ⟨X, 0, none⟩) n n) := by
 refine ⟨?_, ?_, ?_⟩ <;> (rw [cell_of_row _ _ _ _ _ _ h.1]; rfl)
theorem Sr.setX {w : World} {S G X : Nat} {a : Option Addr} {n cap : Nat} {g : Nat → Bool} {nx nx' : Nat → Nat} (h : Sr w S G X a n cap g nx) (i v : Nat) (e : ∀ j, j < n → nx' j = if j = i then v else nx j) : Sr (w.setCell ⟨X, i, none⟩ (.int .i64 (v : Nat))) S G X a n cap g nx' := by
 obtain ⟨h1, h2, h3, h4, h5, h6⟩ := h
 refine ⟨(heap_setCell_other _ _ _ _ h5).trans h1, h2.setOther h6 _, (h3.set i _).congr fun j hj => ?_, h4, h5, h6⟩
 rw [e j hj]
 by_cases q : j = i
 · simp [q]
 · simp [q]
theorem Sr.setG {w : World} {S G X : Nat} {a : Option Addr} {n cap : Nat} {g g' : Nat → Bool} {nx : Nat → Nat} (h : Sr w S G X a n cap g nx) (i : Nat) (e : ∀ j, j < n → g' j = if j = i then true else g j) : Sr (w.setCell ⟨G, i, none⟩ (.bool true)) S G X a n cap g' nx := by
 obtain ⟨h1, h2, h3, h4, h5, h6⟩ := h
 refine ⟨(heap_setCell_other _ _ _ _ h4).trans h1, (h2.set i _).congr fun j hj => ?_, h3.setOther (Ne.symm h6) _, h4, h5, h6⟩
 rw [e j hj]
 by_cases q : j = i
 · simp [q]
 · simp [q]
theorem Sr.congr {w : World} {S G X : Nat} {a : Option Addr} {n cap : Nat} {g g' : Nat → Bool} {nx nx' : Nat → Nat} (h : Sr w S G X a n cap g nx) (e1 : ∀ j, j < n → g j = g' j) (e2 : ∀ j, j < n → nx j = nx' j) : Sr w S G X a n cap g' nx' :=
 ⟨h.1, h.2.1.congr fun j hj => by rw [e1 j hj], h.2.2.1.congr fun j hj => by rw [e2 j hj], h.2.2.2⟩
theorem infoBo : (Tryz.prog.info? 4).map (fun i => (i.zero, i.size, i.bytes)) = some (some (.bool false), 1, 1) := by kernel_rfl
theorem infoIn : (Tryz.prog.info? 3).map (fun i => (i.zero, i.size, i.bytes)) = some (some (.int .i64 0), 1, 8) := by kernel_rfl
theorem sr_made1 (w : World) (a : Option Addr) (n cap : Nat) : Sr (((w.alloc (.cells (madeCells #[.bool false] n) 4)).alloc (.cells (madeCells #[.int .i64 0] n) 3)).alloc (.cells #[.slice a n cap, .slice (some ⟨w.heap.size, 0, none⟩) n n, .slice (some ⟨w.heap.size + 1, 0, none⟩) n n] 103)).drew (w.heap.size + 1 + 1) w.heap.size (w.heap.size + 1) a n cap (fun _ => false) (fun _ => 0) := by
 have h1 := w.rowIs_made (.bool false) n 4
 have s1 : (w.alloc (.cells (madeCells #[.bool false] n) 4)).heap.size = w.heap.size + 1 := by simp
 generalize w.alloc (.cells (madeCells #[.bool false] n) 4) = w1 at *
 have h2 := w1.rowIs_made (.int .i64 0) n 3
 have h1' := h1.alloc (.cells (madeCells #[.int .i64 0] n) 3)
 have s2 : (w1.alloc (.cells (madeCells #[.int .i64 0] n) 3)).heap.size = w1.heap.size + 1 := by simp
 generalize w1.alloc (.cells (madeCells #[.int .i64 0] n) 3) = w2 at *
 rw [s1] at h2
 have h3 := heap_alloc_new w2 (.cells #[.slice a n cap, .slice (some ⟨w.heap.size, 0, none⟩) n n, .slice (some ⟨w.heap.size + 1, 0, none⟩) n n] 103)
 rw [s2, s1] at h3
 exact ⟨h3, (h1'.alloc _).drew, (h2.alloc _).drew, by omega, by omega, by omega⟩
theorem sr_made2 (w : World) (a : Option Addr) (n cap : Nat) : Sr (((w.alloc (.cells (madeCells #[.int .i64 0] n) 3)).alloc (.cells (madeCells #[.bool false] n) 4)).alloc (.cells #[.slice a n cap, .slice (some ⟨w.heap.size + 1, 0, none⟩) n n, .slice (some ⟨w.heap.size, 0, none⟩) n n] 103)).drew (w.heap.size + 1 + 1) (w.heap.size + 1) w.heap.size a n cap (fun _ => false) (fun _ => 0) := by
 have h1 := w.rowIs_made (.int .i64 0) n 3
 have s1 : (w.alloc (.cells (madeCells #[.int .i64 0] n) 3)).heap.size = w.heap.size + 1 := by simp
 generalize w.alloc (.cells (madeCells #[.int .i64 0] n) 3) = w1 at *
 have h2 := w1.rowIs_made (.bool false) n 4
 have h1' := h1.alloc (.cells (madeCells #[.bool false] n) 4)
 have s2 : (w1.alloc (.cells (madeCells #[.bool false] n) 4)).heap.size = w1.heap.size + 1 := by simp
 generalize w1.alloc (.cells (madeCells #[.bool false] n) 4) = w2 at *
 rw [s1] at h2
 have h3 := heap_alloc_new w2 (.cells #[.slice a n cap, .slice (some ⟨w.heap.size + 1, 0, none⟩) n n, .slice (some ⟨w.heap.size, 0, none⟩) n n] 103)
 rw [s2, s1] at h3
 exact ⟨h3, (h2.alloc _).drew, (h1'.alloc _).drew, by omega, by omega, by omega⟩
theorem below_drew3 (w : World) (o1 o2 o3 : Obj) : Below w.heap.size w (((w.alloc o1).alloc o2).alloc o3).drew := Below.drew ((((Below.refl w.heap.size w).alloc (Nat.le_refl _) _).alloc (by simp) _).alloc (by simp; omega) _)
set_option maxRecDepth 20000 in
set_option maxHeartbeats 2000000 in
theorem newSearch_c (a : Option Addr) (n cap : Nat) (w : World) (hm : n ≤ 100000) :
   Calls Tryz.prog 46 #[.slice a n cap] w fun e w' => ∃ S G X, e = .returned (.pointer (some ⟨S, 0, none⟩)) ∧ Sr w' S G X a n cap (fun _ => false) (fun i => i + 1) ∧ (w.heap.size ≤ S ∧ w.heap.size ≤ G ∧ w.heap.size ≤ X) ∧ Below w.heap.size w w' := by
 have hk1 := run_make_row' (P := Tryz.prog) 100 4 (.bool false) 1 Tryz.underlying100 infoBo rfl .i64 .i64 n (by omega) (by omega)
 have hk2 := run_make_row' (P := Tryz.prog) 101 3 (.int .i64 0) 8 Tryz.underlying101 infoIn rfl .i64 .i64 n (by omega) (by omega)
 go_enter Tryz.func46, Tryz.ntmps46
 go_wp2
 go_region
 · have HS0 := hid (sr_made1 w a n cap)
   have HB0 := hid (below_drew3 w (.cells (madeCells #[.bool false] n) 4) (.cells (madeCells #[.int .i64 0] n) 3) (.cells #[.slice a n cap, .slice (some ⟨w.heap.size, 0, none⟩) n n, .slice (some ⟨w.heap.size + 1, 0, none⟩) n n] 103))
   go_wp2
   go_loopw [19] (fun i wr => ∃ m : Nat, m ≤ n ∧ i = .int .i64 m ∧ Hid (Sr wr (w.heap.size + 1 + 1) (w.heap.size) (w.heap.size + 1) a n cap (fun _ => false) (fun i => if i < m then i + 1 else 0)) ∧ Hid (Below w.heap.size w wr)) (fun i _ => (n - intOf i).toNat)
   case atStart => exact ⟨0, by omega, rfl, hid (by simpa using HS0.out), HB0⟩
   case round =>
     obtain ⟨m, hm2, rfl, HS, HB⟩ := hrel
     obtain ⟨c0, c1, c2⟩ := HS.out.cells
     by_cases hlt : m < n
     · have hltI : (m : Int) < n := by omega
       have k0 := HS.out.2.2.1.cell hlt
       have k1 := HS.out.2.2.1.frozen m
       have HS9 := hid (HS.out.setX (nx' := fun i => if i < m + 1 then i + 1 else 0) m (m + 1) (fun j hj => by
         by_cases q : j = m
         · subst q; simp
         · simp only [q, if_false]; by_cases q2 : j < m
           · simp [q2, show j < m + 1 by omega]
           · simp [q2, show ¬ j < m + 1 by omega]))
       have HB9 := hid (HB.out.setCell (p := ⟨w.heap.size + 1, m, none⟩) (by simp) (.int .i64 ((m + 1 : Nat) : Int)))
       clear HS
       simp only [Int.natCast_add, Int.natCast_one] at HS9 HB9
       go_wp2
       go_roundw
       case rel => exact ⟨m + 1, by omega, by go_num, HS9, HB9⟩
       case measure => simp [intOf]; omega
     · have em : m = n := by omega
       subst em
       have hge : ¬ (m : Int) < m := by omega
       go_wp2
       go_ret
       exact ⟨_, rfl, _, _, HS.out.congr (fun _ _ => rfl) (fun j hj => by simp [hj]), ⟨by omega, by omega, by omega⟩, HB.out⟩
 · have HS0 := hid (sr_made2 w a n cap)
   have HB0 := hid (below_drew3 w (.cells (madeCells #[.int .i64 0] n) 3) (.cells (madeCells #[.bool false] n) 4) (.cells #[.slice a n cap, .slice (some ⟨w.heap.size + 1, 0, none⟩) n n, .slice (some ⟨w.heap.size, 0, none⟩) n n] 103))
   go_wp2
   go_loopw [19] (fun i wr => ∃ m : Nat, m ≤ n ∧ i = .int .i64 m ∧ Hid (Sr wr (w.heap.size + 1 + 1) (w.heap.size + 1) (w.heap.size) a n cap (fun _ => false) (fun i => if i < m then i + 1 else 0)) ∧ Hid (Below w.heap.size w wr)) (fun i _ => (n - intOf i).toNat)
   case atStart => exact ⟨0, by omega, rfl, hid (by simpa using HS0.out), HB0⟩
   case round =>
     obtain ⟨m, hm2, rfl, HS, HB⟩ := hrel
     obtain ⟨c0, c1, c2⟩ := HS.out.cells
     by_cases hlt : m < n
     · have hltI : (m : Int) < n := by omega
       have k0 := HS.out.2.2.1.cell hlt
       have k1 := HS.out.2.2.1.frozen m
       have HS9 := hid (HS.out.setX (nx' := fun i => if i < m + 1 then i + 1 else 0) m (m + 1) (fun j hj => by
         by_cases q : j = m
         · subst q; simp
         · simp only [q, if_false]; by_cases q2 : j < m
           · simp [q2, show j < m + 1 by omega]
           · simp [q2, show ¬ j < m + 1 by omega]))
       have HB9 := hid (HB.out.setCell (p := ⟨w.heap.size, m, none⟩) (by simp) (.int .i64 ((m + 1 : Nat) : Int)))
       clear HS
       simp only [Int.natCast_add, Int.natCast_one] at HS9 HB9
       go_wp2
       go_roundw
       case rel => exact ⟨m + 1, by omega, by go_num, HS9, HB9⟩
       case measure => simp [intOf]; omega
     · have em : m = n := by omega
       subst em
       have hge : ¬ (m : Int) < m := by omega
       go_wp2
       go_ret
       exact ⟨_, rfl, _, _, HS.out.congr (fun _ _ => rfl) (fun j hj => by simp [hj]), ⟨by omega, by omega, by omega⟩, HB.out⟩
set_option maxRecDepth 20000 in
set_option maxHeartbeats 1000000 in
theorem paired2_c (x : Rec) (f : Int) (O : Nat) (w : World) (hO : w.cell? ⟨O, 0, none⟩ = some (.int .u32 f)) :
   Calls Tryz.prog 50 #[x.val, .pointer (some ⟨O, 0, none⟩)] w fun e w' => e = .returned (.bool (touchF x f)) ∧ Below w.heap.size w w' := by
 have hb : Below w.heap.size w (w.alloc (.cells x.cells.toArray 37)) := (Below.refl _ _).alloc (Nat.le_refl _) _
 have hx := heap_alloc_new w (.cells x.cells.toArray 37)
 obtain ⟨y0, y1, y2, y3, y4, y5, y6, y7, y8⟩ := rec_box hx
 have hO1 : (w.alloc (.cells #[.int .u8 x.k, .int .u32 x.fid, .int .u32 x.dir, .string x.nm, .int .u32 x.to, .string x.nm2, .int .u16 x.md, .string x.dt, .int .u64 x.sn] 37)).cell? ⟨O, 0, none⟩ = some (.int .u32 f) := cell_later hb hO
 have HB := hid hb
 unfold Rec.val
 clear hx hb
 go_enter Tryz.func50, Tryz.ntmps50
 go_wp2_with (go_at_call 13; refine (touches_c x f _).mono ?_; rintro _ w1 ⟨rfl, hb1⟩)
 go_ret
 exact ⟨rfl, HB.out.trans (hb1.mono HB.out.size)⟩
def outF (l : List Rec) (g : Nat → Bool) (i j m : Nat) (f : Int) : Nat → Bool := fun k => g k || k == i || k == j || (decide (i < k) && decide (k < m) && touchF (l.getD k Rec.no) f)
set_option maxRecDepth 20000 in
set_option maxHeartbeats 2000000 in
theorem takeOut_c (B : Nat) (S G X O : Nat) (a : Option Addr) (cap : Nat) (l : List Rec) (g : Nat → Bool) (nx : Nat → Nat) (i j : Nat) (f : Int) (w : World) (h : Sr w S G X a l.length cap g nx) (hm : l.length ≤ 100000) (hl : ∀ w', Below B w w' → IsL w' a l) (hij : i < j) (hj : j < l.length) (hBG : B ≤ G) (hBw : B ≤ w.heap.size) (hO : w.heap[O]? = some (.cells #[.int .u32 f] 31 (0, 0))) (hOG : O ≠ G) (P : Nat) (o : Obj) (hP : w.heap[P]? = some o) (hPG : P ≠ G) :
   Calls Tryz.prog 49 #[.pointer (some ⟨S, 0, none⟩), .int .i64 i, .int .i64 j, .func (.func 50) #[] #[.pointer (some ⟨O, 0, none⟩)]] w fun e w' => e = .returned (.tuple #[]) ∧ Sr w' S G X a l.length cap (outF l g i j j f) nx ∧ Fr B P o w w' := by
 have HP0 := hid (Fr.start hBw hP)
 have HL := hid hl
 have HS := hid h
 have HO := hid hO
 obtain ⟨n, hn⟩ : ∃ n, n = l.length := ⟨_, rfl⟩
 rw [← hn] at hm hj h HS ⊢
 have HN := hid hn
 obtain ⟨c0, c1, c2⟩ := h.cells
 have k0 := h.2.1.cell (show i < n by omega)
 have k1 := h.2.1.cell hj
 have k2 := h.2.1.frozen i
 have k3 := h.2.1.frozen j
 clear h hl hO hn hP
 have hI1 : (i : Int) < n := by omega
 have hI2 : (j : Int) < n := by omega
 go_enter Tryz.func49, Tryz.ntmps49
 go_wp2
 go_region
 have HS1 : Hid (Sr ((w.setCell ⟨G, i, none⟩ (.bool true)).setCell ⟨G, j, none⟩ (.bool true)).drew S G X a n cap (outF l g i j (i + 1) f) nx) :=
   hid (show Sr _ S G X a n cap _ nx from Sr.setG (HS.out.setG (g' := fun k => if k = i then true else g k) i (fun _ _ => rfl)) j (fun k hk => by
     unfold outF
     by_cases q1 : k = j
     · simp [q1]
     · by_cases q2 : k = i
       · simp [q2]
       · have e1 : (k == i) = false := by simpa using q2
         have e2 : (k == j) = false := by simpa using q1
         have e3 : (decide (i < k) && decide (k < i + 1)) = false := by simp; omega
         rw [e1, e2, e3]; simp [q1, q2]))
 have HB1 : Hid (Fr B P o w ((w.setCell ⟨G, i, none⟩ (.bool true)).setCell ⟨G, j, none⟩ (.bool true)).drew) := hid ((HP0.out.set hBG hPG _).set hBG hPG _).drew
 have HO1 : Hid (((w.setCell ⟨G, i, none⟩ (.bool true)).setCell ⟨G, j, none⟩ (.bool true)).drew.heap[O]? = some (.cells #[.int .u32 f] 31 (0, 0))) :=
   hid (show ((w.setCell ⟨G, i, none⟩ (.bool true)).setCell ⟨G, j, none⟩ (.bool true)).heap[O]? = _ from ((heap_setCell_other _ _ _ _ hOG).trans (heap_setCell_other _ _ _ _ hOG)).trans HO.out)
 clear HS HO c0 c1 c2 k0 k1 k2 k3 HP0
 generalize ((w.setCell ⟨G, i, none⟩ (.bool true)).setCell ⟨G, j, none⟩ (.bool true)).drew = w1 at *
 go_wp2
 go_loopw [8] (fun v wr => ∃ m : Nat, i < m ∧ m ≤ j ∧ v = .int .i64 m ∧ Hid (Sr wr S G X a n cap (outF l g i j m f) nx) ∧ Hid (Fr B P o w wr) ∧ Hid (wr.heap[O]? = some (.cells #[.int .u32 f] 31 (0, 0)))) (fun v _ => (j - intOf v).toNat)
 case atStart => exact ⟨i + 1, by omega, by omega, by go_num, HS1, HB1, HO1⟩
 case round =>
   clear HS1 HB1 HO1
   obtain ⟨m, hm2, hm3, rfl, HS, HB, HO⟩ := hrel
   obtain ⟨c0, c1, c2⟩ := HS.out.cells
   by_cases hlt : m < j
   · have hltI : (m : Int) < j := by omega
     have hltN : (m : Int) < n := by omega
     have hil := HL.out wr HB.out.1
     obtain ⟨b, off, rfl, hc⟩ := hil.2.2 (by rw [← HN.out]; omega)
     have hr := hc m (by rw [← HN.out]; omega)
     have hstep : ∀ k, outF l g i j (m + 1) f k = if k = m then (outF l g i j m f m || touchF (l.getD m Rec.no) f) else outF l g i j m f k := fun k => by
       unfold outF
       by_cases q : k = m
       · subst q; simp [hm2]
       · rw [if_neg q]
         by_cases q2 : k < m
         · simp [q2, show k < m + 1 by omega]
         · simp [q2, show ¬ k < m + 1 by omega]
     have HT := hid hstep
     clear hstep hc hil
     have k9 := HS.out.2.1.cell (show m < n by omega)
     generalize l.getD m Rec.no = x at *
     have k0 : wr.cell? ⟨b, off + m * 9, none⟩ = some (.int .u8 x.k) := hr 0 _ rfl
     have k1 : wr.cell? ⟨b, off + m * 9 + 1, none⟩ = some (.int .u32 x.fid) := hr 1 _ rfl
     have k2 : wr.cell? ⟨b, off + m * 9 + 2, none⟩ = some (.int .u32 x.dir) := hr 2 _ rfl
     have k3 : wr.cell? ⟨b, off + m * 9 + 3, none⟩ = some (.string x.nm) := hr 3 _ rfl
     have k4 : wr.cell? ⟨b, off + m * 9 + 4, none⟩ = some (.int .u32 x.to) := hr 4 _ rfl
     have k5 : wr.cell? ⟨b, off + m * 9 + 5, none⟩ = some (.string x.nm2) := hr 5 _ rfl
     have k6 : wr.cell? ⟨b, off + m * 9 + 6, none⟩ = some (.int .u16 x.md) := hr 6 _ rfl
     have k7 : wr.cell? ⟨b, off + m * 9 + 7, none⟩ = some (.string x.dt) := hr 7 _ rfl
     have k8 : wr.cell? ⟨b, off + m * 9 + 8, none⟩ = some (.int .u64 x.sn) := hr 8 _ rfl
     clear hr
     go_wp2_with fail
     refine (paired2_c x f O wr (by rw [cell_of_row _ _ _ _ _ _ HO.out]; rfl)).mono ?_
     rintro _ w2 ⟨rfl, hb2⟩
     have HB2 := hid (HB.out.on hb2)
     have HS2 := hid (HS.out.later hb2)
     have HO2 := hid ((hb2.block _ (lt_blkR HO.out)).trans HO.out)
     clear k0 k1 k2 k3 k4 k5 k6 k7 k8 c0 c1 c2 hb2 k9 HS HO
     obtain ⟨c0, c1, c2⟩ := HS2.out.cells
     have k9 := HS2.out.2.1.cell (show m < n by omega)
     have k8 := HS2.out.2.1.frozen m
     cases ht : touchF x f with
     | false =>
       rw [ht] at HT
       have HS3 := hid (HS2.out.congr (g' := outF l g i j (m + 1) f) (fun k hk => by rw [HT.out k]; by_cases q : k = m <;> simp [q]) (fun _ _ => rfl))
       clear HT HS2
       go_wp2
       go_roundw
       case rel => exact ⟨m + 1, by omega, by omega, by go_num, HS3, HB2, HO2⟩
       case measure => simp [intOf]; omega
     | true =>
       rw [ht] at HT
       have HS3 := hid (HS2.out.setG (g' := outF l g i j (m + 1) f) m (fun k hk => by rw [HT.out k]; by_cases q : k = m <;> simp [q]))
       have HB3 := hid (HB2.out.set (p := ⟨G, m, none⟩) hBG hPG (.bool true))
       have HO3 := hid ((heap_setCell_other w2 ⟨G, m, none⟩ O (.bool true) hOG).trans HO2.out)
       clear HT HS2 HB2 HO2
       go_wp2
       go_roundw
       case rel => exact ⟨m + 1, by omega, by omega, by go_num, HS3, HB3, HO3⟩
       case measure => simp [intOf]; omega
   · have em : m = j := by omega
     subst em
     have hge : ¬ (m : Int) < m := by omega
     go_wp2
     go_end0
     exact ⟨rfl, HS.out, HB.out⟩
def scanF (l : List Rec) (g : Nat → Bool) (m : Rec) : Nat → Nat → Nat × Bool
 | 0, j => (j, false)
 | f + 1, j => if g j then scanF l g m f (j + 1) else if unmakesF (l.getD j Rec.no) m then (j, true) else if wayF (l.getD j Rec.no) m then (j, false) else scanF l g m f (j + 1)
def scanG (l : List Rec) (g : Nat → Bool) (m : Rec) (j : Nat) : Nat × Bool := scanF l g m (l.length - j) j
theorem scanG_lt {l : List Rec} {g : Nat → Bool} {m : Rec} {j : Nat} (h : j < l.length) : scanG l g m j = if g j then scanG l g m (j + 1) else if unmakesF (l.getD j Rec.no) m then (j, true) else if wayF (l.getD j Rec.no) m then (j, false) else scanG l g m (j + 1) := by
 unfold scanG
 rw [show l.length - j = (l.length - (j + 1)) + 1 by omega]
 rfl
theorem scanG_ge {l : List Rec} {g : Nat → Bool} {m : Rec} {j : Nat} (h : ¬ j < l.length) : scanG l g m j = (j, false) := by
 unfold scanG
 rw [show l.length - j = 0 by omega]
 rfl
def setN (nx : Nat → Nat) (i v : Nat) : Nat → Nat := fun k => if k = i then v else nx k
def pairF (l : List Rec) (g : Nat → Bool) : Nat → Nat → (Nat → Nat) → Option (Nat × Nat) × (Nat → Nat)
 | 0, _, nx => (none, nx)
 | f + 1, i, nx => if g i || !makesF (l.getD i Rec.no).k then pairF l g f (i + 1) nx else
   if (scanG l g (l.getD i Rec.no) (nx i)).2 then (some (i, (scanG l g (l.getD i Rec.no) (nx i)).1), setN nx i (scanG l g (l.getD i Rec.no) (nx i)).1)
   else pairF l g f (i + 1) (setN nx i (scanG l g (l.getD i Rec.no) (nx i)).1)
def pairG (l : List Rec) (g : Nat → Bool) (i : Nat) (nx : Nat → Nat) : Option (Nat × Nat) × (Nat → Nat) := pairF l g (l.length - i) i nx
theorem pairG_lt {l : List Rec} {g : Nat → Bool} {i : Nat} {nx : Nat → Nat} (h : i < l.length) : pairG l g i nx = if g i || !makesF (l.getD i Rec.no).k then pairG l g (i + 1) nx else
   if (scanG l g (l.getD i Rec.no) (nx i)).2 then (some (i, (scanG l g (l.getD i Rec.no) (nx i)).1), setN nx i (scanG l g (l.getD i Rec.no) (nx i)).1)
   else pairG l g (i + 1) (setN nx i (scanG l g (l.getD i Rec.no) (nx i)).1) := by
 unfold pairG
 rw [show l.length - i = (l.length - (i + 1)) + 1 by omega]
 rfl
theorem pairG_ge {l : List Rec} {g : Nat → Bool} {i : Nat} {nx : Nat → Nat} (h : ¬ i < l.length) : pairG l g i nx = (none, nx) := by
 unfold pairG
 rw [show l.length - i = 0 by omega]
 rfl
def pairV : Option (Nat × Nat) → Value
 | some (i, j) => .tuple #[.int .i64 i, .int .i64 j, .bool true]
 | none => .tuple #[.int .i64 0, .int .i64 0, .bool false]
theorem setN_same (nx : Nat → Nat) (i : Nat) : setN nx i (nx i) = nx := by funext k; unfold setN; by_cases q : k = i <;> simp [q]
theorem setN_at (nx : Nat → Nat) (i v : Nat) : setN nx i v i = v := by simp [setN]
theorem IsL.at {w : World} {b off : Nat} {l : List Rec} {i : Nat} (h : IsL w (some ⟨b, off, none⟩) l) (hi : i < l.length) : RcAt w b (off + i * 9) (l.getD i Rec.no) := by
 obtain ⟨b', off', e, hc⟩ := h.2.2 (by omega)
 cases e
 exact hc i hi
set_option maxRecDepth 20000 in
set_option maxHeartbeats 4000000 in
theorem pair_c (B : Nat) (S G X : Nat) (a : Option Addr) (cap : Nat) (l : List Rec) (g : Nat → Bool) (nx0 : Nat → Nat) (w : World) (h : Sr w S G X a l.length cap g nx0) (hm : l.length ≤ 100000) (hl : ∀ w', Below B w w' → IsL w' a l) (hBX : B ≤ X) (hBw : B ≤ w.heap.size) (P : Nat) (o : Obj) (hP : w.heap[P]? = some o) (hPX : P ≠ X) :
   Calls Tryz.prog 47 #[.pointer (some ⟨S, 0, none⟩)] w fun e w' => e = .returned (pairV (pairG l g 0 nx0).1) ∧ Sr w' S G X a l.length cap g (pairG l g 0 nx0).2 ∧ Fr B P o w w' := by
 have HP0 := hid (Fr.start hBw hP)
 have HL := hid hl
 have HS := hid h
 obtain ⟨R, hR⟩ : ∃ R, R = pairG l g 0 nx0 := ⟨_, rfl⟩
 rw [← hR]
 have HR := hid hR
 obtain ⟨n, hn⟩ : ∃ n, n = l.length := ⟨_, rfl⟩
 rw [← hn] at hm h HS ⊢
 have HN := hid hn
 obtain ⟨c0, c1, c2⟩ := h.cells
 clear h hl hn hR hP
 go_enter Tryz.func47, Tryz.ntmps47
 go_wp2
 go_step3
 go_wp2
 go_step3
 go_wp2
 go_loopg [13] n (fun k v wr => ∃ (m : Nat) (nx : Nat → Nat), m + k = n ∧ v = .int .i64 m ∧ Hid (Sr wr S G X a n cap g nx) ∧ Hid (Fr B P o w wr) ∧ Hid (pairG l g m nx = R))
 case atStart => exact ⟨0, nx0, by omega, rfl, HS, HP0, hid HR.out.symm⟩
 case round =>
   clear HS c0 c1 c2 HP0
   obtain ⟨m, nx, hm2, rfl, HS, HB, HP⟩ := hrel
   obtain ⟨c0, c1, c2⟩ := HS.out.cells
   by_cases hlt : m < n
   · have hltI : (m : Int) < n := by omega
     have hil := HL.out wr HB.out.1
     obtain ⟨b, off, rfl, hc⟩ := hil.2.2 (by rw [← HN.out]; omega)
     have hr := hc m (by rw [← HN.out]; omega)
     have HPm := hid (pairG_lt (l := l) (g := g) (nx := nx) (show m < l.length by rw [← HN.out]; exact hlt))
     rw [HP.out] at HPm
     clear hc hil
     have k0 : wr.cell? ⟨b, off + m * 9, none⟩ = some (.int .u8 (l.getD m Rec.no).k) := hr 0 _ rfl
     have k1 := HS.out.2.1.cell hlt
     have HRm := hid (fun W (hW : Below B w W) => (IsL.at (HL.out W hW) (i := m) (by rw [← HN.out]; exact hlt)))
     clear hr
     generalize hx : l.getD m Rec.no = x at *
     cases hg : g m with
     | true =>
       rw [hg] at HPm k1
       have HP2 : Hid (pairG l g (m + 1) nx = R) := hid (by have := HPm.out; simpa using this.symm)
       clear HPm HP hg
       go_wp2
       go_roundg (gk - 1)
       case measure => omega
       case rel => exact ⟨m + 1, nx, by omega, by go_num, HS, HB, HP2⟩
     | false =>
       rw [hg] at HPm k1
       cases hk : makesF x.k with
       | false =>
         rw [hk] at HPm
         have HP2 : Hid (pairG l g (m + 1) nx = R) := hid (by have := HPm.out; simpa using this.symm)
         have MC := hid (makes_c x.k wr)
         rw [hk] at MC
         clear HPm HP hg hk
         go_wp2_with (go_at_call 79; refine MC.out.mono ?_; rintro _ _ ⟨rfl, rfl⟩)
         go_roundg (gk - 1)
         case measure => omega
         case rel => exact ⟨m + 1, nx, by omega, by go_num, HS, HB, HP2⟩
       | true =>
         rw [hk] at HPm
         have MC := hid (makes_c x.k wr)
         rw [hk] at MC
         clear HP hg hk
         go_wp2_with (go_at_call 79; refine MC.out.mono ?_; rintro _ _ ⟨rfl, rfl⟩)
         clear MC c0 c1 c2 k0 k1
         obtain ⟨g1, hg1⟩ : ∃ g1, g1 = gk := ⟨_, rfl⟩
         have hm3 : m + g1 = n := by omega
         go_loopg [] (n + 1 - nx m) (fun k2 wy => ∃ (j : Nat), k2 = n + 1 - j ∧ Hid (Sr wy S G X (some ⟨b, off, none⟩) n cap g (setN nx m j)) ∧ Hid (Fr B P o w wy) ∧ Hid (scanG l g x j = scanG l g x (nx m)))
         case atStart => exact ⟨nx m, rfl, by rw [setN_same]; exact HS, HB, hid rfl⟩
         case round =>
           clear HS HB hg1
           obtain ⟨j, rfl, HS, HB, HC⟩ := hrel
           obtain ⟨c0, c1, c2⟩ := HS.out.cells
           have k9 := HS.out.2.2.1.cell hlt
           have k8 := HS.out.2.2.1.frozen m
           rw [setN_at] at k9
           by_cases hj : j < n
           · have hjI : (j : Int) < n := by omega
             have HCj := hid (scanG_lt (l := l) (g := g) (m := x) (j := j) (by rw [← HN.out]; exact hj))
             rw [HC.out] at HCj
             have k7 := HS.out.2.1.cell hj
             have HRj := hid (fun W (hW : Below B w W) => (IsL.at (HL.out W hW) (i := j) (by rw [← HN.out]; exact hj)))
             generalize hy : l.getD j Rec.no = y at *
             have hset : ∀ W, Sr W S G X (some ⟨b, off, none⟩) n cap g (setN nx m j) → Sr (W.setCell ⟨X, m, none⟩ (.int .i64 (j + 1))) S G X (some ⟨b, off, none⟩) n cap g (setN nx m (j + 1)) := fun W hW => hW.setX m (j + 1) (fun k hk => by unfold setN; by_cases q : k = m <;> simp [q])
             have HSET := hid hset
             clear hset HC
             cases hgj : g j with
             | true =>
               rw [hgj] at HCj k7
               have HC2 : Hid (scanG l g x (j + 1) = scanG l g x (nx m)) := hid (by have := HCj.out; simpa using this.symm)
               have HS3 := hid (HSET.out _ HS.out)
               have HB3 := hid (HB.out.set (p := ⟨X, m, none⟩) hBX hPX (.int .i64 ((j : Int) + 1)))
               clear HCj HSET HRj hgj
               go_wp2
               go_region
               go_wp2
               go_roundg (n + 1 - (j + 1))
               case measure => omega
               case rel => exact ⟨j + 1, rfl, HS3, hid HB3.out.drew, HC2⟩
             | false =>
               rw [hgj] at HCj k7
               have UC := hid (unmakes_c y x b (off + j * 9) b (off + m * 9) wr.drew (HRj.out _ HB.out.drew.1) (HRm.out _ HB.out.drew.1))
               have HB1 := hid HB.out.drew
               have HS1 := hid (show Sr wr.drew S G X (some ⟨b, off, none⟩) n cap g (setN nx m j) from HS.out)
               clear hgj HB
               cases hu : unmakesF y x with
               | true =>
                 rw [hu] at HCj UC
                 have hsc : scanG l g x (nx m) = (j, true) := by have := HCj.out; simpa using this
                 rw [hsc] at HPm
                 have HR2 : Hid (R = (some (m, j), setN nx m j)) := hid (by have := HPm.out; simpa using this)
                 clear HCj HPm hsc hu
                 go_wp2
                 go_region
                 go_wp2_with (go_at_call 80; refine UC.out.mono ?_; rintro _ w2 ⟨rfl, hb2⟩)
                 try rw [Exit.noGoto_ret]
                 go_ret3
                 refine ⟨?_, ?_, HB1.out.on hb2⟩
                 · rw [HR2.out]; rfl
                 · rw [HR2.out]; exact HS1.out.later hb2
               | false =>
                 rw [hu] at HCj UC
                 cases hv : wayF y x with
                 | true =>
                   rw [hv] at HCj
                   have hsc : scanG l g x (nx m) = (j, false) := by have := HCj.out; simpa using this
                   rw [hsc] at HPm
                   have HP2 : Hid (pairG l g (m + 1) (setN nx m j) = R) := hid (by have := HPm.out; simpa using this.symm)
                   clear HCj HPm hsc hu
                   go_wp2
                   go_region
                   go_wp2_with (first
                     | (go_at_call 81; refine WC.out.mono ?_; rintro _ w3 ⟨rfl, hb3⟩)
                     | (go_at_call 80; refine UC.out.mono ?_; rintro _ w2 ⟨rfl, hb2⟩; have HB2 := hid (HB1.out.on hb2); have WC := hid (way_c y x b (off + j * 9) b (off + m * 9) w2 (HRj.out _ HB2.out.1) (HRm.out _ HB2.out.1)); rw [hv] at WC; have HS2 := hid (HS1.out.later hb2); obtain ⟨d0, d1, d2⟩ := HS2.out.cells; have HB0 := hid hb2; clear hb2))
                   go_roundg (g1 - 1)
                   case measure => omega
                   case rel => exact ⟨m + 1, _, by omega, by go_num, hid (HS2.out.later hb3), hid (HB2.out.on hb3), HP2⟩
                 | false =>
                   rw [hv] at HCj
                   have HC2 : Hid (scanG l g x (j + 1) = scanG l g x (nx m)) := hid (by have := HCj.out; simpa using this.symm)
                   clear HCj hu
                   go_wp2
                   go_region
                   go_wp2_with (first
                     | (go_at_call 81; refine WC.out.mono ?_; rintro _ w3 ⟨rfl, hb3⟩; have HB3 := hid (HB2.out.on hb3); have HS3 := hid (HS2.out.later hb3); obtain ⟨e0, e1, e2⟩ := HS3.out.cells; have q9 := HS3.out.2.2.1.cell hlt; have q8 := HS3.out.2.2.1.frozen m; rw [setN_at] at q9; clear hb3)
                     | (go_at_call 80; refine UC.out.mono ?_; rintro _ w2 ⟨rfl, hb2⟩; have HB2 := hid (HB1.out.on hb2); have WC := hid (way_c y x b (off + j * 9) b (off + m * 9) w2 (HRj.out _ HB2.out.1) (HRm.out _ HB2.out.1)); rw [hv] at WC; have HS2 := hid (HS1.out.later hb2); obtain ⟨d0, d1, d2⟩ := HS2.out.cells; have HB0 := hid hb2; clear hb2))
                   go_roundg (n + 1 - (j + 1))
                   case measure => omega
                   case rel => exact ⟨j + 1, rfl, hid (HSET.out _ HS3.out), hid (HB3.out.set (p := ⟨X, m, none⟩) hBX hPX _), HC2⟩
           · have hge : ¬ (j : Int) < n := by omega
             have HCj := hid (scanG_ge (l := l) (g := g) (m := x) (j := j) (by rw [← HN.out]; exact hj))
             rw [HC.out] at HCj
             rw [HCj.out] at HPm
             have HP2 : Hid (pairG l g (m + 1) (setN nx m j) = R) := hid (by have := HPm.out; simpa using this.symm)
             clear HPm HCj HC
             go_wp2
             go_region
             go_wp2
             go_roundg (g1 - 1)
             case measure => omega
             case rel => exact ⟨m + 1, _, by omega, by go_num, HS, hid HB.out.drew, HP2⟩
   · have em : m = n := by omega
     subst em
     have hge : ¬ (m : Int) < m := by omega
     have HE := hid (pairG_ge (l := l) (g := g) (i := m) (nx := nx) (by rw [← HN.out]; omega))
     rw [HP.out] at HE
     clear HR HP
     go_wp2
     try rw [Exit.noGoto_ret]
     go_ret3
     refine ⟨?_, ?_, HB.out⟩
     · rw [HE.out]; rfl
     · rw [HE.out]; exact HS.out
end Go.Proofs.YtihgiemgcmpmmaaGreat
