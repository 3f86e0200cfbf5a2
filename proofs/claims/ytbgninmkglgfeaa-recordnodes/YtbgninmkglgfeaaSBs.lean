/-
  Stamps in memory; rightStamp, EqualFunc, rightSnapshot of the package record; what bytes say as stamps, as a snapshot, plainly.
-/
import Derived.Test.YtbgninmkglgfeaaSMt
namespace Go.Proofs.Ytbgninmkglgfeaa
open Go.RowKit Go.ChangeShapes Go.WideShapes Go.ChangeAt Go.Maps
set_option linter.unusedVariables false
set_option linter.unusedSimpArgs false
set_option maxRecDepth 100000
/-- A stamp: an object, its version, who made it. -/
structure St where
  fid : Int
  ver : Int
  wr : Int
def St.no : St := ⟨0, 0, 0⟩
def St.cells (x : St) : List Value := [.int .u32 x.fid, .int .u64 x.ver, .int .u8 x.wr]
def St.val (x : St) : Value := .agg #[.int .u32 x.fid, .int .u64 x.ver, .int .u8 x.wr]
def St.Wf (x : St) : Prop := (0 ≤ x.fid ∧ x.fid < 4294967296) ∧ (0 ≤ x.ver ∧ x.ver < 18446744073709551616) ∧ (0 ≤ x.wr ∧ x.wr < 256)
def StC (w : World) (b o : Nat) (x : St) : Prop := w.cell? ⟨b, o, none⟩ = some (.int .u32 x.fid) ∧ w.cell? ⟨b, o + 1, none⟩ = some (.int .u64 x.ver) ∧ w.cell? ⟨b, o + 2, none⟩ = some (.int .u8 x.wr)
/-- Stamps that lie in memory. -/
def IsSs (w : World) (a : Option Addr) (l : List St) : Prop :=
  l.length ≤ maxLen ∧ (∀ x ∈ l, x.Wf) ∧ (0 < l.length → ∃ b off, a = some ⟨b, off, none⟩ ∧ ∀ i, i < l.length → StC w b (off + i * 3) (l.getD i St.no))
theorem IsSs.later {w w' : World} {a : Option Addr} {l : List St} (h : IsSs w a l) (hb : Below w.heap.size w w') : IsSs w' a l := by
  obtain ⟨h1, h2, h3⟩ := h
  refine ⟨h1, h2, fun hp => ?_⟩
  obtain ⟨b, off, e, hc⟩ := h3 hp
  exact ⟨b, off, e, fun i hi => ⟨cell_later hb (hc i hi).1, cell_later hb (hc i hi).2.1, cell_later hb (hc i hi).2.2⟩⟩
theorem IsSs.at {w : World} {b off : Nat} {l : List St} {i : Nat} (h : IsSs w (some ⟨b, off, none⟩) l) (hi : i < l.length) : StC w b (off + i * 3) (l.getD i St.no) := by
  obtain ⟨b', off', e, hc⟩ := h.2.2 (by omega)
  cases e
  exact hc i hi
theorem IsSs.wf {w : World} {a : Option Addr} {l : List St} (h : IsSs w a l) {i : Nat} (hi : i < l.length) : (l.getD i St.no).Wf := h.2.1 _ (getD_mem l St.no hi)
/-- May a version be that of a node? -/
def stB (x : Nd) (s : St) : Bool := s.fid == x.fid && decide (s.wr ≤ 3)
set_option maxHeartbeats 1000000 in
theorem rightStamp_c (x : Nd) (s : St) (w : World) :
    Calls Try.prog 76 #[x.val, s.val] w fun e w' => e = .returned (.bool (stB x s)) ∧ Below w.heap.size w w' := by
  have b0 := below_1 w (.cells x.cells.toArray 39)
  have h0 := heap_alloc_new w (.cells x.cells.toArray 39)
  have b1 := below_1 (w.alloc (.cells x.cells.toArray 39)) (.cells s.cells.toArray 85)
  have h1 := heap_alloc_new (w.alloc (.cells x.cells.toArray 39)) (.cells s.cells.toArray 85)
  rw [show (w.alloc (.cells x.cells.toArray 39)).heap.size = w.heap.size + 1 by simp] at h1
  have h0' := (b1.block _ (lt_blkR h0)).trans h0
  have BV := hid (b0.trans (b1.mono b0.size))
  have y0 := (nd_cells h0').1
  have z0 : ((w.alloc (.cells x.cells.toArray 39)).alloc (.cells s.cells.toArray 85)).cell? ⟨w.heap.size + 1, 0, none⟩ = some (.int .u32 s.fid) := cell_of_row2 h1 0 rfl
  have z2 : ((w.alloc (.cells x.cells.toArray 39)).alloc (.cells s.cells.toArray 85)).cell? ⟨w.heap.size + 1, 2, none⟩ = some (.int .u8 s.wr) := cell_of_row2 h1 2 rfl
  obtain ⟨nk, hnk⟩ : ∃ nk, nk = stB x s := ⟨_, rfl⟩
  rw [← hnk]
  unfold stB at hnk
  have HE := hid hnk
  clear hnk b0 b1 h0 h1 h0'
  obtain ⟨fid, k, md, ln, da, dc, zs, ka, kc, ks⟩ := x
  obtain ⟨sf, sv, sw⟩ := s
  simp only [Nd.val, Nd.cells, St.val, St.cells] at *
  by_cases q1 : sf = fid
  · have q1B : (sf == fid) = true := by rw [q1]; simp
    by_cases q2 : sw ≤ 3
    · have F : Hid (nk = true) := hid (by rw [HE.out, q1B, decide_eq_true q2]; rfl)
      clear HE q1
      go_enter Try.func76, Try.ntmps76
      go_wp2
      go_ret
      exact ⟨ret_bool' F.out.symm, BV.out⟩
    · have F : Hid (nk = false) := hid (by rw [HE.out, q1B, decide_eq_false q2]; rfl)
      clear HE q1
      go_enter Try.func76, Try.ntmps76
      go_wp2
      go_ret
      exact ⟨ret_bool' F.out.symm, BV.out⟩
  · have q1B : (sf == fid) = false := beq_eq_false_iff_ne.2 q1
    have F : Hid (nk = false) := hid (by rw [HE.out, q1B]; rfl)
    clear HE
    go_enter Try.func76, Try.ntmps76
    go_wp2
    go_ret
    exact ⟨ret_bool' F.out.symm, BV.out⟩
def stTo (ns : List Nd) (ss : List St) : Nat → Bool
  | 0 => true
  | m + 1 => stTo ns ss m && stB (ns.getD m Nd.no) (ss.getD m St.no)
/-- Is there just a version for each node? -/
def stOk (ns : List Nd) (ss : List St) : Bool := decide (ns.length = ss.length) && stTo ns ss ns.length
theorem st_no (ns : List Nd) (ss : List St) (m : Nat) (h : stB (ns.getD m Nd.no) (ss.getD m St.no) = false) : ∀ d, stTo ns ss (m + 1 + d) = false
  | 0 => by simp only [Nat.add_zero, stTo, h, Bool.and_false]
  | d + 1 => by rw [← Nat.add_assoc]; simp only [stTo, st_no ns ss m h d, Bool.false_and]
theorem stTo_no {ns : List Nd} {ss : List St} {m : Nat} (hm : m < ns.length) (h : stB (ns.getD m Nd.no) (ss.getD m St.no) = false) : stTo ns ss ns.length = false := by
  obtain ⟨d, hd⟩ : ∃ d, ns.length = m + 1 + d := ⟨ns.length - (m + 1), by omega⟩
  rw [hd]; exact st_no ns ss m h d
theorem stTo_er (ns : List Nd) (ss : List St) : ∀ m, stTo (ns.map Nd.er) ss m = stTo ns ss m
  | 0 => rfl
  | m + 1 => by
    simp only [stTo, stTo_er ns ss m, getD_er]
    rfl
theorem stOk_er (ns : List Nd) (ss : List St) : stOk (ns.map Nd.er) ss = stOk ns ss := by
  unfold stOk
  rw [List.length_map, stTo_er]
set_option maxHeartbeats 2000000 in
theorem equalSt_c (a b : Option Addr) (ca cb : Nat) (ns : List Nd) (ss : List St) (w : World) (hn : IsNs w a ns) (hs : IsSs w b ss) (hm : ns.length ≤ 100000) (hm' : ss.length ≤ 100000) :
    Calls Try.prog 75 #[.slice a ns.length ca, .slice b ss.length cb, .func (.func 76) #[] #[]] w fun e w' => e = .returned (.bool (stOk ns ss)) ∧ Below w.heap.size w w' := by
  unfold stOk
  by_cases q : ns.length = ss.length
  · have qB : ((ns.length : Int) != (ss.length : Int)) = false := by rw [q]; simp
    rw [decide_eq_true q, Bool.true_and]
    have HN := hid hn
    have HS := hid hs
    have HQ := hid q
    obtain ⟨n, hnn⟩ : ∃ n, n = ns.length := ⟨_, rfl⟩
    have HNN := hid hnn
    rw [← q]
    obtain ⟨R, hR⟩ : ∃ R, R = stTo ns ss ns.length := ⟨_, rfl⟩
    rw [← hR]
    have HR := hid hR
    rw [← hnn] at hm ⊢
    clear hn hs qB q hm' hnn hR
    go_enter Try.func75, Try.ntmps75
    go_wp2
    go_loopg [17] n (fun gk i wr => ∃ m : Nat, m + gk = n ∧ i = .int .i64 m ∧ Hid (Below w.heap.size w wr) ∧ Hid (stTo ns ss m = true))
    case atStart => exact ⟨0, by omega, rfl, hid (Below.refl _ _), hid rfl⟩
    case round =>
      obtain ⟨m, hm2, rfl, HB, HI⟩ := hrel
      by_cases hlt : m < n
      · have hltI : (m : Int) < n := by omega
        have h1 : m < ns.length := by rw [← HNN.out]; exact hlt
        have h2 : m < ss.length := by rw [← HQ.out]; exact h1
        obtain ⟨b1, o1, rfl, _⟩ := HN.out.2.2 (by omega)
        obtain ⟨b2, o2, rfl, _⟩ := HS.out.2.2 (by omega)
        obtain ⟨y0, y1, y2, y3, y4, y5⟩ := ((HN.out.later HB.out).at (i := m) h1).all
        obtain ⟨z0, z1, z2⟩ := (HS.out.later HB.out).at (i := m) h2
        have NO := hid (stTo_no (ss := ss) h1)
        have NX : Hid (stB (ns.getD m Nd.no) (ss.getD m St.no) = true → stTo ns ss (m + 1) = true) := hid (fun h => by simp only [stTo, HI.out, h, Bool.and_self])
        clear h1 h2
        generalize ns.getD m Nd.no = x at *
        generalize ss.getD m St.no = s at *
        have RC := hid (fun W => rightStamp_c x s W)
        have bA := below_1 wr (.cells x.cells.toArray 39)
        have hA := heap_alloc_new wr (.cells x.cells.toArray 39)
        have bB := below_1 (wr.alloc (.cells x.cells.toArray 39)) (.cells s.cells.toArray 85)
        have hB := heap_alloc_new (wr.alloc (.cells x.cells.toArray 39)) (.cells s.cells.toArray 85)
        rw [show (wr.alloc (.cells x.cells.toArray 39)).heap.size = wr.heap.size + 1 by simp] at hB
        have hA2 := (bB.block _ (lt_blkR hA)).trans hA
        obtain ⟨p0, p1, p2, p3, p4, p5⟩ := nd_cells hA2
        have r0 : ((wr.alloc (.cells x.cells.toArray 39)).alloc (.cells s.cells.toArray 85)).cell? ⟨wr.heap.size + 1, 0, none⟩ = some (.int .u32 s.fid) := cell_of_row2 hB 0 rfl
        have r1 : ((wr.alloc (.cells x.cells.toArray 39)).alloc (.cells s.cells.toArray 85)).cell? ⟨wr.heap.size + 1, 1, none⟩ = some (.int .u64 s.ver) := cell_of_row2 hB 1 rfl
        have r2 : ((wr.alloc (.cells x.cells.toArray 39)).alloc (.cells s.cells.toArray 85)).cell? ⟨wr.heap.size + 1, 2, none⟩ = some (.int .u8 s.wr) := cell_of_row2 hB 2 rfl
        have w0 := cell_later bA z0
        have w1 := cell_later bA z1
        have w2 := cell_later bA z2
        have HB2 := hid (HB.out.trans ((bA.trans (bB.mono bA.size)).mono HB.out.size))
        clear bA bB hA hB hA2 z0 z1 z2
        cases qs : stB x s with
        | false =>
          have EF := hid (HR.out.trans (NO.out qs))
          rw [qs] at RC
          clear NO NX qs
          obtain ⟨fid, k, md, ln, da, dc, zs, ka, kc, ks⟩ := x
          obtain ⟨sf, sv, sw⟩ := s
          simp only [Nd.val, Nd.cells, St.val, St.cells] at *
          go_wp2_with (go_at_call 76; refine (RC.out _).mono ?_; rintro _ w9 ⟨rfl, hb9⟩)
          go_ret
          exact ⟨ret_bool' EF.out.symm, HB2.out.trans (hb9.mono HB2.out.size)⟩
        | true =>
          have ET := hid (NX.out qs)
          rw [qs] at RC
          clear NO NX qs
          obtain ⟨fid, k, md, ln, da, dc, zs, ka, kc, ks⟩ := x
          obtain ⟨sf, sv, sw⟩ := s
          simp only [Nd.val, Nd.cells, St.val, St.cells] at *
          go_wp2_with (go_at_call 76; refine (RC.out _).mono ?_; rintro _ w9 ⟨rfl, hb9⟩)
          go_roundg (gk - 1)
          case measure => omega
          case rel => exact ⟨m + 1, by omega, by go_num, hid (HB2.out.trans (hb9.mono HB2.out.size)), ET⟩
      · have hge : ¬ (m : Int) < n := by omega
        have EF : Hid (R = true) := hid (by rw [HR.out, ← HNN.out, show n = m by omega]; exact HI.out)
        go_wp2
        go_ret
        exact ⟨ret_bool' EF.out.symm, HB.out⟩
  · have qB : ((ns.length : Int) != (ss.length : Int)) = true := by rw [bne_iff_ne]; omega
    rw [decide_eq_false q, Bool.false_and]
    clear hn hs
    go_enter Try.func75, Try.ntmps75
    go_wp2
    go_ret
    exact ⟨rfl, Below.refl _ _⟩
/-- Is a snapshot right? -/
def RSnap (ns : List Nd) (ss : List St) : Prop := RightP ns ∧ stOk ns ss = true
theorem rsnap_er (ns : List Nd) (ss : List St) : RSnap (ns.map Nd.er) ss ↔ RSnap ns ss := by
  unfold RSnap
  rw [right_er, stOk_er]
def RsP2 (ns : List Nd) (ss : List St) (w : World) (e : Ending) (w' : World) : Prop := ∃ b, e = .returned (.bool b) ∧ (b = true ↔ RSnap ns ss) ∧ Below w.heap.size w w'
set_option maxHeartbeats 2000000 in
theorem rightSnapshot_c (a b : Option Addr) (ca cb : Nat) (ns : List Nd) (ss : List St) (w : World) (hn : IsNs w a ns) (hs : IsSs w b ss) (hm : ns.length ≤ 100000) (hm' : ss.length ≤ 100000) :
    Calls Try.prog 36 #[.agg #[.slice a ns.length ca, .slice b ss.length cb]] w fun e w' => RsP2 ns ss w e w' := by
  have b0 := below_1 w (.cells #[.slice a ns.length ca, .slice b ss.length cb] 49)
  have h0 := heap_alloc_new w (.cells #[.slice a ns.length ca, .slice b ss.length cb] 49)
  have y0 : (w.alloc (.cells #[.slice a ns.length ca, .slice b ss.length cb] 49)).cell? ⟨w.heap.size, 0, none⟩ = some (.slice a ns.length ca) := cell_of_row2 h0 0 rfl
  have RC := hid (right_c a ca ns _ (hn.later b0) hm)
  have EC := hid (fun W (hW : Below w.heap.size w W) => equalSt_c a b ca cb ns ss W (hn.later hW) (hs.later hW) hm hm')
  have B0 := hid b0
  have H0 := hid h0
  clear b0 h0 hn hs
  unfold RtP at RC
  go_enter Try.func36, Try.ntmps36
  go_upto_region 1 with fail
  generalize (w.alloc (.cells #[.slice a ns.length ca, .slice b ss.length cb] 49)) = V at *
  go_wp2_with (first
    | (go_at_call 74; refine RC.out.mono ?_; rintro _ w1 ⟨b1, rfl, hq1, hb1⟩
       have Q1 := hid hq1
       have B1 := hid (B0.out.trans (hb1.mono B0.out.size))
       have z0 : w1.cell? ⟨w.heap.size, 0, none⟩ = some (.slice a ns.length ca) := cell_of_row2 ((hb1.block _ (lt_blkR H0.out)).trans H0.out) 0 rfl
       have z1 : w1.cell? ⟨w.heap.size, 1, none⟩ = some (.slice b ss.length cb) := cell_of_row2 ((hb1.block _ (lt_blkR H0.out)).trans H0.out) 1 rfl
       clear hq1 hb1)
    | (go_at_call 75; refine (EC.out _ B1.out).mono ?_; rintro _ w2 ⟨rfl, hb2⟩; have B2 := hid (B1.out.trans (hb2.mono B1.out.size)); clear hb2))
  · rename_i hb
    go_ret
    exact ⟨stOk ns ss, rfl, ⟨fun h => ⟨Q1.out.1 hb, h⟩, fun h => h.2⟩, B2.out⟩
  · rename_i hb
    go_ret
    exact ⟨false, rfl, ⟨(fun h => by cases h), fun h => absurd (Q1.out.2 h.1) hb⟩, B1.out⟩
/-- A stamp's bytes; those of stamps; a node's with its length ahead; a snapshot's. -/
def stampB (s : St) : List Int := beF s.fid 4 ++ (beF s.ver 8 ++ beF s.wr 1)
def stampsB (l : List St) : List Int := l.flatMap stampB
def measB (x : Nd) : List Int := beF (nodeB x).length 2 ++ nodeB x
def measuresB (l : List Nd) : List Int := l.flatMap measB
def snapB (ns : List Nd) (ss : List St) : List Int := (beF ns.length 1 ++ measuresB ns) ++ (beF ss.length 1 ++ stampsB ss)
theorem measB_er (x : Nd) : measB x.er = measB x := rfl
theorem measuresB_er (l : List Nd) : measuresB (l.map Nd.er) = measuresB l := by
  unfold measuresB
  rw [List.flatMap_map]
  rfl
theorem snapB_er (ns : List Nd) (ss : List St) : snapB (ns.map Nd.er) ss = snapB ns ss := by
  unfold snapB
  rw [List.length_map, measuresB_er]
def stampP (z : List Int) : Option (St × List Int) := match numP 4 z with
  | none => none
  | some (f, t) => match numP 8 t with
    | none => none
    | some (v, u) => match numP 1 u with
      | none => none
      | some (k, r) => some (⟨f, v, k⟩, r)
def stampsN : Nat → List Int → Option (List St × List Int)
  | 0, z => some ([], z)
  | n + 1, z => match stampP z with
    | none => none
    | some (x, t) => match stampsN n t with
      | none => none
      | some (l, u) => some (x :: l, u)
def stampsP (z : List Int) : Option (List St × List Int) := match numP 1 z with
  | none => none
  | some (m, t) => if m ≤ 40 then stampsN m.toNat t else none
def measP (z : List Int) : Option (Nd × List Int) := match numP 2 z with
  | none => none
  | some (m, t) => if m.toNat ≤ t.length then (match nodeAll (t.take m.toNat) with
    | none => none
    | some x => some (x, t.drop m.toNat)) else none
def measN : Nat → List Int → Option (List Nd × List Int)
  | 0, z => some ([], z)
  | n + 1, z => match measP z with
    | none => none
    | some (x, t) => match measN n t with
      | none => none
      | some (l, u) => some (x :: l, u)
def measuresP (z : List Int) : Option (List Nd × List Int) := match numP 1 z with
  | none => none
  | some (m, t) => if m ≤ 40 then measN m.toNat t else none
/-- What bytes say, as a snapshot, whether it is right or not, and what is left. -/
def snapP (z : List Int) : Option ((List Nd × List St) × List Int) := match measuresP z with
  | none => none
  | some (ns, t) => match stampsP t with
    | none => none
    | some (ss, u) => some ((ns, ss), u)
theorem stampP_stampB (x : St) (rest : List Int) (h : x.Wf) : stampP (stampB x ++ rest) = some (x, rest) := by
  obtain ⟨h1, h2, h3⟩ := h
  unfold stampP stampB
  simp only [List.append_assoc]
  rw [numP_be x.fid 4 _ h1.1 (by simpa using h1.2)]
  simp only
  rw [numP_be x.ver 8 _ h2.1 (by simpa using h2.2)]
  simp only
  rw [numP_be x.wr 1 _ h3.1 (by simpa using h3.2)]
theorem stampsN_B : ∀ (l : List St) (rest : List Int), (∀ x ∈ l, x.Wf) → stampsN l.length (stampsB l ++ rest) = some (l, rest)
  | [], rest, _ => rfl
  | x :: l, rest, h => by
    have e : stampsB (x :: l) ++ rest = stampB x ++ (stampsB l ++ rest) := by unfold stampsB; rw [List.flatMap_cons, List.append_assoc]
    rw [e, List.length_cons, stampsN, stampP_stampB x _ (h x (by simp))]
    simp only
    rw [stampsN_B l rest (fun y hy => h y (by simp [hy]))]
theorem nodeB_len {x : Nd} (hw : x.Wf) (ho : nodeOk x = true) : (nodeB x).length ≤ 2000 := by
  obtain ⟨s1, s2, s3⟩ := node_small ho
  have := kidsB_le s3
  unfold nodeB
  simp only [List.length_append, beF_len, txF_len, Fr.tx_size]
  omega
theorem measP_B {x : Nd} (rest : List Int) (hw : x.Wf) (ho : nodeOk x = true) : measP (measB x ++ rest) = some (x.er, rest) := by
  have hl := nodeB_len hw ho
  unfold measP measB
  rw [List.append_assoc, numP_be ((nodeB x).length : Int) 2 _ (by omega) (by simp; omega)]
  simp only [Int.toNat_natCast]
  rw [if_pos (by rw [List.length_append]; omega), List.take_append_of_le_length (Nat.le_refl _), List.take_of_length_le (Nat.le_refl _), nodeAll_nodeB hw ho, List.drop_append_of_le_length (Nat.le_refl _), List.drop_eq_nil_of_le (Nat.le_refl _), List.nil_append]
theorem measN_B : ∀ (l : List Nd) (rest : List Int), (∀ x ∈ l, x.Wf ∧ nodeOk x = true) → measN l.length (measuresB l ++ rest) = some (l.map Nd.er, rest)
  | [], rest, _ => rfl
  | x :: l, rest, h => by
    have e : measuresB (x :: l) ++ rest = measB x ++ (measuresB l ++ rest) := by unfold measuresB; rw [List.flatMap_cons, List.append_assoc]
    rw [e, List.length_cons, measN, measP_B _ (h x (by simp)).1 (h x (by simp)).2]
    simp only
    rw [measN_B l rest (fun y hy => h y (by simp [hy]))]
    rfl
/-- WHAT IS READ OF A SNAPSHOT's BYTES IS IT. -/
theorem snapP_B {ns : List Nd} {ss : List St} (hn : ∀ x ∈ ns, x.Wf ∧ nodeOk x = true) (hs : ∀ x ∈ ss, x.Wf) (h1 : ns.length ≤ 40) (h2 : ss.length ≤ 40) : snapP (snapB ns ss) = some ((ns.map Nd.er, ss), []) := by
  unfold snapP measuresP snapB
  rw [List.append_assoc, numP_be (ns.length : Int) 1 _ (by omega) (by simp; omega)]
  simp only [Int.toNat_natCast]
  rw [if_pos (by omega), measN_B ns _ hn]
  simp only
  unfold stampsP
  rw [numP_be (ss.length : Int) 1 _ (by omega) (by simp; omega)]
  simp only [Int.toNat_natCast]
  have := stampsN_B ss [] hs
  rw [List.append_nil] at this
  rw [if_pos (by omega), this]
theorem stampP_back {z t : List Int} {x : St} (hi : InB z) (hp : stampP z = some (x, t)) : z = stampB x ++ t ∧ x.Wf ∧ InB t := by
  have h := byt_of hi
  unfold stampP at hp
  rcases h0 : numP 4 z with _ | ⟨f, z1⟩
  · rw [h0] at hp; cases hp
  rw [h0] at hp; simp only at hp
  have e0 := numP_back h h0
  have i1 : Byt z1 := by rw [e0] at h; exact h.tail
  obtain ⟨b0, j1⟩ := numP_in hi h0
  rcases h1 : numP 8 z1 with _ | ⟨v, z2⟩
  · rw [h1] at hp; cases hp
  rw [h1] at hp; simp only at hp
  have e1 := numP_back i1 h1
  have i2 : Byt z2 := by rw [e1] at i1; exact i1.tail
  obtain ⟨b1, j2⟩ := numP_in j1 h1
  rcases h2 : numP 1 z2 with _ | ⟨k, z3⟩
  · rw [h2] at hp; cases hp
  rw [h2] at hp
  simp only [Option.some.injEq, Prod.mk.injEq] at hp
  have e2 := numP_back i2 h2
  obtain ⟨b2, j3⟩ := numP_in j2 h2
  obtain ⟨rfl, rfl⟩ := hp
  refine ⟨?_, ⟨⟨b0.1, by simpa using b0.2⟩, ⟨b1.1, by simpa using b1.2⟩, ⟨b2.1, by simpa using b2.2⟩⟩, j3⟩
  unfold stampB
  simp only [List.append_assoc]
  rw [← e2, ← e1, ← e0]
theorem stampsN_back : ∀ (n : Nat) {z t : List Int} {l : List St}, InB z → stampsN n z = some (l, t) → z = stampsB l ++ t ∧ l.length = n ∧ (∀ x ∈ l, x.Wf) ∧ InB t
  | 0, z, t, l, h, hp => by
    simp only [stampsN, Option.some.injEq, Prod.mk.injEq] at hp
    obtain ⟨rfl, rfl⟩ := hp
    exact ⟨rfl, rfl, (fun x hx => by cases hx), h⟩
  | n + 1, z, t, l, h, hp => by
    rw [stampsN] at hp
    rcases h0 : stampP z with _ | ⟨x, z1⟩
    · rw [h0] at hp; cases hp
    rw [h0] at hp; simp only at hp
    obtain ⟨e0, w0, i1⟩ := stampP_back h h0
    rcases h1 : stampsN n z1 with _ | ⟨l', u⟩
    · rw [h1] at hp; cases hp
    rw [h1] at hp; simp only [Option.some.injEq, Prod.mk.injEq] at hp
    obtain ⟨rfl, rfl⟩ := hp
    obtain ⟨e2, n2, w2, i2⟩ := stampsN_back n i1 h1
    have e3 : stampsB (x :: l') = stampB x ++ stampsB l' := by unfold stampsB; rw [List.flatMap_cons]
    exact ⟨by rw [e3, List.append_assoc, ← e2, ← e0], by rw [List.length_cons, n2], fun y hy => (List.mem_cons.1 hy).elim (fun e => by rw [e]; exact w0) (w2 y), i2⟩
theorem measP_back {z t : List Int} {x : Nd} (hi : InB z) (hp : measP z = some (x, t)) : z = measB x ++ t ∧ nodeOk x = true ∧ x.er = x ∧ x.Wf ∧ InB t := by
  have h := byt_of hi
  unfold measP at hp
  rcases h0 : numP 2 z with _ | ⟨m, z1⟩
  · rw [h0] at hp; cases hp
  rw [h0] at hp; simp only at hp
  have e0 := numP_back h h0
  obtain ⟨b0, j1⟩ := numP_in hi h0
  by_cases q : m.toNat ≤ z1.length
  · rw [if_pos q] at hp
    rcases h1 : nodeAll (z1.take m.toNat) with _ | y
    · rw [h1] at hp; cases hp
    rw [h1] at hp
    simp only [Option.some.injEq, Prod.mk.injEq] at hp
    obtain ⟨rfl, rfl⟩ := hp
    obtain ⟨e1, o1, r1, w1⟩ := nodeAll_back (j1.take _) h1
    refine ⟨?_, o1, r1, w1, j1.drop _⟩
    have hl : ((nodeB y).length : Int) = m := by rw [e1, List.length_take]; omega
    unfold measB
    rw [hl, e1, List.append_assoc, List.take_append_drop, ← e0]
  · rw [if_neg q] at hp; cases hp
theorem measN_back : ∀ (n : Nat) {z t : List Int} {l : List Nd}, InB z → measN n z = some (l, t) → z = measuresB l ++ t ∧ l.length = n ∧ (∀ x ∈ l, nodeOk x = true ∧ x.er = x ∧ x.Wf) ∧ InB t
  | 0, z, t, l, h, hp => by
    simp only [measN, Option.some.injEq, Prod.mk.injEq] at hp
    obtain ⟨rfl, rfl⟩ := hp
    exact ⟨rfl, rfl, (fun x hx => by cases hx), h⟩
  | n + 1, z, t, l, h, hp => by
    rw [measN] at hp
    rcases h0 : measP z with _ | ⟨x, z1⟩
    · rw [h0] at hp; cases hp
    rw [h0] at hp; simp only at hp
    obtain ⟨e0, o0, r0, w0, i1⟩ := measP_back h h0
    rcases h1 : measN n z1 with _ | ⟨l', u⟩
    · rw [h1] at hp; cases hp
    rw [h1] at hp; simp only [Option.some.injEq, Prod.mk.injEq] at hp
    obtain ⟨rfl, rfl⟩ := hp
    obtain ⟨e2, n2, w2, i2⟩ := measN_back n i1 h1
    have e3 : measuresB (x :: l') = measB x ++ measuresB l' := by unfold measuresB; rw [List.flatMap_cons]
    exact ⟨by rw [e3, List.append_assoc, ← e2, ← e0], by rw [List.length_cons, n2], fun y hy => (List.mem_cons.1 hy).elim (fun e => by rw [e]; exact ⟨o0, r0, w0⟩) (w2 y), i2⟩
/-- WHAT IS WRITTEN OF A SNAPSHOT THAT WAS READ ARE ITS BYTES. -/
theorem snapP_back {z t : List Int} {ns : List Nd} {ss : List St} (hi : InB z) (hp : snapP z = some ((ns, ss), t)) : z = snapB ns ss ++ t ∧ ns.length ≤ 40 ∧ ss.length ≤ 40 ∧ (∀ x ∈ ns, nodeOk x = true ∧ x.er = x ∧ x.Wf) ∧ ∀ x ∈ ss, x.Wf := by
  unfold snapP at hp
  rcases h0 : measuresP z with _ | ⟨ns', z1⟩
  · rw [h0] at hp; cases hp
  rw [h0] at hp; simp only at hp
  rcases h1 : stampsP z1 with _ | ⟨ss', z2⟩
  · rw [h1] at hp; cases hp
  rw [h1] at hp
  simp only [Option.some.injEq, Prod.mk.injEq] at hp
  obtain ⟨⟨rfl, rfl⟩, rfl⟩ := hp
  unfold measuresP at h0
  rcases h2 : numP 1 z with _ | ⟨m, z3⟩
  · rw [h2] at h0; cases h0
  rw [h2] at h0; simp only at h0
  have e2 := numP_back (byt_of hi) h2
  obtain ⟨b2, j3⟩ := numP_in hi h2
  split at h0
  · obtain ⟨e3, n3, w3, j1⟩ := measN_back _ j3 h0
    unfold stampsP at h1
    rcases h4 : numP 1 z1 with _ | ⟨k, z5⟩
    · rw [h4] at h1; cases h1
    rw [h4] at h1; simp only at h1
    have e4 := numP_back (byt_of j1) h4
    obtain ⟨b4, j5⟩ := numP_in j1 h4
    split at h1
    · obtain ⟨e5, n5, w5, _⟩ := stampsN_back _ j5 h1
      have hm : (ns'.length : Int) = m := by omega
      have hk : (ss'.length : Int) = k := by omega
      refine ⟨?_, by omega, by omega, w3, w5⟩
      unfold snapB
      simp only [List.append_assoc]
      rw [hm, hk, ← e5, ← e4, ← e3, ← e2]
    · cases h1
  · cases h0
end Go.Proofs.Ytbgninmkglgfeaa
