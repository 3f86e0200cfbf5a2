/-
  Nodes: what lies in memory, what came in; rightKids, rightNode of the package record.
-/
import Derived.Test.YtbgninmkglgfeaaRLv2
import Derived.Test.YtbgninmkglgfeaaRRw
namespace Go.Proofs.Ytbgninmkglgfeaa
open Go.RowKit Go.ChangeShapes Go.WideShapes Go.ChangeAt
set_option linter.unusedVariables false
set_option linter.unusedSimpArgs false
set_option maxRecDepth 100000
/-- An entry: its name, its fid. -/
structure Kd where
  nm : ByteArray
  fid : Int
def Kd.no : Kd := ⟨⟨#[]⟩, 0⟩
def Kd.cells (x : Kd) : List Value := [.string x.nm, .int .u32 x.fid]
def Kd.val (x : Kd) : Value := .agg #[.string x.nm, .int .u32 x.fid]
def Kd.Wf (x : Kd) : Prop := x.nm.size ≤ maxLen ∧ 0 ≤ x.fid ∧ x.fid < 4294967296
def KdAt (w : World) (b o : Nat) (x : Kd) : Prop := w.cell? ⟨b, o, none⟩ = some (.string x.nm) ∧ w.cell? ⟨b, o + 1, none⟩ = some (.int .u32 x.fid)
/-- Entries that lie in memory. -/
def IsKs (w : World) (a : Option Addr) (l : List Kd) : Prop :=
  l.length ≤ maxLen ∧ (∀ x ∈ l, x.Wf) ∧ (0 < l.length → ∃ b off, a = some ⟨b, off, none⟩ ∧ ∀ i, i < l.length → KdAt w b (off + i * 2) (l.getD i Kd.no))
theorem IsKs.later {w w' : World} {a : Option Addr} {l : List Kd} (h : IsKs w a l) (hb : Below w.heap.size w w') : IsKs w' a l := by
  obtain ⟨h1, h2, h3⟩ := h
  refine ⟨h1, h2, fun hp => ?_⟩
  obtain ⟨b, off, e, hc⟩ := h3 hp
  exact ⟨b, off, e, fun i hi => ⟨cell_later hb (hc i hi).1, cell_later hb (hc i hi).2⟩⟩
theorem IsKs.at {w : World} {b off : Nat} {l : List Kd} {i : Nat} (h : IsKs w (some ⟨b, off, none⟩) l) (hi : i < l.length) : KdAt w b (off + i * 2) (l.getD i Kd.no) := by
  obtain ⟨b', off', e, hc⟩ := h.2.2 (by omega)
  cases e
  exact hc i hi
theorem IsKs.wf {w : World} {a : Option Addr} {l : List Kd} (h : IsKs w a l) {i : Nat} (hi : i < l.length) : (l.getD i Kd.no).Wf := by
  rw [List.getD, List.getElem?_eq_getElem hi]
  exact h.2.1 _ (List.getElem_mem _)
/-- A node, with where its data and its entries lie. -/
structure Nd where
  fid : Int
  k : Int
  md : Int
  ln : Int
  da : Option Addr
  dc : Nat
  zs : List Int
  ka : Option Addr
  kc : Nat
  ks : List Kd
def Nd.cells (x : Nd) : List Value := [.int .u32 x.fid, .int .u8 x.k, .int .u16 x.md, .int .u16 x.ln, .slice x.da x.zs.length x.dc, .slice x.ka x.ks.length x.kc]
def Nd.val (x : Nd) : Value := .agg #[.int .u32 x.fid, .int .u8 x.k, .int .u16 x.md, .int .u16 x.ln, .slice x.da x.zs.length x.dc, .slice x.ka x.ks.length x.kc]
def Nd.Ok (w : World) (x : Nd) : Prop := (0 ≤ x.fid ∧ x.fid < 4294967296) ∧ (0 ≤ x.k ∧ x.k < 256) ∧ (0 ≤ x.md ∧ x.md < 65536) ∧ (0 ≤ x.ln ∧ x.ln < 65536) ∧ IsB w x.da x.zs.length x.zs ∧ IsKs w x.ka x.ks
theorem Nd.Ok.later {w w' : World} {x : Nd} (h : x.Ok w) (hb : Below w.heap.size w w') : x.Ok w' := by
  obtain ⟨a, b, c, d, e, f⟩ := h
  exact ⟨a, b, c, d, e.later hb, f.later hb⟩
theorem isB_trod {H : Type} {enc : TypeId × Value → H} {P : Program} {W : World} {t e : TypeId} {v : Value} {fuel : Nat} {x : DataW H × List MemPlace} {sp : Nat → Bool} {hd : Bool} {b0 : Nat}
    (ht : P.underlying t = some (.slice e)) (he : P.underlying e = some (.int .u8)) (hc : P.cellsOf e = 1)
    (hf : DataW.trod enc P W b0 sp hd fuel t [v] = some x) (hsp : ∀ k, sp k = true) : ∃ a cap zs, v = .slice a zs.length cap ∧ IsB W a zs.length zs := by
  rcases open_ints ht he hc hf with ⟨hcs, _⟩ | ⟨x, l, c, zs, hcs, _, hl, hm, hz, _, hcell, hwz⟩
  · simp at hcs
    exact ⟨none, 0, [], hcs, rfl, Nat.zero_le _, fun h => absurd h (by simp), fun i => by simp⟩
  · simp at hcs
    rw [hsp] at hz
    have hz' : zs.length = c := by simpa using hz
    have hlt : (zs.take l).length = l := by rw [List.length_take]; omega
    refine ⟨some x, c, zs.take l, by rw [hlt]; exact hcs, rfl, by omega, fun hp => ?_, fun i => ?_⟩
    · obtain ⟨b, off, spot⟩ := x
      have hc0 := hcell 0 (by omega)
      have hspot : spot = none := by simpa [Addr.add] using World.cell?_spot hc0
      subst hspot
      refine ⟨b, off, rfl, fun i hi => ?_⟩
      have hi2 : i < l := by omega
      have h := hcell i (by omega)
      have h2 : (⟨b, off, none⟩ : Addr).add i = ⟨b, off + i, none⟩ := by rcases i with _ | i <;> simp [Addr.add]
      rw [h2] at h
      rw [h]
      simp [List.getD, List.getElem?_take, hi2]
    · by_cases hi : i < l
      · have hmem : (zs.take l).getD i 0 ∈ zs := by
          have : i < zs.length := by omega
          simp [List.getD, List.getElem?_take, hi, this]
        have := bd_u8 (hwz _ hmem)
        omega
      · simp [List.getD, List.getElem?_take, hi]
theorem trod_kid {H : Type} {enc : TypeId × Value → H} {W : World} {cs : List Value} {fuel : Nat} {x : DataW H × List MemPlace} {sp : Nat → Bool} {hd : Bool} {b0 : Nat} (hf : DataW.trod enc Try.prog W b0 sp hd fuel 74 cs = some x) :
    ∃ q : Kd, cs = q.cells ∧ q.Wf := by
  obtain ⟨xs, m, _, _, hlc, hlen, hel⟩ := DataW.trod_struct Try.underlying74 hf
  have hct : Try.prog.cellsOf 74 = 2 := by kernel_rfl
  have e1 : Try.prog.cellsOf 9 = 1 := by kernel_rfl
  have e2 : Try.prog.cellsOf 26 = 1 := by kernel_rfl
  rw [hct] at hlc
  match cs, hlc with
  | [c0, c1], _ =>
    match xs, hlen with
    | [x0, x1], _ =>
      have h0 := hel 0 _ rfl
      have h1 := hel 1 _ rfl
      simp [e1, e2] at h0 h1
      obtain ⟨s0, q0, _, w0⟩ := DataW.trod_string Try.underlying9 h0
      obtain ⟨n1, q1, _, w1⟩ := DataW.trod_int Try.underlying26 h1
      simp at q0 q1
      subst q0 q1
      exact ⟨⟨s0, n1⟩, rfl, w0, (bd_u32 w1).1, (bd_u32 w1).2⟩
theorem isKs_trod {H : Type} {enc : TypeId × Value → H} {W : World} {t : TypeId} {v : Value} {fuel : Nat} {y : DataW H × List MemPlace} {sp : Nat → Bool} {hd : Bool} {b0 : Nat} (ht : Try.prog.underlying t = some (.slice 74))
    (hf : DataW.trod enc Try.prog W b0 sp hd fuel t [v] = some y) (hsp : ∀ k, sp k = true) : ∃ a cap, ∃ l : List Kd, v = .slice a l.length cap ∧ IsKs W a l := by
  have hct : Try.prog.cellsOf 74 = 2 := by kernel_rfl
  rcases DataW.trod_slice ht hf with ⟨hcs, _⟩ | ⟨x, len, c, elems, rest, n, _, hcs, _, hb, hl, hm, hlen, hel, _⟩
  · simp at hcs
    exact ⟨none, 0, [], hcs, Nat.zero_le _, (fun x hx => by cases hx), (fun h => absurd h (by simp))⟩
  · simp at hcs
    rw [hct] at hel
    have each : ∀ i, i < len → ∃ q : Kd, (∀ j, j < 2 → W.cell? ((x.add (i * 2)).add j) = (q.cells)[j]?) ∧ q.Wf := by
      intro i hi
      have h1 := hel i (by omega)
      have h2 : elems[i]? = some elems[i] := List.getElem?_eq_getElem (by omega)
      rw [h2, Option.bind_eq_some_iff] at h1
      obtain ⟨cs, hc, hy⟩ := h1
      obtain ⟨q, hq, hw⟩ := trod_kid hy
      obtain ⟨_, hl6, hg⟩ := World.cells?_some hc
      refine ⟨q, fun j hj => ?_, hw⟩
      rw [hg j hj, hq]
    obtain ⟨f, hf'⟩ : ∃ f : Nat → Kd, ∀ i, i < len → (∀ j, j < 2 → W.cell? ((x.add (i * 2)).add j) = ((f i).cells)[j]?) ∧ (f i).Wf := by
      classical
      refine ⟨fun i => if h : i < len then (each i h).choose else Kd.no, fun i hi => ?_⟩
      simp only [hi, dif_pos]
      exact (each i hi).choose_spec
    refine ⟨some x, c, (List.range len).map f, by simpa using hcs, by simp; omega, fun q hq => ?_, fun hp => ?_⟩
    · obtain ⟨i, hi, rfl⟩ := List.mem_map.1 hq
      exact (hf' i (List.mem_range.1 hi)).2
    · rw [List.length_map, List.length_range] at hp
      obtain ⟨b, off, spot⟩ := x
      have hc0 := (hf' 0 hp).1 0 (by omega)
      have hspot : spot = none := by
        have e0 : ((f 0).cells)[0]? = some (.string (f 0).nm) := rfl
        rw [e0] at hc0
        simpa [Addr.add] using World.cell?_spot hc0
      subst hspot
      refine ⟨b, off, rfl, fun i hi => ?_⟩
      rw [List.length_map, List.length_range] at hi
      have hadd : ∀ j, ((⟨b, off, none⟩ : Addr).add (i * 2)).add j = ⟨b, off + i * 2 + j, none⟩ := fun j => by unfold Addr.add; split <;> split <;> simp_all <;> omega
      have key := (hf' i hi).1
      have g : ((List.range len).map f).getD i Kd.no = f i := by simp [List.getD, hi]
      rw [g]
      have k0 := key 0 (by omega)
      have k1 := key 1 (by omega)
      rw [hadd] at k0 k1
      exact ⟨k0, k1⟩
theorem trod_node {H : Type} {enc : TypeId × Value → H} {W : World} {cs : List Value} {fuel : Nat} {x : DataW H × List MemPlace} {sp : Nat → Bool} {hd : Bool} {b0 : Nat} (hf : DataW.trod enc Try.prog W b0 sp hd fuel 39 cs = some x) (hsp : ∀ k, sp k = true) :
    ∃ q : Nd, cs = q.cells ∧ q.Ok W := by
  obtain ⟨xs, m, _, _, hlc, hlen, hel⟩ := DataW.trod_struct Try.underlying39 hf
  have hct : Try.prog.cellsOf 39 = 6 := by kernel_rfl
  have e1 : Try.prog.cellsOf 26 = 1 := by kernel_rfl
  have e2 : Try.prog.cellsOf 36 = 1 := by kernel_rfl
  have e3 : Try.prog.cellsOf 27 = 1 := by kernel_rfl
  have e4 : Try.prog.cellsOf 22 = 1 := by kernel_rfl
  have e5 : Try.prog.cellsOf 37 = 1 := by kernel_rfl
  rw [hct] at hlc
  match cs, hlc with
  | [c0, c1, c2, c3, c4, c5], _ =>
    match xs, hlen with
    | [x0, x1, x2, x3, x4, x5], _ =>
      have h0 := hel 0 _ rfl
      have h1 := hel 1 _ rfl
      have h2 := hel 2 _ rfl
      have h3 := hel 3 _ rfl
      have h4 := hel 4 _ rfl
      have h5 := hel 5 _ rfl
      simp [e1, e2, e3, e4, e5] at h0 h1 h2 h3 h4 h5
      obtain ⟨n0, q0, _, w0⟩ := DataW.trod_int Try.underlying26 h0
      obtain ⟨n1, q1, _, w1⟩ := DataW.trod_int Try.underlying36 h1
      obtain ⟨n2, q2, _, w2⟩ := DataW.trod_int Try.underlying27 h2
      obtain ⟨n3, q3, _, w3⟩ := DataW.trod_int Try.underlying27 h3
      obtain ⟨da, dc, zs, q4, hz⟩ := isB_trod Try.underlying22 Try.underlying5 (by kernel_rfl) h4 hsp
      obtain ⟨ka, kc, ks, q5, hk⟩ := isKs_trod Try.underlying37 h5 hsp
      simp at q0 q1 q2 q3
      subst q0 q1 q2 q3 q4 q5
      exact ⟨⟨n0, n1, n2, n3, da, dc, zs, ka, kc, ks⟩, rfl, bd_u32 w0, bd_u8 w1, bd_u16r w2, bd_u16r w3, hz, hk⟩
theorem open_node {H : Type} {enc : TypeId × Value → H} {W : World} {r : Reach} {b0 : Nat} {v : Value} {d : DataW H} {p : List MemPlace}
    (hv : Value.okWide Try.prog W r b0 39 v) (h : DataW.Trod enc Try.prog W 0 (fun _ => true) true 39 v d p) :
    ∃ q : Nd, v = q.val ∧ q.Ok W := by
  simp only [Value.okWide, Try.underlying39] at hv
  obtain ⟨cs, rfl, hsz, _⟩ := hv
  obtain ⟨fuel, hf⟩ := h
  obtain ⟨q, hq, hw⟩ := trod_node hf (fun _ => rfl)
  refine ⟨q, ?_, hw⟩
  have : cs = q.cells.toArray := by
    apply Array.ext'
    simpa [Value.cells] using hq
  rw [this]; rfl
theorem nd_cells {w : World} {g : Nat} {x : Nd} {t : TypeId} {fr : Nat × Nat} (h : w.heap[g]? = some (.cells x.cells.toArray t fr)) : w.cell? ⟨g, 0, none⟩ = some (.int .u32 x.fid) ∧ w.cell? ⟨g, 1, none⟩ = some (.int .u8 x.k) ∧ w.cell? ⟨g, 2, none⟩ = some (.int .u16 x.md) ∧ w.cell? ⟨g, 3, none⟩ = some (.int .u16 x.ln) ∧ w.cell? ⟨g, 4, none⟩ = some (.slice x.da x.zs.length x.dc) ∧ w.cell? ⟨g, 5, none⟩ = some (.slice x.ka x.ks.length x.kc) := by
  refine ⟨?_, ?_, ?_, ?_, ?_, ?_⟩ <;> (rw [cell_of_row w g _ _ t fr h]; rfl)
theorem cell_of_row2 {w : World} {g j : Nat} {cs : Array Value} {t : TypeId} {fr : Nat × Nat} {v : Value} (h : w.heap[g]? = some (.cells cs t fr)) (_ : Nat := j) (hv : cs[j]? = some v) : w.cell? ⟨g, j, none⟩ = some v := by rw [cell_of_row w g _ _ t fr h]; exact hv
/-- Names compared. -/
def leS (x y : ByteArray) : Bool := Op.bytesLess x.toList y.toList || x.toList == y.toList
def lastK (l : List Kd) (m : Nat) : ByteArray := if m = 0 then ⟨#[]⟩ else (l.getD (m - 1) Kd.no).nm
/-- Is an entry right, behind the one ahead of it? -/
def kOk (l : List Kd) (i : Nat) : Bool := Pa.nameB (l.getD i Kd.no).nm.data.toList && !leS (l.getD i Kd.no).nm (lastK l i) && (l.getD i Kd.no).fid != 0
def kidsTo (l : List Kd) : Nat → Bool
  | 0 => true
  | m + 1 => kidsTo l m && kOk l m
def kidsOk (l : List Kd) : Bool := kidsTo l l.length
theorem kids_no (l : List Kd) (m : Nat) (h : kOk l m = false) : ∀ d, kidsTo l (m + 1 + d) = false
  | 0 => by simp [kidsTo, h]
  | d + 1 => by rw [← Nat.add_assoc]; simp [kidsTo, kids_no l m h d]
theorem kidsOk_no {l : List Kd} {m : Nat} (hm : m < l.length) (h : kOk l m = false) : kidsOk l = false := by
  unfold kidsOk
  obtain ⟨d, hd⟩ : ∃ d, l.length = m + 1 + d := ⟨l.length - (m + 1), by omega⟩
  rw [hd]; exact kids_no l m h d
theorem lastK_next (l : List Kd) (m : Nat) : lastK l (m + 1) = (l.getD m Kd.no).nm := by unfold lastK; simp
set_option maxHeartbeats 4000000 in
theorem rightKids_c (a : Option Addr) (cap : Nat) (l : List Kd) (w : World) (h : IsKs w a l) (hm : l.length ≤ 100000) :
    Calls Try.prog 89 #[.slice a l.length cap] w fun e w' => e = .returned (.bool (kidsOk l)) ∧ Below w.heap.size w w' := by
  have H := hid h
  clear h
  obtain ⟨n, hn⟩ : ∃ n, n = l.length := ⟨_, rfl⟩
  rw [← hn] at hm ⊢
  have HN := hid hn
  clear hn
  go_enter Try.func89, Try.ntmps89
  go_wp2
  go_loopg [3, 8] n (fun gk v i wr => ∃ m : Nat, m + gk = n ∧ i = .int .i64 m ∧ v = .string (lastK l m) ∧ Hid (Below w.heap.size w wr) ∧ Hid (kidsTo l m = true))
  case atStart => exact ⟨0, by omega, rfl, rfl, hid (Below.refl _ _), hid rfl⟩
  case round =>
    obtain ⟨m, hm2, rfl, rfl, HB, HK⟩ := hrel
    by_cases hlt : m < n
    · have hltI : (m : Int) < n := by omega
      have hln : m < l.length := by rw [← HN.out]; exact hlt
      obtain ⟨b, off, rfl, _⟩ := H.out.2.2 (by omega)
      have hK := H.out.later HB.out
      obtain ⟨k0, k1⟩ := hK.at (i := m) hln
      have hwf := hK.wf (i := m) hln
      have NO := hid (kidsOk_no (l := l) (m := m) hln)
      have NX : Hid (kOk l m = true → kidsTo l (m + 1) = true) := hid (fun h => by simp [kidsTo, HK.out, h])
      have LX := hid (lastK_next l m)
      unfold kOk at NO NX
      clear hK hln
      generalize l.getD m Kd.no = x at *
      have NC := hid (name_c x.nm (wr.alloc (.cells #[.string x.nm, .int .u32 x.fid] 74)) hwf.1)
      have hbx := heap_alloc_new wr (.cells #[.string x.nm, .int .u32 x.fid] 74)
      have HX := hid hbx
      have BA := hid (HB.out.trans ((below_1 wr (.cells #[.string x.nm, .int .u32 x.fid] 74)).mono HB.out.size))
      clear hbx hwf
      generalize hlast : lastK l m = lst at *
      clear hlast
      unfold leS at NO NX
      cases q1 : Pa.nameB x.nm.data.toList with
      | false =>
        rw [q1] at NC NO
        have EF := hid (NO.out rfl)
        clear NO NX
        go_wp2_with (go_at_call 111; refine NC.out.mono ?_; rintro _ w1 ⟨rfl, hb1⟩)
        go_ret
        exact ⟨ret_bool' EF.out.symm, BA.out.trans (hb1.mono BA.out.size)⟩
      | true =>
        rw [q1] at NC NO NX
        cases q2 : (Op.bytesLess x.nm.toList lst.toList || x.nm.toList == lst.toList) with
        | true =>
          rw [q2] at NO
          have EF := hid (NO.out (by simp))
          clear NO NX
          go_wp2_with (go_at_call 111; refine NC.out.mono ?_; rintro _ w1 ⟨rfl, hb1⟩; (have c0 : w1.cell? ⟨wr.heap.size, 0, none⟩ = some (.string x.nm) := cell_of_row2 ((hb1.block _ (lt_blkR HX.out)).trans HX.out) 0 rfl))
          all_goals go_ret
          all_goals exact ⟨ret_bool' EF.out.symm, BA.out.trans (hb1.mono BA.out.size)⟩
        | false =>
          rw [q2] at NO NX
          cases q3 : (x.fid == 0) with
          | true =>
            have EF := hid (NO.out (by simp [bne, q3]))
            clear NO NX
            go_wp2_with (go_at_call 111; refine NC.out.mono ?_; rintro _ w1 ⟨rfl, hb1⟩; (have c0 : w1.cell? ⟨wr.heap.size, 0, none⟩ = some (.string x.nm) := cell_of_row2 ((hb1.block _ (lt_blkR HX.out)).trans HX.out) 0 rfl); (have c1 : w1.cell? ⟨wr.heap.size, 1, none⟩ = some (.int .u32 x.fid) := cell_of_row2 ((hb1.block _ (lt_blkR HX.out)).trans HX.out) 1 rfl))
            all_goals go_ret
            all_goals exact ⟨ret_bool' EF.out.symm, BA.out.trans (hb1.mono BA.out.size)⟩
          | false =>
            have ET := hid (NX.out (by simp [bne, q3]))
            clear NO NX
            go_wp2_with (go_at_call 111; refine NC.out.mono ?_; rintro _ w1 ⟨rfl, hb1⟩; (have c0 : w1.cell? ⟨wr.heap.size, 0, none⟩ = some (.string x.nm) := cell_of_row2 ((hb1.block _ (lt_blkR HX.out)).trans HX.out) 0 rfl); (have c1 : w1.cell? ⟨wr.heap.size, 1, none⟩ = some (.int .u32 x.fid) := cell_of_row2 ((hb1.block _ (lt_blkR HX.out)).trans HX.out) 1 rfl))
            go_roundg (gk - 1)
            case measure => omega
            case rel => exact ⟨m + 1, by omega, by go_num, by rw [LX.out], hid (BA.out.trans (hb1.mono BA.out.size)), ET⟩
    · have em : m = n := by omega
      have hge : ¬ (m : Int) < n := by omega
      have EF : Hid (kidsOk l = true) := hid (by unfold kidsOk; rw [← HN.out, ← em]; exact HK.out)
      go_wp2
      go_ret
      exact ⟨ret_bool' EF.out.symm, HB.out⟩
def nodeOk (x : Nd) : Bool := !(x.fid == 0 || decide (64 < x.zs.length) || decide (12 < x.ks.length)) && (bif x.k == 1 || x.k == 3 then decide (x.ks.length = 0) else bif x.k == 2 then decide (x.zs.length = 0) && kidsOk x.ks else false)
set_option maxHeartbeats 4000000 in
theorem rightNode_c (x : Nd) (w : World) (h : x.Ok w) :
    Calls Try.prog 46 #[x.val] w fun e w' => e = .returned (.bool (nodeOk x)) ∧ Below w.heap.size w w' := by
  obtain ⟨_, _, _, _, hB, hK⟩ := h
  have hx : (w.alloc (.cells x.cells.toArray 39)).heap[w.heap.size]? = some (.cells x.cells.toArray 39 (0, 0)) := heap_alloc_new w _
  obtain ⟨y0, y1, y2, y3, y4, y5⟩ := nd_cells hx
  have b0 := below_1 w (.cells x.cells.toArray 39)
  have B0 := hid b0
  have RK := hid (fun (hm : x.ks.length ≤ 100000) => rightKids_c x.ka x.kc x.ks (w.alloc (.cells x.cells.toArray 39)) (hK.later b0) hm)
  obtain ⟨nk, hnk⟩ : ∃ nk, nk = nodeOk x := ⟨_, rfl⟩
  rw [← hnk]
  unfold nodeOk at hnk
  have HE := hid hnk
  clear hx b0 hB hK hnk
  obtain ⟨fid, k, md, ln, da, dc, zs, ka, kc, ks⟩ := x
  simp only [Nd.val, Nd.cells] at *
  cases q1 : (fid == 0) with
  | true =>
    rw [q1] at HE
    go_enter Try.func46, Try.ntmps46
    go_wp2
    go_ret
    exact ⟨ret_bool' (by rw [HE.out]; rfl), B0.out⟩
  | false =>
    rw [q1] at HE
    by_cases q2 : 64 < zs.length
    · have q2I : (64 : Int) < zs.length := by omega
      rw [decide_eq_true q2] at HE
      go_enter Try.func46, Try.ntmps46
      go_wp2
      go_ret
      exact ⟨ret_bool' (by rw [HE.out]; rfl), B0.out⟩
    · have q2I : ¬ (64 : Int) < zs.length := by omega
      rw [decide_eq_false q2] at HE
      by_cases q3 : 12 < ks.length
      · have q3I : (12 : Int) < ks.length := by omega
        rw [decide_eq_true q3] at HE
        go_enter Try.func46, Try.ntmps46
        go_wp2
        go_ret
        exact ⟨ret_bool' (by rw [HE.out]; rfl), B0.out⟩
      · have q3I : ¬ (12 : Int) < ks.length := by omega
        rw [decide_eq_false q3] at HE
        have RK2 := hid (RK.out (by omega))
        clear RK
        by_cases e1 : k = 1
        · subst e1
          go_enter Try.func46, Try.ntmps46
          go_wp2
          go_ret
          exact ⟨ret_bool' (by rw [HE.out]; first | rfl | (simp; done) | (rw [Bool.eq_iff_iff]; simp; done)), B0.out⟩
        · by_cases e3 : k = 3
          · subst e3
            go_enter Try.func46, Try.ntmps46
            go_wp2
            go_ret
            exact ⟨ret_bool' (by rw [HE.out]; first | rfl | (simp; done) | (rw [Bool.eq_iff_iff]; simp; done)), B0.out⟩
          · by_cases e2 : k = 2
            · subst e2
              by_cases q4 : zs.length = 0
              · have q4B : ((zs.length : Int) == 0) = true := by rw [q4]; rfl
                rw [decide_eq_true q4] at HE
                clear q4
                go_enter Try.func46, Try.ntmps46
                go_wp2_with (go_at_call 89; refine RK2.out.mono ?_; rintro _ w1 ⟨rfl, hb1⟩)
                go_ret
                exact ⟨ret_bool' (by rw [HE.out]; first | rfl | simp), B0.out.trans (hb1.mono B0.out.size)⟩
              · have q4B : ((zs.length : Int) == 0) = false := beq_eq_false_iff_ne.2 (by omega)
                rw [decide_eq_false q4] at HE
                go_enter Try.func46, Try.ntmps46
                go_wp2
                go_ret
                exact ⟨ret_bool' (by rw [HE.out]; first | rfl | (simp; done) | (rw [Bool.eq_iff_iff]; simp; done)), B0.out⟩
            · have r1 : (k == 1) = false := beq_eq_false_iff_ne.2 e1
              have r2 : (k == 2) = false := beq_eq_false_iff_ne.2 e2
              have r3 : (k == 3) = false := beq_eq_false_iff_ne.2 e3
              rw [r1, r2, r3] at HE
              go_enter Try.func46, Try.ntmps46
              go_wp2
              go_ret
              exact ⟨ret_bool' (by rw [HE.out]; first | rfl | (simp; done) | (rw [Bool.eq_iff_iff]; simp; done)), B0.out⟩
end Go.Proofs.Ytbgninmkglgfeaa
