/-
  A snapshot that is given; the law's small. (Written by gen_snapopen.py.)
-/
import Derived.Test.YtbgninmkglgfeaaSR3
namespace Go.Proofs.Ytbgninmkglgfeaa
open Go.RowKit Go.ChangeShapes Go.WideShapes Go.ChangeAt Go.Maps Go.Shelf
set_option linter.unusedVariables false
set_option linter.unusedSimpArgs false
set_option maxRecDepth 100000
theorem frz {W : World} {g : Nat} {cs : Array Value} {t : TypeId} (h : W.heap[g]? = some (.cells cs t (0, 0))) (i : Nat) : W.frozen? ⟨g, i, none⟩ = false := by
  simp [World.frozen?, h]
theorem trod_stamp {H : Type} {enc : TypeId × Value → H} {W : World} {cs : List Value} {fuel : Nat} {x : DataW H × List MemPlace} {sp : Nat → Bool} {hd : Bool} {b0 : Nat} (hf : DataW.trod enc Try.prog W b0 sp hd fuel 85 cs = some x) :
    ∃ q : St, cs = q.cells ∧ q.Wf := by
  obtain ⟨xs, m, _, _, hlc, hlen, hel⟩ := DataW.trod_struct Try.underlying85 hf
  have hct : Try.prog.cellsOf 85 = 3 := by kernel_rfl
  have e1 : Try.prog.cellsOf 26 = 1 := by kernel_rfl
  have e2 : Try.prog.cellsOf 70 = 1 := by kernel_rfl
  have e3 : Try.prog.cellsOf 5 = 1 := by kernel_rfl
  rw [hct] at hlc
  match cs, hlc with
  | [c0, c1, c2], _ =>
    match xs, hlen with
    | [x0, x1, x2], _ =>
      have h0 := hel 0 _ rfl
      have h1 := hel 1 _ rfl
      have h2 := hel 2 _ rfl
      simp [e1, e2, e3] at h0 h1 h2
      obtain ⟨n0, q0, _, w0⟩ := DataW.trod_int Try.underlying26 h0
      obtain ⟨n1, q1, _, w1⟩ := DataW.trod_int Try.underlying70 h1
      obtain ⟨n2, q2, _, w2⟩ := DataW.trod_int Try.underlying5 h2
      simp at q0 q1 q2
      subst q0 q1 q2
      exact ⟨⟨n0, n1, n2⟩, rfl, bd_u32 w0, bd_u64 w1, bd_u8 w2⟩
theorem isSs_trod {H : Type} {enc : TypeId × Value → H} {W : World} {t : TypeId} {v : Value} {fuel : Nat} {y : DataW H × List MemPlace} {sp : Nat → Bool} {hd : Bool} {b0 : Nat} (ht : Try.prog.underlying t = some (.slice 85))
    (hf : DataW.trod enc Try.prog W b0 sp hd fuel t [v] = some y) (hsp : ∀ k, sp k = true) : ∃ a cap, ∃ l : List St, v = .slice a l.length cap ∧ IsSs W a l ∧ l.length ≤ cap := by
  have hct : Try.prog.cellsOf 85 = 3 := by kernel_rfl
  rcases DataW.trod_slice ht hf with ⟨hcs, _⟩ | ⟨x, len, c, elems, rest, n, _, hcs, _, hb, hl, hm, hlen, hel, _⟩
  · simp at hcs
    exact ⟨none, 0, [], hcs, ⟨Nat.zero_le _, (fun x hx => by cases hx), (fun h => absurd h (by simp))⟩, by simp⟩
  · simp at hcs
    rw [hct] at hel
    have each : ∀ i, i < len → ∃ q : St, (∀ j, j < 3 → W.cell? ((x.add (i * 3)).add j) = (q.cells)[j]?) ∧ q.Wf := by
      intro i hi
      have h1 := hel i (by omega)
      have h2 : elems[i]? = some elems[i] := List.getElem?_eq_getElem (by omega)
      rw [h2, Option.bind_eq_some_iff] at h1
      obtain ⟨cs, hc, hy⟩ := h1
      obtain ⟨q, hq, hw⟩ := trod_stamp hy
      obtain ⟨_, hl6, hg⟩ := World.cells?_some hc
      refine ⟨q, fun j hj => ?_, hw⟩
      rw [hg j hj, hq]
    obtain ⟨f, hf'⟩ : ∃ f : Nat → St, ∀ i, i < len → (∀ j, j < 3 → W.cell? ((x.add (i * 3)).add j) = ((f i).cells)[j]?) ∧ (f i).Wf := by
      classical
      refine ⟨fun i => if h : i < len then (each i h).choose else St.no, fun i hi => ?_⟩
      simp only [hi, dif_pos]
      exact (each i hi).choose_spec
    refine ⟨some x, c, (List.range len).map f, by simpa using hcs, ⟨by simp; omega, fun q hq => ?_, fun hp => ?_⟩, by simp; omega⟩
    · obtain ⟨i, hi, rfl⟩ := List.mem_map.1 hq
      exact (hf' i (List.mem_range.1 hi)).2
    · rw [List.length_map, List.length_range] at hp
      obtain ⟨b, off, spot⟩ := x
      have hc0 := (hf' 0 hp).1 0 (by omega)
      have hspot : spot = none := by
        have e0 : ((f 0).cells)[0]? = some (.int .u32 (f 0).fid) := rfl
        rw [e0] at hc0
        simpa [Addr.add] using World.cell?_spot hc0
      subst hspot
      refine ⟨b, off, rfl, fun i hi => ?_⟩
      rw [List.length_map, List.length_range] at hi
      have hadd : ∀ j, ((⟨b, off, none⟩ : Addr).add (i * 3)).add j = ⟨b, off + i * 3 + j, none⟩ := fun j => by unfold Addr.add; split <;> split <;> simp_all <;> omega
      have key := (hf' i hi).1
      have g : ((List.range len).map f).getD i St.no = f i := by simp [List.getD, hi]
      rw [g]
      have k0 := key 0 (by omega)
      have k1 := key 1 (by omega)
      have k2 := key 2 (by omega)
      rw [hadd] at k0 k1 k2
      exact ⟨k0, k1, k2⟩
theorem isNs_trod {H : Type} {enc : TypeId × Value → H} {W : World} {t : TypeId} {v : Value} {fuel : Nat} {y : DataW H × List MemPlace} {sp : Nat → Bool} {hd : Bool} {b0 : Nat} (ht : Try.prog.underlying t = some (.slice 39))
    (hf : DataW.trod enc Try.prog W b0 sp hd fuel t [v] = some y) (hsp : ∀ k, sp k = true) : ∃ a cap, ∃ l : List Nd, v = .slice a l.length cap ∧ IsNs W a l ∧ l.length ≤ cap := by
  have hct : Try.prog.cellsOf 39 = 6 := by kernel_rfl
  rcases DataW.trod_slice ht hf with ⟨hcs, _⟩ | ⟨x, len, c, elems, rest, n, _, hcs, _, hb, hl, hm, hlen, hel, _⟩
  · simp at hcs
    exact ⟨none, 0, [], hcs, ⟨Nat.zero_le _, (fun x hx => by cases hx), (fun h => absurd h (by simp))⟩, by simp⟩
  · simp at hcs
    rw [hct] at hel
    have each : ∀ i, i < len → ∃ q : Nd, (∀ j, j < 6 → W.cell? ((x.add (i * 6)).add j) = (q.cells)[j]?) ∧ q.Ok W := by
      intro i hi
      have h1 := hel i (by omega)
      have h2 : elems[i]? = some elems[i] := List.getElem?_eq_getElem (by omega)
      rw [h2, Option.bind_eq_some_iff] at h1
      obtain ⟨cs, hc, hy⟩ := h1
      obtain ⟨q, hq, hw⟩ := trod_node hy hsp
      obtain ⟨_, hl6, hg⟩ := World.cells?_some hc
      refine ⟨q, fun j hj => ?_, hw⟩
      rw [hg j hj, hq]
    obtain ⟨f, hf'⟩ : ∃ f : Nat → Nd, ∀ i, i < len → (∀ j, j < 6 → W.cell? ((x.add (i * 6)).add j) = ((f i).cells)[j]?) ∧ (f i).Ok W := by
      classical
      refine ⟨fun i => if h : i < len then (each i h).choose else Nd.no, fun i hi => ?_⟩
      simp only [hi, dif_pos]
      exact (each i hi).choose_spec
    refine ⟨some x, c, (List.range len).map f, by simpa using hcs, ⟨by simp; omega, fun q hq => ?_, fun hp => ?_⟩, by simp; omega⟩
    · obtain ⟨i, hi, rfl⟩ := List.mem_map.1 hq
      exact (hf' i (List.mem_range.1 hi)).2
    · rw [List.length_map, List.length_range] at hp
      obtain ⟨b, off, spot⟩ := x
      have hc0 := (hf' 0 hp).1 0 (by omega)
      have hspot : spot = none := by
        have e0 : ((f 0).cells)[0]? = some (.int .u32 (f 0).fid) := rfl
        rw [e0] at hc0
        simpa [Addr.add] using World.cell?_spot hc0
      subst hspot
      refine ⟨b, off, rfl, fun i hi => ?_⟩
      rw [List.length_map, List.length_range] at hi
      have hadd : ∀ j, ((⟨b, off, none⟩ : Addr).add (i * 6)).add j = ⟨b, off + i * 6 + j, none⟩ := fun j => by unfold Addr.add; split <;> split <;> simp_all <;> omega
      have key := (hf' i hi).1
      have g : ((List.range len).map f).getD i Nd.no = f i := by simp [List.getD, hi]
      rw [g]
      intro j u hu
      have hj : j < 6 := by
        have := (List.getElem?_eq_some_iff.1 hu).1
        simpa [Nd.cells] using this
      have kj := key j hj
      rw [hadd] at kj
      rw [kj]; exact hu
theorem open_snap {H : Type} {enc : TypeId × Value → H} {W : World} {r : Reach} {b0 : Nat} {v : Value} {d : DataW H} {p : List MemPlace}
    (hv : Value.okWide Try.prog W r b0 49 v) (h : DataW.Trod enc Try.prog W 0 (fun _ => true) true 49 v d p) :
    ∃ a ca b cb, ∃ ns : List Nd, ∃ ss : List St, v = snV a ns.length ca b ss.length cb ∧ IsNs W a ns ∧ IsSs W b ss ∧ ns.length ≤ ca ∧ ss.length ≤ cb := by
  simp only [Value.okWide, Try.underlying49] at hv
  obtain ⟨cs, rfl, hsz, _⟩ := hv
  obtain ⟨fuel, hf⟩ := h
  obtain ⟨xs, m, _, _, hlc, hlen, hel⟩ := DataW.trod_struct Try.underlying49 hf
  have hct : Try.prog.cellsOf 49 = 2 := by kernel_rfl
  have e1 : Try.prog.cellsOf 46 = 1 := by kernel_rfl
  have e2 : Try.prog.cellsOf 47 = 1 := by kernel_rfl
  rw [hct] at hlc
  simp only [Value.cells] at hlc hel
  obtain ⟨c0, c1, hcs⟩ : ∃ c0 c1, cs.toList = [c0, c1] := by
    match h : cs.toList, hlc with
    | [c0, c1], _ => exact ⟨c0, c1, rfl⟩
  match xs, hlen with
  | [x0, x1], _ =>
    have h0 := hel 0 _ rfl
    have h1 := hel 1 _ rfl
    rw [hcs] at h0 h1
    simp [e1, e2] at h0 h1
    obtain ⟨a, ca, ns, q0, hn, ln⟩ := isNs_trod Try.underlying46 h0 (fun _ => rfl)
    obtain ⟨b, cb, ss, q1, hs, ls⟩ := isSs_trod Try.underlying47 h1 (fun _ => rfl)
    refine ⟨a, ca, b, cb, ns, ss, ?_, hn, hs, ln, ls⟩
    rw [q0, q1] at hcs
    have : cs = #[.slice a ns.length ca, .slice b ss.length cb] := by
      apply Array.ext'
      simpa using hcs
    rw [this]; rfl
theorem take_getD {α : Type} (l : List α) (d : α) (n i : Nat) (hi : i < n) : (l.take n).getD i d = l.getD i d := by
  simp [List.getD, List.getElem?_take, hi]
theorem IsNs.take {w : World} {a : Option Addr} {l : List Nd} (h : IsNs w a l) (n : Nat) : IsNs w a (l.take n) := by
  obtain ⟨h1, h2, h3⟩ := h
  have hl := List.length_take (i := n) (l := l)
  refine ⟨by omega, fun x hx => h2 x (List.mem_of_mem_take hx), fun hp => ?_⟩
  obtain ⟨b, off, e, hc⟩ := h3 (by omega)
  refine ⟨b, off, e, fun i hi => ?_⟩
  rw [take_getD l _ n i (by omega)]
  exact hc i (by omega)
theorem IsSs.take {w : World} {a : Option Addr} {l : List St} (h : IsSs w a l) (n : Nat) : IsSs w a (l.take n) := by
  obtain ⟨h1, h2, h3⟩ := h
  have hl := List.length_take (i := n) (l := l)
  refine ⟨by omega, fun x hx => h2 x (List.mem_of_mem_take hx), fun hp => ?_⟩
  obtain ⟨b, off, e, hc⟩ := h3 (by omega)
  refine ⟨b, off, e, fun i hi => ?_⟩
  rw [take_getD l _ n i (by omega)]
  exact hc i (by omega)
def n50 (n : Nat) : Nat := if 50 < n then 50 else n
theorem n50_take {α : Type} (l : List α) : n50 l.length = (l.take 50).length := by
  unfold n50
  rw [List.length_take]
  split <;> omega
set_option maxHeartbeats 2000000 in
theorem small_c (a b : Option Addr) (ca cb n m : Nat) (w : World) (ha : 50 < n → ∃ p o, a = some ⟨p, o, none⟩) (hb : 50 < m → ∃ p o, b = some ⟨p, o, none⟩) (hca : n ≤ ca) (hcb : m ≤ cb) :
    Calls Try.prog 16 #[snV a n ca b m cb] w fun e w' => e = .returned (snV a (n50 n) ca b (n50 m) cb) ∧ Below w.heap.size w w' := by
  have b0 := below_1 w (.cells #[.slice a n ca, .slice b m cb] 49)
  have h0 := heap_alloc_new w (.cells #[.slice a n ca, .slice b m cb] 49)
  have b1 := below_1 (w.alloc (.cells #[.slice a n ca, .slice b m cb] 49)) (.cells #[.slice none 0 0, .slice none 0 0] 49)
  have h1 := heap_alloc_new (w.alloc (.cells #[.slice a n ca, .slice b m cb] 49)) (.cells #[.slice none 0 0, .slice none 0 0] 49)
  rw [show (w.alloc (.cells #[.slice a n ca, .slice b m cb] 49)).heap.size = w.heap.size + 1 by simp] at h1
  have h0' := (b1.block _ (lt_blkR h0)).trans h0
  have BV := hid (b0.trans (b1.mono b0.size))
  obtain ⟨y0, y1⟩ := sn_cells h0'
  obtain ⟨z0, z1⟩ := sn_cells h1
  have f0 : ∀ i, ((w.alloc (.cells #[.slice a n ca, .slice b m cb] 49)).alloc (.cells #[.slice none 0 0, .slice none 0 0] 49)).frozen? ⟨w.heap.size, i, none⟩ = false := frz h0'
  have f1 : ∀ i, ((w.alloc (.cells #[.slice a n ca, .slice b m cb] 49)).alloc (.cells #[.slice none 0 0, .slice none 0 0] 49)).frozen? ⟨w.heap.size + 1, i, none⟩ = false := frz h1
  clear b0 b1 h0 h1 h0'
  unfold snV n50
  by_cases q1 : 50 < n
  · obtain ⟨p1, o1, rfl⟩ := ha q1
    rw [if_pos q1]
    have q1I : (50 : Int) < n := by omega
    have c1I : (50 : Int) ≤ ca := by omega
    have c1N : 50 ≤ ca := by omega
    by_cases q2 : 50 < m
    · obtain ⟨p2, o2, rfl⟩ := hb q2
      rw [if_pos q2]
      have q2I : (50 : Int) < m := by omega
      have c2I : (50 : Int) ≤ cb := by omega
      have c2N : 50 ≤ cb := by omega
      clear ha hb
      go_enter Try.func16, Try.ntmps16
      go_upto_region 1 with fail
      generalize ((w.alloc (.cells #[.slice (some ⟨p1, o1, none⟩) n ca, .slice (some ⟨p2, o2, none⟩) m cb] 49)).alloc (.cells #[.slice none 0 0, .slice none 0 0] 49)) = V at *
      go_wp2
      refine bodyPost_ret (v := snV (some ⟨p1, o1, none⟩) 50 ca (some ⟨p2, o2, none⟩) 50 cb) (by simp [results, Try.results16, go_sem, snV, y0, y1, z0, z1]) rfl ⟨rfl, ?_⟩
      exact (((BV.out.setCell (p := ⟨w.heap.size, 0, none⟩) (Nat.le_refl _) _).setCell (p := ⟨w.heap.size, 1, none⟩) (Nat.le_refl _) _).setCell (p := ⟨w.heap.size + 1, 0, none⟩) (Nat.le_succ _) _).setCell (p := ⟨w.heap.size + 1, 1, none⟩) (Nat.le_succ _) _
    · rw [if_neg q2]
      have q2I : ¬ (50 : Int) < m := by omega
      clear ha hb
      go_enter Try.func16, Try.ntmps16
      go_upto_region 1 with fail
      generalize ((w.alloc (.cells #[.slice (some ⟨p1, o1, none⟩) n ca, .slice b m cb] 49)).alloc (.cells #[.slice none 0 0, .slice none 0 0] 49)) = V at *
      go_wp2
      refine bodyPost_ret (v := snV (some ⟨p1, o1, none⟩) 50 ca b m cb) (by simp [results, Try.results16, go_sem, snV, y0, y1, z0, z1]) rfl ⟨rfl, ?_⟩
      exact ((BV.out.setCell (p := ⟨w.heap.size, 0, none⟩) (Nat.le_refl _) _).setCell (p := ⟨w.heap.size + 1, 0, none⟩) (Nat.le_succ _) _).setCell (p := ⟨w.heap.size + 1, 1, none⟩) (Nat.le_succ _) _
  · rw [if_neg q1]
    have q1I : ¬ (50 : Int) < n := by omega
    by_cases q2 : 50 < m
    · obtain ⟨p2, o2, rfl⟩ := hb q2
      rw [if_pos q2]
      have q2I : (50 : Int) < m := by omega
      have c2I : (50 : Int) ≤ cb := by omega
      have c2N : 50 ≤ cb := by omega
      clear ha hb
      go_enter Try.func16, Try.ntmps16
      go_upto_region 1 with fail
      generalize ((w.alloc (.cells #[.slice a n ca, .slice (some ⟨p2, o2, none⟩) m cb] 49)).alloc (.cells #[.slice none 0 0, .slice none 0 0] 49)) = V at *
      go_wp2
      refine bodyPost_ret (v := snV a n ca (some ⟨p2, o2, none⟩) 50 cb) (by simp [results, Try.results16, go_sem, snV, y0, y1, z0, z1]) rfl ⟨rfl, ?_⟩
      exact ((BV.out.setCell (p := ⟨w.heap.size, 1, none⟩) (Nat.le_refl _) _).setCell (p := ⟨w.heap.size + 1, 0, none⟩) (Nat.le_succ _) _).setCell (p := ⟨w.heap.size + 1, 1, none⟩) (Nat.le_succ _) _
    · rw [if_neg q2]
      have q2I : ¬ (50 : Int) < m := by omega
      clear ha hb
      go_enter Try.func16, Try.ntmps16
      go_upto_region 1 with fail
      generalize ((w.alloc (.cells #[.slice a n ca, .slice b m cb] 49)).alloc (.cells #[.slice none 0 0, .slice none 0 0] 49)) = V at *
      go_wp2
      refine bodyPost_ret (v := snV a n ca b m cb) (by simp [results, Try.results16, go_sem, snV, y0, y1, z0, z1]) rfl ⟨rfl, ?_⟩
      exact (BV.out.setCell (p := ⟨w.heap.size + 1, 0, none⟩) (Nat.le_succ _) _).setCell (p := ⟨w.heap.size + 1, 1, none⟩) (Nat.le_succ _) _
end Go.Proofs.Ytbgninmkglgfeaa
