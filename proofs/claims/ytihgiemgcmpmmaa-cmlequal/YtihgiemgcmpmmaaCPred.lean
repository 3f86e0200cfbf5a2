/-
  What stands in a PAIR's way: makes, unmakes, namesEntry, inTheWay of the package cml.
-/
import Derived.Test.YtihgiemgcmpmmaaCMap
namespace Go.Proofs.Ytihgiemgcmpmmaa
open Go.RowKit Go.ChangeShapes Go.WideShapes Go.ChangeAt Go.Maps Go.Shelf
set_option linter.unusedVariables false
set_option linter.unusedSimpArgs false
def makesF (k : Int) : Bool := k == 1 || k == 2 || k == 3
def unmakesF (x m : Rec) : Bool := (x.k == if m.k = 2 then 6 else 5) && (x.dir == m.dir) && (x.nm.toList == m.nm.toList)
def namesF (x : Rec) (at' : Int) (nm : ByteArray) : Bool := (x.dir == at' && x.nm.toList == nm.toList) || (x.to == at' && x.nm2.toList == nm.toList)
def wayF (x m : Rec) : Bool := !(setsF x.k && x.fid == m.fid) && (touchF x m.fid || namesF x m.dir m.nm)
set_option maxHeartbeats 1000000 in
theorem makes_c (k : Int) (w : World) : Calls Try.prog 46 #[.int .u8 k] w fun e w' => e = .returned (.bool (makesF k)) ∧ w' = w := by
  unfold makesF
  cases e1 : (k == 1) <;> cases e2 : (k == 2) <;> cases e3 : (k == 3) <;> (go_enter Try.func46, Try.ntmps46; go_wp2; go_ret; exact ⟨by first | rfl | simp_all, rfl⟩)
set_option maxRecDepth 20000 in
set_option maxHeartbeats 1000000 in
theorem unmakes_c (x m : Rec) (b o b' o' : Nat) (w : World) (hx : RcAt w b o x) (hm : RcAt w b' o' m) :
    Calls Try.prog 47 #[.pointer (some ⟨b, o, none⟩), .pointer (some ⟨b', o', none⟩)] w fun e w' => e = .returned (.bool (unmakesF x m)) ∧ Below w.heap.size w w' := by
  have x0 : w.cell? ⟨b, o, none⟩ = some (.int .u8 x.k) := hx 0 _ rfl
  have x2 : w.cell? ⟨b, o + 2, none⟩ = some (.int .u32 x.dir) := hx 2 _ rfl
  have x3 : w.cell? ⟨b, o + 3, none⟩ = some (.string x.nm) := hx 3 _ rfl
  have m0 : w.cell? ⟨b', o', none⟩ = some (.int .u8 m.k) := hm 0 _ rfl
  have m2 : w.cell? ⟨b', o' + 2, none⟩ = some (.int .u32 m.dir) := hm 2 _ rfl
  have m3 : w.cell? ⟨b', o' + 3, none⟩ = some (.string m.nm) := hm 3 _ rfl
  clear hx hm
  unfold unmakesF
  by_cases e2 : m.k = 2
  · have e2' : (m.k == 2) = true := by simpa using e2
    rw [if_pos e2]
    cases e0 : (x.k == 6) <;> cases e1 : (x.dir == m.dir) <;> (go_enter Try.func47, Try.ntmps47; go_wp2; go_region; go_wp2; go_ret; exact ⟨by first | rfl | simp_all, by first | exact Below.refl _ _ | exact Below.drew (Below.refl _ _)⟩)
  · have e2' : (m.k == 2) = false := by simpa using e2
    rw [if_neg e2]
    cases e0 : (x.k == 5) <;> cases e1 : (x.dir == m.dir) <;> (go_enter Try.func47, Try.ntmps47; go_wp2; go_region; go_wp2; go_ret; exact ⟨by first | rfl | simp_all, by first | exact Below.refl _ _ | exact Below.drew (Below.refl _ _)⟩)
set_option maxRecDepth 20000 in
set_option maxHeartbeats 1000000 in
theorem names_c (x : Rec) (f : Int) (nm : ByteArray) (b o : Nat) (w : World) (hx : RcAt w b o x) :
    Calls Try.prog 55 #[.pointer (some ⟨b, o, none⟩), .int .u32 f, .string nm] w fun e w' => e = .returned (.bool (namesF x f nm)) ∧ w' = w := by
  have x2 : w.cell? ⟨b, o + 2, none⟩ = some (.int .u32 x.dir) := hx 2 _ rfl
  have x3 : w.cell? ⟨b, o + 3, none⟩ = some (.string x.nm) := hx 3 _ rfl
  have x4 : w.cell? ⟨b, o + 4, none⟩ = some (.int .u32 x.to) := hx 4 _ rfl
  have x5 : w.cell? ⟨b, o + 5, none⟩ = some (.string x.nm2) := hx 5 _ rfl
  clear hx
  unfold namesF
  cases e1 : (x.dir == f) <;> cases e2 : (x.nm.toList == nm.toList) <;> cases e3 : (x.to == f) <;> (go_enter Try.func55, Try.ntmps55; go_wp2; go_ret; exact ⟨by first | rfl | simp_all, rfl⟩)
set_option maxRecDepth 20000 in
set_option maxHeartbeats 4000000 in
theorem way_c (x m : Rec) (b o b' o' : Nat) (w : World) (hx : RcAt w b o x) (hm : RcAt w b' o' m) :
    Calls Try.prog 48 #[.pointer (some ⟨b, o, none⟩), .pointer (some ⟨b', o', none⟩)] w fun e w' => e = .returned (.bool (wayF x m)) ∧ Below w.heap.size w w' := by
  have HX := hid hx
  have HM := hid hm
  have x0 : ∀ w', Below w.heap.size w w' → w'.cell? ⟨b, o, none⟩ = some (.int .u8 x.k) := fun w' h => (hx.later h) 0 _ rfl
  have x1 : ∀ w', Below w.heap.size w w' → w'.cell? ⟨b, o + 1, none⟩ = some (.int .u32 x.fid) := fun w' h => (hx.later h) 1 _ rfl
  have m1 : ∀ w', Below w.heap.size w w' → w'.cell? ⟨b', o' + 1, none⟩ = some (.int .u32 m.fid) := fun w' h => (hm.later h) 1 _ rfl
  clear hx hm
  unfold wayF
  cases e0 : setsF x.k <;> cases e1 : (x.fid == m.fid)
  all_goals
    have SC0 := fun W => sets_c x.k W
    rw [e0] at SC0
    have SC := hid SC0
    clear SC0
    go_enter Try.func48, Try.ntmps48
    go_wp2
    refine wp_region_class (by kernel_rfl) (by kernel_rfl) ?_
    repeat (first
      | go_big_quiet_skip
      | (go_big_quiet_want
         apply quiet_by
         · intro w1 hw1
           have y0 := x0 w1 hw1
           have y1 := x1 w1 hw1
           have z1 := m1 w1 hw1
           first
             | (go_simp; first | rfl | (go_at_call 32; exact class_same hw1 (SC.out _)))
         · go_simp; rfl
         go_big_quiet_on))
    refine wpQuiet_nil ?_
    intro w1 hw1
    clear x0 x1 m1
    have HX1 := hid (HX.out.later hw1)
    have HM1 := hid (HM.out.later hw1)
    have HB1 := hid hw1
    clear HX HM hw1
    go_wp2_with fail
  all_goals first
    | (go_ret; exact ⟨rfl, HB1.out⟩)
    | skip
  all_goals
    cases e2 : touchF x m.fid
  all_goals
      have TC0 := fun W => touches_c x m.fid W
      rw [e2] at TC0
      have TC := hid TC0
      have NC := hid (fun W (h : Below w1.heap.size w1 W) => names_c x m.dir m.nm b o W (HX1.out.later h))
      clear TC0
      have x0 : ∀ w', Below w1.heap.size w1 w' → w'.cell? ⟨b, o, none⟩ = some (.int .u8 x.k) := fun w' h => (HX1.out.later h) 0 _ rfl
      have x1 : ∀ w', Below w1.heap.size w1 w' → w'.cell? ⟨b, o + 1, none⟩ = some (.int .u32 x.fid) := fun w' h => (HX1.out.later h) 1 _ rfl
      have x2 : ∀ w', Below w1.heap.size w1 w' → w'.cell? ⟨b, o + 2, none⟩ = some (.int .u32 x.dir) := fun w' h => (HX1.out.later h) 2 _ rfl
      have x3 : ∀ w', Below w1.heap.size w1 w' → w'.cell? ⟨b, o + 3, none⟩ = some (.string x.nm) := fun w' h => (HX1.out.later h) 3 _ rfl
      have x4 : ∀ w', Below w1.heap.size w1 w' → w'.cell? ⟨b, o + 4, none⟩ = some (.int .u32 x.to) := fun w' h => (HX1.out.later h) 4 _ rfl
      have x5 : ∀ w', Below w1.heap.size w1 w' → w'.cell? ⟨b, o + 5, none⟩ = some (.string x.nm2) := fun w' h => (HX1.out.later h) 5 _ rfl
      have x6 : ∀ w', Below w1.heap.size w1 w' → w'.cell? ⟨b, o + 6, none⟩ = some (.int .u16 x.md) := fun w' h => (HX1.out.later h) 6 _ rfl
      have x7 : ∀ w', Below w1.heap.size w1 w' → w'.cell? ⟨b, o + 7, none⟩ = some (.string x.dt) := fun w' h => (HX1.out.later h) 7 _ rfl
      have x8 : ∀ w', Below w1.heap.size w1 w' → w'.cell? ⟨b, o + 8, none⟩ = some (.int .u64 x.sn) := fun w' h => (HX1.out.later h) 8 _ rfl
      have m1 : ∀ w', Below w1.heap.size w1 w' → w'.cell? ⟨b', o' + 1, none⟩ = some (.int .u32 m.fid) := fun w' h => (HM1.out.later h) 1 _ rfl
      have m2 : ∀ w', Below w1.heap.size w1 w' → w'.cell? ⟨b', o' + 2, none⟩ = some (.int .u32 m.dir) := fun w' h => (HM1.out.later h) 2 _ rfl
      have m3 : ∀ w', Below w1.heap.size w1 w' → w'.cell? ⟨b', o' + 3, none⟩ = some (.string m.nm) := fun w' h => (HM1.out.later h) 3 _ rfl
      clear HX1 HM1
      refine wp_region_class (by kernel_rfl) (by kernel_rfl) ?_
      repeat (first
        | go_big_quiet_skip
        | (go_big_quiet_want
           apply quiet_by
           · intro w2 hw2
             have x0 := x0 w2 hw2
             have x1 := x1 w2 hw2
             have x2 := x2 w2 hw2
             have x3 := x3 w2 hw2
             have x4 := x4 w2 hw2
             have x5 := x5 w2 hw2
             have x6 := x6 w2 hw2
             have x7 := x7 w2 hw2
             have x8 := x8 w2 hw2
             have m1 := m1 w2 hw2
             have m2 := m2 w2 hw2
             have m3 := m3 w2 hw2
             go_simp
             first
               | rfl
               | (go_at_call 22; exact class_of hw2 (TC.out _))
               | (go_at_call 55; exact class_same hw2 (NC.out _ hw2))
           · go_simp; rfl
           go_big_quiet_on))
      refine wpQuiet_nil ?_
      intro w2 hw2
      go_wp2
      go_ret
      exact ⟨by rw [e2]; rfl, HB1.out.trans (hw2.mono HB1.out.size)⟩
end Go.Proofs.Ytihgiemgcmpmmaa
