/- Rectangle of both, CrossBoard of the model; the laws' helpers for boards. -/
import Derived.Test.YtpdhdogllejdbaaDoorHolesB
namespace Go.Proofs.YtpdhdogllejdbaaDoor
open Go.RowKit
theorem row_facts {w : World} {b : Nat} {x y z : Value} {t : TypeId} (h : w.heap[b]? = some (.cells #[x, y, z] t (0, 0))) :
    w.cell? ⟨b, 0, none⟩ = some x ∧ w.cell? ⟨b, 1, none⟩ = some y ∧ w.cell? ⟨b, 2, none⟩ = some z ∧ w.frozen? ⟨b, 0, none⟩ = false ∧ w.frozen? ⟨b, 1, none⟩ = false ∧ w.frozen? ⟨b, 2, none⟩ = false := by
  refine ⟨?_, ?_, ?_, frozen_of_row w b 0 _ _ h, frozen_of_row w b 1 _ _ h, frozen_of_row w b 2 _ _ h⟩
  all_goals (rw [cell_of_row w b _ _ _ _ h]; rfl)
theorem row_later {w w' : World} {b : Nat} {o : Obj} {B : Nat} (h : w.heap[b]? = some o) (hb : Below B w w') (hB : b < B) : w'.heap[b]? = some o := (hb.block b hB).trans h
theorem row_alloc {w : World} {b : Nat} {o o' : Obj} (h : w.heap[b]? = some o) : (w.alloc o').heap[b]? = some o := by
  have hlt : b < w.heap.size := by
    rcases Nat.lt_or_ge b w.heap.size with h' | h'
    · exact h'
    · rw [Array.getElem?_eq_none h'] at h; cases h
  exact (((Below.refl w.heap.size w).alloc (Nat.le_refl _) o').block b hlt).trans h
theorem set_below {w0 w : World} {B b j : Nat} {v : Value} (h : Below B w0 w) (hb : B ≤ b) : Below B w0 (w.setCell ⟨b, j, none⟩ v) := h.setCell hb _
/-- A block of three cells, stored anew. -/
def set3 (w : World) (b : Nat) (x y z : Value) : World := ((w.setCell ⟨b, 0, none⟩ x).setCell ⟨b, 1, none⟩ y).setCell ⟨b, 2, none⟩ z
theorem row_set3 {w : World} {b : Nat} {x y z x' y' z' : Value} {T : TypeId} (h : w.heap[b]? = some (.cells #[x, y, z] T (0, 0))) : (set3 w b x' y' z').heap[b]? = some (.cells #[x', y', z'] T (0, 0)) :=
  heap_setCell_same _ b 2 _ T _ (heap_setCell_same _ b 1 _ T _ (heap_setCell_same w b 0 _ T _ h))
theorem set3_size (w : World) (b : Nat) (x y z : Value) : (set3 w b x y z).heap.size = w.heap.size := by simp [set3]
theorem set3_below {w0 w : World} {b : Nat} {x y z : Value} (h : Below w0.heap.size w0 w) (hb : w0.heap.size ≤ b) : Below w0.heap.size w0 (set3 w b x y z) := set_below (set_below (set_below h hb) hb) hb
theorem set3_more {w0 w : World} {b : Nat} {x y z : Value} (o : Obj) (h : Below w0.heap.size w0 w) (hb : w0.heap.size ≤ b) : Below w0.heap.size w0 ((set3 w b x y z).alloc o) :=
  (set3_below h hb).alloc (by rw [set3_size]; exact h.size) o
theorem row_set3_more {w : World} {b : Nat} {x y z x' y' z' : Value} {T : TypeId} (o : Obj) (h : w.heap[b]? = some (.cells #[x, y, z] T (0, 0))) : ((set3 w b x' y' z').alloc o).heap[b]? = some (.cells #[x', y', z'] T (0, 0)) := row_alloc (row_set3 h)
/-- Three ints as a board. -/
def bd (W H Z : Int) : Value := .agg #[.int .i64 W, .int .i64 H, .int .i64 Z]
set_option maxRecDepth 100000 in
theorem toB (W H Z : Int) (w : World) : Calls Tryd.prog 17 #[.agg #[.int .i64 W, .int .i64 H, .int .i64 Z]] w fun e w' => e = .returned (.agg #[.int .i64 W, .int .i64 H, .int .i64 Z]) ∧ Below w.heap.size w w' := by
  go_enter Tryd.func17, Tryd.ntmps17
  go_wp2_with fail
  exact bodyPost_ret (v := .agg #[.int .i64 W, .int .i64 H, .int .i64 Z]) (by simp [results, Tryd.results17, go_sem]) rfl ⟨rfl, (((Below.refl _ _).alloc (Nat.le_refl _) _).alloc (by simp) _).alloc (by simp; omega) _⟩
/-- The board of all holes, or the zero board. -/
def rectZ (W H : Int) : Int × Int × Int := if sideB W && sideB H then (W, H, 2 ^ (W * H).toNat - 1) else (0, 0, 0)
theorem rect_no1 {W H : Int} (h : sideB W = false) : rectZ W H = (0, 0, 0) := by simp [rectZ, h]
theorem rect_no2 {W H : Int} (h : sideB H = false) : rectZ W H = (0, 0, 0) := by simp [rectZ, h]
theorem rect_yes {W H : Int} (h1 : sideB W = true) (h2 : sideB H = true) {N : Nat} (h : W * H = N) : rectZ W H = (W, H, 2 ^ N - 1) := by simp [rectZ, h1, h2, h]
def RectPost (W H : Int) (w : World) (e : Ending) (w' : World) : Prop := e = .returned (bd (rectZ W H).1 (rectZ W H).2.1 (rectZ W H).2.2) ∧ Below w.heap.size w w'
set_option maxRecDepth 100000 in
theorem specRect (W H : Int) (w : World) : Calls Tryd.prog 33 #[.int .i64 W, .int .i64 H] w (RectPost W H w) := by
  have e7 : ∀ n, inB n 1 7 = sideB n := fun _ => rfl
  cases h1 : sideB W
  · have HE := Lib.hid (rect_no1 (H := H) h1)
    go_enter Tryd.func33, Tryd.ntmps33
    go_wp2_with fail
    refine (specIn _ _ _ _).mono ?_
    rintro e w1 ⟨rfl, rfl⟩
    rw [e7, h1]
    go_wp2_with fail
    exact bodyPost_ret (v := bd 0 0 0) (by simp [results, Tryd.results33, go_sem, bd]) rfl ⟨by rw [HE.out], (Below.refl _ _).alloc (Nat.le_refl _) _⟩
  · cases h2 : sideB H
    · have HE := Lib.hid (rect_no2 (W := W) h2)
      go_enter Tryd.func33, Tryd.ntmps33
      go_wp2_with fail
      refine (specIn _ _ _ _).mono ?_
      rintro e w1 ⟨rfl, rfl⟩
      rw [e7, h1]
      go_wp2_with fail
      refine (specIn _ _ _ _).mono ?_
      rintro e w1 ⟨rfl, rfl⟩
      rw [e7, h2]
      go_wp2_with fail
      exact bodyPost_ret (v := bd 0 0 0) (by simp [results, Tryd.results33, go_sem, bd]) rfl ⟨by rw [HE.out], (Below.refl _ _).alloc (Nat.le_refl _) _⟩
    · obtain ⟨N, hN, n0, n1, -, -, -, -⟩ := sides h1 h2
      obtain ⟨p1, p2⟩ := pow_le49 n1
      have HE := Lib.hid (rect_yes h1 h2 hN)
      go_enter Tryd.func33, Tryd.ntmps33
      go_wp2_with fail
      refine (specIn _ _ _ _).mono ?_
      rintro e w1 ⟨rfl, rfl⟩
      rw [e7, h1]
      go_wp2_with fail
      refine (specIn _ _ _ _).mono ?_
      rintro e w1 ⟨rfl, rfl⟩
      rw [e7, h2]
      go_wp2_with fail
      exact bodyPost_ret (v := bd W H (2 ^ N - 1)) (by simp [results, Tryd.results33, go_sem, bd]) rfl ⟨by rw [HE.out], (Below.refl _ _).alloc (Nat.le_refl _) _⟩
set_option maxRecDepth 100000 in
theorem implRect (W H : Int) (w : World) : Calls Tryd.prog 14 #[.int .i64 W, .int .i64 H] w (RectPost W H w) := by
  cases h1 : sideB W
  · have HE := Lib.hid (rect_no1 (H := H) h1)
    go_enter Tryd.func14, Tryd.ntmps14
    go_wp2_with fail
    refine (implSide _ _).mono ?_
    rintro e w1 ⟨rfl, rfl⟩
    rw [h1]
    go_wp2_with fail
    exact bodyPost_ret (v := bd 0 0 0) (by simp [results, Tryd.results14, go_sem, bd]) rfl ⟨by rw [HE.out], (Below.refl _ _).alloc (Nat.le_refl _) _⟩
  · cases h2 : sideB H
    · have HE := Lib.hid (rect_no2 (W := W) h2)
      go_enter Tryd.func14, Tryd.ntmps14
      go_wp2_with fail
      refine (implSide _ _).mono ?_
      rintro e w1 ⟨rfl, rfl⟩
      rw [h1]
      go_wp2_with fail
      refine (implSide _ _).mono ?_
      rintro e w1 ⟨rfl, rfl⟩
      rw [h2]
      go_wp2_with fail
      exact bodyPost_ret (v := bd 0 0 0) (by simp [results, Tryd.results14, go_sem, bd]) rfl ⟨by rw [HE.out], (Below.refl _ _).alloc (Nat.le_refl _) _⟩
    · obtain ⟨N, hN, n0, n1, -, -, -, -⟩ := sides h1 h2
      obtain ⟨p1, p2⟩ := pow_le49 n1
      have HE := Lib.hid (rect_yes h1 h2 hN)
      have C1 := Lib.hid (fun Z w => implAll W H Z w N hN n1)
      clear hN
      go_enter Tryd.func14, Tryd.ntmps14
      go_wp2_with fail
      refine (implSide _ _).mono ?_
      rintro e w1 ⟨rfl, rfl⟩
      rw [h1]
      go_wp2_with fail
      refine (implSide _ _).mono ?_
      rintro e w1 ⟨rfl, rfl⟩
      rw [h2]
      go_wp2_with fail
      have hA : (w.alloc (.cells #[.int .i64 0, .int .i64 0, .int .i64 0] 25)).heap[w.heap.size]? = some (.cells #[.int .i64 0, .int .i64 0, .int .i64 0] 25 (0, 0)) := heap_alloc_new w _
      have hS : (w.alloc (.cells #[.int .i64 0, .int .i64 0, .int .i64 0] 25)).heap.size = w.heap.size + 1 := by simp
      have hB : Below w.heap.size w (w.alloc (.cells #[.int .i64 0, .int .i64 0, .int .i64 0] 25)) := (Below.refl _ _).alloc (Nat.le_refl _) _
      generalize w.alloc (.cells #[.int .i64 0, .int .i64 0, .int .i64 0] 25) = W1 at *
      have hA2 := row_alloc (o' := .cells #[.int .i64 W, .int .i64 H, .int .i64 0] 25) hA
      have hC := heap_alloc_new W1 (.cells #[.int .i64 W, .int .i64 H, .int .i64 0] 25)
      rw [hS] at hC
      have hB2 : Below w.heap.size w (W1.alloc (.cells #[.int .i64 W, .int .i64 H, .int .i64 0] 25)) := hB.alloc (by omega) _
      have hS2 : (W1.alloc (.cells #[.int .i64 W, .int .i64 H, .int .i64 0] 25)).heap.size = w.heap.size + 2 := by simp [hS]
      generalize W1.alloc (.cells #[.int .i64 W, .int .i64 H, .int .i64 0] 25) = W2 at *
      refine (C1.out _ _).mono ?_
      rintro e w1 ⟨rfl, hb⟩
      obtain ⟨a0, a1, a2, f0, f1, f2⟩ := row_facts (row_later hA2 hb (by omega))
      obtain ⟨c0, c1, c2, g0, g1, g2⟩ := row_facts (row_later hC hb (by omega))
      have hbw := hB2.trans (hb.mono (by omega))
      clear hA hB hA2 hC hB2 hb hS hS2
      go_wp2_with fail
      exact bodyPost_ret (v := bd W H (2 ^ N - 1)) (by simp [results, Tryd.results14, go_sem, bd, a0, a1, a2]) rfl ⟨by rw [HE.out], set_below (set_below (set_below (set_below hbw (Nat.le_succ _)) (Nat.le_refl _)) (Nat.le_refl _)) (Nat.le_refl _)⟩
def armB (k : Nat) : Bool := decide (2 ≤ k % 7 ∧ k % 7 ≤ 4 ∨ 2 ≤ k / 7 ∧ k / 7 ≤ 4)
/-- The sum of the holes of the cross below k. -/
def crossN : Nat → Nat
  | 0 => 0
  | k + 1 => if armB k then crossN k + 2 ^ k else crossN k
theorem cross_or : ∀ k : Fin 49, armB k.val = true → bits .or .i64 (crossN k.val : Int) (2 ^ k.val) = (crossN (k.val + 1) : Nat) := by decide +kernel
theorem cross_no (k : Nat) (h : armB k = false) : crossN (k + 1) = crossN k := by simp [crossN, h]
def zero3 (w : World) (b : Nat) : Prop := w.heap[b]? = some (.cells #[.int .i64 0, .int .i64 0, .int .i64 0] 25 (0, 0))
def at7 (w : World) (b k : Nat) : Prop := w.heap[b]? = some (.cells #[.int .i64 7, .int .i64 7, .int .i64 (crossN k)] 25 (0, 0))
theorem at7_set {w : World} {b k : Nat} (h : at7 w b k) : at7 (w.setCell ⟨b, 2, none⟩ (.int .i64 (crossN (k + 1)))) b (k + 1) :=
  heap_setCell_same w b 2 _ 25 _ h
def CrossPost (w : World) (e : Ending) (w' : World) : Prop := e = .returned (bd 7 7 (crossN 49)) ∧ Below w.heap.size w w'
end Go.Proofs.YtpdhdogllejdbaaDoor
