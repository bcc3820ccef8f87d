/- Golden numbers of the program: GoldOk, AddGold, TimesGold, SignOf, CompareGold and what they call, for every two ints. -/
import Derived.Test.YtobgcjgjfaegcaaBoards
import Derived.Test.YtobgcjgjfaegcaaGoldMath
namespace Go.Proofs.Ytobgcjgjfaegcaa
open Go.RowKit
set_option linter.unusedVariables false
set_option linter.unusedSimpArgs false
/-- A block of two ints in new memory. -/
def Bg (T : TypeId) (b : Nat) (x y : Int) (w : World) : Prop := w.heap[b]? = some (.cells #[.int .i64 x, .int .i64 y] T (0, 0))
theorem two_facts {w : World} {b : Nat} {x y : Value} {t : TypeId} (h : w.heap[b]? = some (.cells #[x, y] t (0, 0))) :
    w.cell? ⟨b, 0, none⟩ = some x ∧ w.cell? ⟨b, 1, none⟩ = some y ∧ w.frozen? ⟨b, 0, none⟩ = false ∧ w.frozen? ⟨b, 1, none⟩ = false := by
  refine ⟨?_, ?_, frozen_of_row w b 0 _ _ h, frozen_of_row w b 1 _ _ h⟩
  all_goals (rw [cell_of_row w b _ _ _ _ h]; rfl)
theorem Bg.later {T : TypeId} {b : Nat} {x y : Int} {w w' : World} (h : Bg T b x y w) (hb : Below w.heap.size w w') : Bg T b x y w' := closed_row b _ w w' h hb
theorem below_res (w : World) (o1 o2 o3 : Obj) : Below w.heap.size w (((w.alloc o1).alloc o2).alloc o3) :=
  (((Below.refl _ _).alloc (Nat.le_refl _) _).alloc (by simp) _).alloc (by simp; omega) _
def GQ (a b : Int) (w : World) (e : Ending) (w' : World) : Prop := e = .returned (.agg #[.int .i64 a, .int .i64 b]) ∧ Below w.heap.size w w'
def GB (b : Bool) (w : World) (e : Ending) (w' : World) : Prop := e = .returned (.bool b) ∧ Below w.heap.size w w'
def GI (n : Int) (w : World) (e : Ending) (w' : World) : Prop := e = .returned (.int .i64 n) ∧ Below w.heap.size w w'
def GP (r : (Int × Int) × Bool) (w : World) (e : Ending) (w' : World) : Prop := e = .returned (.tuple #[.agg #[.int .i64 r.1.1, .int .i64 r.1.2], .bool r.2]) ∧ Below w.heap.size w w'
set_option maxRecDepth 100000 in
theorem implIsPart (n : Int) (w : World) : Calls Try.prog 34 #[.int .i64 n] w fun e w' => e = .returned (.bool (gpB n)) ∧ w = w' := by
  by_cases h1 : -1000000 ≤ n <;> by_cases h2 : n ≤ 1000000
  all_goals
    go_enter Try.func34, Try.ntmps34
    go_wp2
    go_ret
    refine ⟨ret_bool ?_, rfl⟩
    simp [gpB, h1, h2]
set_option maxRecDepth 100000 in
theorem implGoldOk (a b : Int) (w : World) : Calls Try.prog 18 #[.agg #[.int .i64 a, .int .i64 b]] w (GB (goldB a b) w) := by
  have hg : goldB a b = (gpB a && gpB b) := rfl
  have C := Lib.hid (fun n w => implIsPart n w)
  cases h1 : gpB a
  · rw [h1] at hg
    have HG := Lib.hid hg
    clear hg
    go_enter Try.func18, Try.ntmps18
    go_wp2_with fail
    refine (C.out _ _).mono ?_
    rintro e w1 ⟨rfl, rfl⟩
    rw [h1]
    go_wp2_with fail
    go_ret
    exact ⟨ret_bool (by rw [HG.out]; rfl), (Below.refl _ _).alloc (Nat.le_refl _) _⟩
  · rw [h1] at hg
    have HG := Lib.hid hg
    clear hg
    go_enter Try.func18, Try.ntmps18
    go_wp2_with fail
    refine (C.out _ _).mono ?_
    rintro e w1 ⟨rfl, rfl⟩
    rw [h1]
    go_wp2_with fail
    refine (C.out _ _).mono ?_
    rintro e w1 ⟨rfl, rfl⟩
    go_wp2_with fail
    go_ret
    exact ⟨ret_bool (by rw [HG.out]; simp), (Below.refl _ _).alloc (Nat.le_refl _) _⟩
set_option maxRecDepth 100000 in
theorem implPlus (a b c d : Int) (ha : goldB a b = true) (hc : goldB c d = true) (w : World) : Calls Try.prog 31 #[.agg #[.int .i64 a, .int .i64 b], .agg #[.int .i64 c, .int .i64 d]] w (GQ (a + c) (b + d) w) := by
  obtain ⟨⟨a0, a1⟩, b0, b1⟩ := gold_yes ha
  obtain ⟨⟨c0, c1⟩, d0, d1⟩ := gold_yes hc
  clear ha hc
  go_enter Try.func31, Try.ntmps31
  go_wp2_with fail
  exact bodyPost_ret (v := .agg #[.int .i64 (a + c), .int .i64 (b + d)]) (by simp [results, Try.results31, go_sem]) rfl ⟨rfl, below_res w _ _ _⟩
set_option maxRecDepth 100000 in
theorem implMinus (a b c d : Int) (ha : goldB a b = true) (hc : goldB c d = true) (w : World) : Calls Try.prog 33 #[.agg #[.int .i64 a, .int .i64 b], .agg #[.int .i64 c, .int .i64 d]] w (GQ (a - c) (b - d) w) := by
  obtain ⟨⟨a0, a1⟩, b0, b1⟩ := gold_yes ha
  obtain ⟨⟨c0, c1⟩, d0, d1⟩ := gold_yes hc
  clear ha hc
  go_enter Try.func33, Try.ntmps33
  go_wp2_with fail
  exact bodyPost_ret (v := .agg #[.int .i64 (a - c), .int .i64 (b - d)]) (by simp [results, Try.results33, go_sem]) rfl ⟨rfl, below_res w _ _ _⟩
set_option maxRecDepth 100000 in
theorem implTimes (a b c d : Int) (ha : goldB a b = true) (hc : goldB c d = true) (w : World) : Calls Try.prog 29 #[.agg #[.int .i64 a, .int .i64 b], .agg #[.int .i64 c, .int .i64 d]] w (GQ (a * c + b * d) (a * d + b * c - b * d) w) := by
  obtain ⟨ka, kb⟩ := gold_yes ha
  obtain ⟨kc, kd⟩ := gold_yes hc
  obtain ⟨x0, x1⟩ := mul6 ka kc
  obtain ⟨y0, y1⟩ := mul6 kb kd
  obtain ⟨z0, z1⟩ := mul6 ka kd
  obtain ⟨u0, u1⟩ := mul6 kb kc
  clear ha hc ka kb kc kd
  go_enter Try.func29, Try.ntmps29
  go_wp2_with fail
  exact bodyPost_ret (v := .agg #[.int .i64 (a * c + b * d), .int .i64 (a * d + b * c - b * d)]) (by simp [results, Try.results29, go_sem]) rfl ⟨rfl, below_res w _ _ _⟩
set_option maxRecDepth 100000 in
theorem implIfOk (a b : Int) (w : World) : Calls Try.prog 30 #[.agg #[.int .i64 a, .int .i64 b]] w (GP (okG a b) w) := by
  have C := Lib.hid (fun w => implGoldOk a b w)
  cases h : goldB a b
  · rw [h] at C
    have HG := Lib.hid (show okG a b = ((0, 0), false) by simp [okG, h])
    clear h
    go_enter Try.func30, Try.ntmps30
    go_wp2_with fail
    have B0 : Hid (Bg 25 (w.heap.size + 1) 0 0 ((w.alloc (.cells #[.int .i64 a, .int .i64 b] 25)).alloc (.cells #[.int .i64 0, .int .i64 0] 25))) := by
      have := heap_alloc_new (w.alloc (.cells #[.int .i64 a, .int .i64 b] 25)) (.cells #[.int .i64 0, .int .i64 0] 25)
      simpa [Bg, Hid] using this
    have hb0 : Hid (Below w.heap.size w ((w.alloc (.cells #[.int .i64 a, .int .i64 b] 25)).alloc (.cells #[.int .i64 0, .int .i64 0] 25))) := ((Below.refl _ _).alloc (Nat.le_refl _) _).alloc (by simp) _
    generalize (w.alloc (.cells #[.int .i64 a, .int .i64 b] 25)).alloc (.cells #[.int .i64 0, .int .i64 0] 25) = W1 at *
    refine (C.out _).mono ?_
    rintro e w1 ⟨rfl, hb⟩
    have hb1 := Lib.hid (hb0.out.trans (hb.mono hb0.out.size))
    obtain ⟨k0, k1, f0, f1⟩ := two_facts (B0.out.later hb)
    clear hb B0 hb0
    go_wp2_with fail
    exact bodyPost_ret (v := .tuple #[.agg #[.int .i64 0, .int .i64 0], .bool false]) (by simp [results, Try.results30, go_sem, k0, k1]) rfl ⟨by rw [HG.out], set_below (set_below hb1.out (by omega)) (by omega)⟩
  · rw [h] at C
    have HG := Lib.hid (show okG a b = ((a, b), true) by simp [okG, h])
    clear h
    go_enter Try.func30, Try.ntmps30
    go_wp2_with fail
    have A0 : Hid (Bg 25 w.heap.size a b ((w.alloc (.cells #[.int .i64 a, .int .i64 b] 25)).alloc (.cells #[.int .i64 0, .int .i64 0] 25))) := row_alloc (heap_alloc_new w _)
    have B0 : Hid (Bg 25 (w.heap.size + 1) 0 0 ((w.alloc (.cells #[.int .i64 a, .int .i64 b] 25)).alloc (.cells #[.int .i64 0, .int .i64 0] 25))) := by
      have := heap_alloc_new (w.alloc (.cells #[.int .i64 a, .int .i64 b] 25)) (.cells #[.int .i64 0, .int .i64 0] 25)
      simpa [Bg, Hid] using this
    have hb0 : Hid (Below w.heap.size w ((w.alloc (.cells #[.int .i64 a, .int .i64 b] 25)).alloc (.cells #[.int .i64 0, .int .i64 0] 25))) := ((Below.refl _ _).alloc (Nat.le_refl _) _).alloc (by simp) _
    generalize (w.alloc (.cells #[.int .i64 a, .int .i64 b] 25)).alloc (.cells #[.int .i64 0, .int .i64 0] 25) = W1 at *
    refine (C.out _).mono ?_
    rintro e w1 ⟨rfl, hb⟩
    have hb1 := Lib.hid (hb0.out.trans (hb.mono hb0.out.size))
    obtain ⟨k0, k1, f0, f1⟩ := two_facts (B0.out.later hb)
    obtain ⟨a0, a1, -, -⟩ := two_facts (A0.out.later hb)
    clear hb B0 hb0 A0
    go_wp2_with fail
    exact bodyPost_ret (v := .tuple #[.agg #[.int .i64 a, .int .i64 b], .bool true]) (by simp [results, Try.results30, go_sem, k0, k1]) rfl ⟨by rw [HG.out], set_below (set_below hb1.out (by omega)) (by omega)⟩
theorem gold_no {a b c d : Int} (h : (goldB a b && goldB c d) = false) : addG a b c d = ((0, 0), false) ∧ mulG a b c d = ((0, 0), false) ∧ cmpG a b c d = -2 := by simp [addG, mulG, cmpG, h]
theorem gold_both {a b c d : Int} (h1 : goldB a b = true) (h2 : goldB c d = true) : addG a b c d = okG (a + c) (b + d) ∧ mulG a b c d = okG (a * c + b * d) (a * d + b * c - b * d) ∧ cmpG a b c d = sg (2 * (a - c) - (b - d)) (b - d) := by simp [addG, mulG, cmpG, h1, h2]
/-- The two boxes of the arguments and the one of the result. -/
def Bg3 (a b c d x y : Int) (w0 w : World) : Prop := Bg 25 w0.heap.size a b w ∧ Bg 25 (w0.heap.size + 1) c d w ∧ Bg 25 (w0.heap.size + 2) x y w ∧ Below w0.heap.size w0 w
theorem Bg3.later {a b c d x y : Int} {w0 w w' : World} (h : Bg3 a b c d x y w0 w) (hb : Below w.heap.size w w') : Bg3 a b c d x y w0 w' :=
  ⟨h.1.later hb, h.2.1.later hb, h.2.2.1.later hb, h.2.2.2.trans (hb.mono h.2.2.2.size)⟩
theorem bg3_new (a b c d : Int) (w : World) : Bg3 a b c d 0 0 w (((w.alloc (.cells #[.int .i64 a, .int .i64 b] 25)).alloc (.cells #[.int .i64 c, .int .i64 d] 25)).alloc (.cells #[.int .i64 0, .int .i64 0] 25)) := by
  refine ⟨row_alloc (row_alloc (heap_alloc_new w _)), row_alloc ?_, ?_, below_res _ _ _ _⟩
  · have := heap_alloc_new (w.alloc (.cells #[.int .i64 a, .int .i64 b] 25)) (.cells #[.int .i64 c, .int .i64 d] 25)
    simpa [Bg] using this
  · have := heap_alloc_new ((w.alloc (.cells #[.int .i64 a, .int .i64 b] 25)).alloc (.cells #[.int .i64 c, .int .i64 d] 25)) (.cells #[.int .i64 0, .int .i64 0] 25)
    simpa [Bg] using this
set_option maxRecDepth 100000 in
theorem implAddGold (a b c d : Int) (w : World) : Calls Try.prog 13 #[.agg #[.int .i64 a, .int .i64 b], .agg #[.int .i64 c, .int .i64 d]] w (GP (addG a b c d) w) := by
  have C := Lib.hid (fun a b w => implGoldOk a b w)
  cases h1 : goldB a b
  · have HG := Lib.hid (gold_no (a := a) (b := b) (c := c) (d := d) (by rw [h1]; rfl)).1
    go_enter Try.func13, Try.ntmps13
    go_wp2_with fail
    have B0 := Lib.hid (bg3_new a b c d w)
    generalize (((w.alloc (.cells #[.int .i64 a, .int .i64 b] 25)).alloc (.cells #[.int .i64 c, .int .i64 d] 25)).alloc (.cells #[.int .i64 0, .int .i64 0] 25)) = W1 at *
    obtain ⟨k0, k1, -, -⟩ := two_facts B0.out.1
    go_wp2_with fail
    refine (C.out _ _ _).mono ?_
    rintro e w1 ⟨rfl, hb⟩
    rw [h1]
    have B1 := Lib.hid (B0.out.later hb)
    clear hb k0 k1 B0
    obtain ⟨z0, z1, f0, f1⟩ := two_facts B1.out.2.2.1
    go_wp2_with fail
    exact bodyPost_ret (v := .tuple #[.agg #[.int .i64 0, .int .i64 0], .bool false]) (by simp [results, Try.results13, go_sem, z0, z1]) rfl ⟨by rw [HG.out], set_below (set_below B1.out.2.2.2 (by omega)) (by omega)⟩
  · cases h2 : goldB c d
    · have HG := Lib.hid (gold_no (a := a) (b := b) (c := c) (d := d) (by rw [h1, h2]; rfl)).1
      go_enter Try.func13, Try.ntmps13
      go_wp2_with fail
      have B0 := Lib.hid (bg3_new a b c d w)
      generalize (((w.alloc (.cells #[.int .i64 a, .int .i64 b] 25)).alloc (.cells #[.int .i64 c, .int .i64 d] 25)).alloc (.cells #[.int .i64 0, .int .i64 0] 25)) = W1 at *
      obtain ⟨k0, k1, -, -⟩ := two_facts B0.out.1
      go_wp2_with fail
      refine (C.out _ _ _).mono ?_
      rintro e w1 ⟨rfl, hb⟩
      rw [h1]
      have B1 := Lib.hid (B0.out.later hb)
      clear hb k0 k1 B0
      obtain ⟨k0, k1, -, -⟩ := two_facts B1.out.2.1
      go_wp2_with fail
      refine (C.out _ _ _).mono ?_
      rintro e w2 ⟨rfl, hb⟩
      rw [h2]
      have B2 := Lib.hid (B1.out.later hb)
      clear hb k0 k1 B1
      obtain ⟨z0, z1, f0, f1⟩ := two_facts B2.out.2.2.1
      go_wp2_with fail
      exact bodyPost_ret (v := .tuple #[.agg #[.int .i64 0, .int .i64 0], .bool false]) (by simp [results, Try.results13, go_sem, z0, z1]) rfl ⟨by rw [HG.out], set_below (set_below B2.out.2.2.2 (by omega)) (by omega)⟩
    · have HG := Lib.hid (gold_both h1 h2).1
      have CP := Lib.hid (fun w => implPlus a b c d h1 h2 w)
      have CO := Lib.hid (fun x y w => implIfOk x y w)
      go_enter Try.func13, Try.ntmps13
      go_wp2_with fail
      have B0 := Lib.hid (bg3_new a b c d w)
      generalize (((w.alloc (.cells #[.int .i64 a, .int .i64 b] 25)).alloc (.cells #[.int .i64 c, .int .i64 d] 25)).alloc (.cells #[.int .i64 0, .int .i64 0] 25)) = W1 at *
      obtain ⟨k0, k1, -, -⟩ := two_facts B0.out.1
      go_wp2_with fail
      refine (C.out _ _ _).mono ?_
      rintro e w1 ⟨rfl, hb⟩
      rw [h1]
      have B1 := Lib.hid (B0.out.later hb)
      clear hb k0 k1 B0
      obtain ⟨k0, k1, -, -⟩ := two_facts B1.out.2.1
      go_wp2_with fail
      refine (C.out _ _ _).mono ?_
      rintro e w2 ⟨rfl, hb⟩
      rw [h2]
      have B2 := Lib.hid (B1.out.later hb)
      clear hb k0 k1 B1 h1 h2 C
      obtain ⟨k0, k1, -, -⟩ := two_facts B2.out.1
      obtain ⟨l0, l1, -, -⟩ := two_facts B2.out.2.1
      go_wp2_with fail
      refine (CP.out _).mono ?_
      rintro e w3 ⟨rfl, hb⟩
      have B3 := Lib.hid (B2.out.later hb)
      clear hb k0 k1 l0 l1 B2
      generalize a + c = x at *
      generalize b + d = y at *
      go_wp2_with fail
      refine (CO.out _ _ _).mono ?_
      rintro e w4 ⟨rfl, hb⟩
      have B4 := Lib.hid (B3.out.later hb)
      obtain ⟨⟨⟨u, v⟩, t⟩, hr⟩ : ∃ r, okG x y = r := ⟨_, rfl⟩
      rw [hr] at HG ⊢
      clear hb B3 CO CP hr
      obtain ⟨z0, z1, f0, f1⟩ := two_facts B4.out.2.2.1
      go_wp2_with fail
      exact bodyPost_ret (v := .tuple #[.agg #[.int .i64 u, .int .i64 v], .bool t]) (by simp [results, Try.results13, go_sem, z0, z1]) rfl ⟨by rw [HG.out], set_below (set_below B4.out.2.2.2 (by omega)) (by omega)⟩
set_option maxRecDepth 100000 in
theorem implTimesGold (a b c d : Int) (w : World) : Calls Try.prog 12 #[.agg #[.int .i64 a, .int .i64 b], .agg #[.int .i64 c, .int .i64 d]] w (GP (mulG a b c d) w) := by
  have C := Lib.hid (fun a b w => implGoldOk a b w)
  cases h1 : goldB a b
  · have HG := Lib.hid (gold_no (a := a) (b := b) (c := c) (d := d) (by rw [h1]; rfl)).2.1
    go_enter Try.func12, Try.ntmps12
    go_wp2_with fail
    have B0 := Lib.hid (bg3_new a b c d w)
    generalize (((w.alloc (.cells #[.int .i64 a, .int .i64 b] 25)).alloc (.cells #[.int .i64 c, .int .i64 d] 25)).alloc (.cells #[.int .i64 0, .int .i64 0] 25)) = W1 at *
    obtain ⟨k0, k1, -, -⟩ := two_facts B0.out.1
    go_wp2_with fail
    refine (C.out _ _ _).mono ?_
    rintro e w1 ⟨rfl, hb⟩
    rw [h1]
    have B1 := Lib.hid (B0.out.later hb)
    clear hb k0 k1 B0
    obtain ⟨z0, z1, f0, f1⟩ := two_facts B1.out.2.2.1
    go_wp2_with fail
    exact bodyPost_ret (v := .tuple #[.agg #[.int .i64 0, .int .i64 0], .bool false]) (by simp [results, Try.results12, go_sem, z0, z1]) rfl ⟨by rw [HG.out], set_below (set_below B1.out.2.2.2 (by omega)) (by omega)⟩
  · cases h2 : goldB c d
    · have HG := Lib.hid (gold_no (a := a) (b := b) (c := c) (d := d) (by rw [h1, h2]; rfl)).2.1
      go_enter Try.func12, Try.ntmps12
      go_wp2_with fail
      have B0 := Lib.hid (bg3_new a b c d w)
      generalize (((w.alloc (.cells #[.int .i64 a, .int .i64 b] 25)).alloc (.cells #[.int .i64 c, .int .i64 d] 25)).alloc (.cells #[.int .i64 0, .int .i64 0] 25)) = W1 at *
      obtain ⟨k0, k1, -, -⟩ := two_facts B0.out.1
      go_wp2_with fail
      refine (C.out _ _ _).mono ?_
      rintro e w1 ⟨rfl, hb⟩
      rw [h1]
      have B1 := Lib.hid (B0.out.later hb)
      clear hb k0 k1 B0
      obtain ⟨k0, k1, -, -⟩ := two_facts B1.out.2.1
      go_wp2_with fail
      refine (C.out _ _ _).mono ?_
      rintro e w2 ⟨rfl, hb⟩
      rw [h2]
      have B2 := Lib.hid (B1.out.later hb)
      clear hb k0 k1 B1
      obtain ⟨z0, z1, f0, f1⟩ := two_facts B2.out.2.2.1
      go_wp2_with fail
      exact bodyPost_ret (v := .tuple #[.agg #[.int .i64 0, .int .i64 0], .bool false]) (by simp [results, Try.results12, go_sem, z0, z1]) rfl ⟨by rw [HG.out], set_below (set_below B2.out.2.2.2 (by omega)) (by omega)⟩
    · have HG := Lib.hid (gold_both h1 h2).2.1
      have CP := Lib.hid (fun w => implTimes a b c d h1 h2 w)
      have CO := Lib.hid (fun x y w => implIfOk x y w)
      go_enter Try.func12, Try.ntmps12
      go_wp2_with fail
      have B0 := Lib.hid (bg3_new a b c d w)
      generalize (((w.alloc (.cells #[.int .i64 a, .int .i64 b] 25)).alloc (.cells #[.int .i64 c, .int .i64 d] 25)).alloc (.cells #[.int .i64 0, .int .i64 0] 25)) = W1 at *
      obtain ⟨k0, k1, -, -⟩ := two_facts B0.out.1
      go_wp2_with fail
      refine (C.out _ _ _).mono ?_
      rintro e w1 ⟨rfl, hb⟩
      rw [h1]
      have B1 := Lib.hid (B0.out.later hb)
      clear hb k0 k1 B0
      obtain ⟨k0, k1, -, -⟩ := two_facts B1.out.2.1
      go_wp2_with fail
      refine (C.out _ _ _).mono ?_
      rintro e w2 ⟨rfl, hb⟩
      rw [h2]
      have B2 := Lib.hid (B1.out.later hb)
      clear hb k0 k1 B1 h1 h2 C
      obtain ⟨k0, k1, -, -⟩ := two_facts B2.out.1
      obtain ⟨l0, l1, -, -⟩ := two_facts B2.out.2.1
      go_wp2_with fail
      refine (CP.out _).mono ?_
      rintro e w3 ⟨rfl, hb⟩
      have B3 := Lib.hid (B2.out.later hb)
      clear hb k0 k1 l0 l1 B2
      generalize a * c + b * d = x at *
      generalize a * d + b * c - b * d = y at *
      go_wp2_with fail
      refine (CO.out _ _ _).mono ?_
      rintro e w4 ⟨rfl, hb⟩
      have B4 := Lib.hid (B3.out.later hb)
      obtain ⟨⟨⟨u, v⟩, t⟩, hr⟩ : ∃ r, okG x y = r := ⟨_, rfl⟩
      rw [hr] at HG ⊢
      clear hb B3 CO CP hr
      obtain ⟨z0, z1, f0, f1⟩ := two_facts B4.out.2.2.1
      go_wp2_with fail
      exact bodyPost_ret (v := .tuple #[.agg #[.int .i64 u, .int .i64 v], .bool t]) (by simp [results, Try.results12, go_sem, z0, z1]) rfl ⟨by rw [HG.out], set_below (set_below B4.out.2.2.2 (by omega)) (by omega)⟩
end Go.Proofs.Ytobgcjgjfaegcaa
