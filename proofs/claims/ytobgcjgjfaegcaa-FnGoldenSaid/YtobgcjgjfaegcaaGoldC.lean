/- Golden numbers of the model: GoldOk, AddGold, TimesGold, SignOf, CompareGold, PowerOf, for every int; the laws' helpers for golden numbers. -/
import Derived.Test.YtobgcjgjfaegcaaGoldB
namespace Go.Proofs.Ytobgcjgjfaegcaa
open Go.RowKit
set_option linter.unusedVariables false
set_option linter.unusedSimpArgs false
set_option maxRecDepth 100000 in
theorem specGoldOk (a b : Int) (w : World) : Calls Try.prog 19 #[.agg #[.int .i64 a, .int .i64 b]] w (GB (goldB a b) w) := by
  have hg : goldB a b = (gpB a && gpB b) := rfl
  have e0 : ∀ n, inB n (-1000000) 1000000 = gpB n := fun _ => rfl
  have C := Lib.hid (fun n w => specIn n (-1000000) 1000000 w)
  cases h1 : gpB a
  · rw [h1] at hg
    have HG := Lib.hid hg
    clear hg
    go_enter Try.func19, Try.ntmps19
    go_wp2_with fail
    refine (C.out _ _).mono ?_
    rintro e w1 ⟨rfl, rfl⟩
    rw [e0, h1]
    go_wp2_with fail
    go_ret
    exact ⟨ret_bool (by rw [HG.out]; rfl), (Below.refl _ _).alloc (Nat.le_refl _) _⟩
  · rw [h1] at hg
    have HG := Lib.hid hg
    clear hg
    go_enter Try.func19, Try.ntmps19
    go_wp2_with fail
    refine (C.out _ _).mono ?_
    rintro e w1 ⟨rfl, rfl⟩
    rw [e0, h1]
    go_wp2_with fail
    refine (C.out _ _).mono ?_
    rintro e w1 ⟨rfl, rfl⟩
    rw [e0]
    go_wp2_with fail
    go_ret
    exact ⟨ret_bool (by rw [HG.out]; simp), (Below.refl _ _).alloc (Nat.le_refl _) _⟩
theorem ok_yes {x y : Int} (h : goldB x y = true) : okG x y = ((x, y), true) := by simp [okG, h]
theorem ok_no {x y : Int} (h : goldB x y = false) : okG x y = ((0, 0), false) := by simp [okG, h]
/-- Three boxes and a fourth. -/
theorem bg3_more {a b c d x y : Int} {w0 w : World} (o : Obj) (h : Bg3 a b c d x y w0 w) : Bg3 a b c d x y w0 (w.alloc o) := h.later ((Below.refl _ _).alloc (Nat.le_refl _) _)
set_option maxHeartbeats 1000000 in
set_option maxRecDepth 100000 in
theorem specAddGold (a b c d : Int) (w : World) : Calls Try.prog 21 #[.agg #[.int .i64 a, .int .i64 b], .agg #[.int .i64 c, .int .i64 d]] w (GP (addG a b c d) w) := by
  have C := Lib.hid (fun a b w => specGoldOk a b w)
  cases h1 : goldB a b
  · have HG := Lib.hid (gold_no (a := a) (b := b) (c := c) (d := d) (by rw [h1]; rfl)).1
    go_enter Try.func21, Try.ntmps21
    go_wp2_with fail
    have B0 := Lib.hid (bg3_new a b c d w)
    generalize (((w.alloc (.cells #[.int .i64 a, .int .i64 b] 25)).alloc (.cells #[.int .i64 c, .int .i64 d] 25)).alloc (.cells #[.int .i64 0, .int .i64 0] 25)) = W1 at *
    obtain ⟨k0, k1, -, -⟩ := two_facts B0.out.1
    go_wp2_with fail
    refine (C.out _ _ _).mono ?_
    rintro e w1 ⟨rfl, hb⟩
    rw [h1]
    have B1 := Lib.hid (B0.out.later hb)
    clear hb k0 k1 B0
    obtain ⟨z0, z1, f0, f1⟩ := two_facts B1.out.2.2.1
    go_wp2_with fail
    exact bodyPost_ret (v := .tuple #[.agg #[.int .i64 0, .int .i64 0], .bool false]) (by simp [results, Try.results21, go_sem, z0, z1]) rfl ⟨by rw [HG.out], set_below (set_below B1.out.2.2.2 (by omega)) (by omega)⟩
  · cases h2 : goldB c d
    · have HG := Lib.hid (gold_no (a := a) (b := b) (c := c) (d := d) (by rw [h1, h2]; rfl)).1
      go_enter Try.func21, Try.ntmps21
      go_wp2_with fail
      have B0 := Lib.hid (bg3_new a b c d w)
      generalize (((w.alloc (.cells #[.int .i64 a, .int .i64 b] 25)).alloc (.cells #[.int .i64 c, .int .i64 d] 25)).alloc (.cells #[.int .i64 0, .int .i64 0] 25)) = W1 at *
      obtain ⟨k0, k1, -, -⟩ := two_facts B0.out.1
      go_wp2_with fail
      refine (C.out _ _ _).mono ?_
      rintro e w1 ⟨rfl, hb⟩
      rw [h1]
      have B1 := Lib.hid (B0.out.later hb)
      clear hb k0 k1 B0
      obtain ⟨k0, k1, -, -⟩ := two_facts B1.out.2.1
      go_wp2_with fail
      refine (C.out _ _ _).mono ?_
      rintro e w2 ⟨rfl, hb⟩
      rw [h2]
      have B2 := Lib.hid (B1.out.later hb)
      clear hb k0 k1 B1
      obtain ⟨z0, z1, f0, f1⟩ := two_facts B2.out.2.2.1
      go_wp2_with fail
      exact bodyPost_ret (v := .tuple #[.agg #[.int .i64 0, .int .i64 0], .bool false]) (by simp [results, Try.results21, go_sem, z0, z1]) rfl ⟨by rw [HG.out], set_below (set_below B2.out.2.2.2 (by omega)) (by omega)⟩
    · have HG := Lib.hid (gold_both h1 h2).1
      obtain ⟨ka, kb⟩ := gold_yes h1
      obtain ⟨kc, kd⟩ := gold_yes h2
      obtain ⟨a0, a1⟩ := ka; obtain ⟨b0, b1⟩ := kb; obtain ⟨c0, c1⟩ := kc; obtain ⟨d0, d1⟩ := kd
      go_enter Try.func21, Try.ntmps21
      go_wp2_with fail
      have B0 := Lib.hid (bg3_new a b c d w)
      generalize (((w.alloc (.cells #[.int .i64 a, .int .i64 b] 25)).alloc (.cells #[.int .i64 c, .int .i64 d] 25)).alloc (.cells #[.int .i64 0, .int .i64 0] 25)) = W1 at *
      obtain ⟨k0, k1, -, -⟩ := two_facts B0.out.1
      go_wp2_with fail
      refine (C.out _ _ _).mono ?_
      rintro e w1 ⟨rfl, hb⟩
      rw [h1]
      have B1 := Lib.hid (B0.out.later hb)
      clear hb k0 k1 B0
      obtain ⟨k0, k1, -, -⟩ := two_facts B1.out.2.1
      go_wp2_with fail
      refine (C.out _ _ _).mono ?_
      rintro e w2 ⟨rfl, hb⟩
      rw [h2]
      have B2 := Lib.hid (B1.out.later hb)
      clear hb k0 k1 B1 h1 h2
      obtain ⟨k0, k1, -, -⟩ := two_facts B2.out.1
      obtain ⟨l0, l1, -, -⟩ := two_facts B2.out.2.1
      have hw2 := B2.out.2.2.2.size
      go_wp2_with fail
      clear k0 k1 l0 l1
      have B3 := Lib.hid (bg3_more (.cells #[.int .i64 (a + c), .int .i64 (b + d)] 25) B2.out)
      have N3 : Hid (Bg 25 w2.heap.size (a + c) (b + d) (w2.alloc (.cells #[.int .i64 (a + c), .int .i64 (b + d)] 25))) := heap_alloc_new w2 _
      generalize w2.alloc (.cells #[.int .i64 (a + c), .int .i64 (b + d)] 25) = w3 at *
      clear B2 a0 a1 b0 b1 c0 c1 d0 d1
      generalize a + c = x at *
      generalize b + d = y at *
      obtain ⟨k0, k1, -, -⟩ := two_facts N3.out
      go_wp2_with fail
      refine (C.out _ _ _).mono ?_
      rintro e w4 ⟨rfl, hb⟩
      have B4 := Lib.hid (B3.out.later hb)
      have N4 := Lib.hid (N3.out.later hb)
      clear hb B3 N3 k0 k1
      obtain ⟨z0, z1, f0, f1⟩ := two_facts B4.out.2.2.1
      cases h3 : goldB x y
      · go_wp2_with fail
        exact bodyPost_ret (v := .tuple #[.agg #[.int .i64 0, .int .i64 0], .bool false]) (by simp [results, Try.results21, go_sem, z0, z1]) rfl ⟨by rw [HG.out, ok_no h3], set_below (set_below B4.out.2.2.2 (by omega)) (by omega)⟩
      · obtain ⟨k0, k1, -, -⟩ := two_facts N4.out
        go_wp2_with fail
        exact bodyPost_ret (v := .tuple #[.agg #[.int .i64 x, .int .i64 y], .bool true]) (by simp [results, Try.results21, go_sem, z0, z1]) rfl ⟨by rw [HG.out, ok_yes h3], set_below (set_below B4.out.2.2.2 (by omega)) (by omega)⟩
set_option maxHeartbeats 1000000 in
set_option maxRecDepth 100000 in
theorem specTimesGold (a b c d : Int) (w : World) : Calls Try.prog 23 #[.agg #[.int .i64 a, .int .i64 b], .agg #[.int .i64 c, .int .i64 d]] w (GP (mulG a b c d) w) := by
  have C := Lib.hid (fun a b w => specGoldOk a b w)
  cases h1 : goldB a b
  · have HG := Lib.hid (gold_no (a := a) (b := b) (c := c) (d := d) (by rw [h1]; rfl)).2.1
    go_enter Try.func23, Try.ntmps23
    go_wp2_with fail
    have B0 := Lib.hid (bg3_new a b c d w)
    generalize (((w.alloc (.cells #[.int .i64 a, .int .i64 b] 25)).alloc (.cells #[.int .i64 c, .int .i64 d] 25)).alloc (.cells #[.int .i64 0, .int .i64 0] 25)) = W1 at *
    obtain ⟨k0, k1, -, -⟩ := two_facts B0.out.1
    go_wp2_with fail
    refine (C.out _ _ _).mono ?_
    rintro e w1 ⟨rfl, hb⟩
    rw [h1]
    have B1 := Lib.hid (B0.out.later hb)
    clear hb k0 k1 B0
    obtain ⟨z0, z1, f0, f1⟩ := two_facts B1.out.2.2.1
    go_wp2_with fail
    exact bodyPost_ret (v := .tuple #[.agg #[.int .i64 0, .int .i64 0], .bool false]) (by simp [results, Try.results23, go_sem, z0, z1]) rfl ⟨by rw [HG.out], set_below (set_below B1.out.2.2.2 (by omega)) (by omega)⟩
  · cases h2 : goldB c d
    · have HG := Lib.hid (gold_no (a := a) (b := b) (c := c) (d := d) (by rw [h1, h2]; rfl)).2.1
      go_enter Try.func23, Try.ntmps23
      go_wp2_with fail
      have B0 := Lib.hid (bg3_new a b c d w)
      generalize (((w.alloc (.cells #[.int .i64 a, .int .i64 b] 25)).alloc (.cells #[.int .i64 c, .int .i64 d] 25)).alloc (.cells #[.int .i64 0, .int .i64 0] 25)) = W1 at *
      obtain ⟨k0, k1, -, -⟩ := two_facts B0.out.1
      go_wp2_with fail
      refine (C.out _ _ _).mono ?_
      rintro e w1 ⟨rfl, hb⟩
      rw [h1]
      have B1 := Lib.hid (B0.out.later hb)
      clear hb k0 k1 B0
      obtain ⟨k0, k1, -, -⟩ := two_facts B1.out.2.1
      go_wp2_with fail
      refine (C.out _ _ _).mono ?_
      rintro e w2 ⟨rfl, hb⟩
      rw [h2]
      have B2 := Lib.hid (B1.out.later hb)
      clear hb k0 k1 B1
      obtain ⟨z0, z1, f0, f1⟩ := two_facts B2.out.2.2.1
      go_wp2_with fail
      exact bodyPost_ret (v := .tuple #[.agg #[.int .i64 0, .int .i64 0], .bool false]) (by simp [results, Try.results23, go_sem, z0, z1]) rfl ⟨by rw [HG.out], set_below (set_below B2.out.2.2.2 (by omega)) (by omega)⟩
    · have HG := Lib.hid (gold_both h1 h2).2.1
      obtain ⟨ka, kb⟩ := gold_yes h1
      obtain ⟨kc, kd⟩ := gold_yes h2
      obtain ⟨x0, x1⟩ := mul6 ka kc
      obtain ⟨y0, y1⟩ := mul6 kb kd
      obtain ⟨q0, q1⟩ := mul6 ka kd
      obtain ⟨u0, u1⟩ := mul6 kb kc
      clear ka kb kc kd
      go_enter Try.func23, Try.ntmps23
      go_wp2_with fail
      have B0 := Lib.hid (bg3_new a b c d w)
      generalize (((w.alloc (.cells #[.int .i64 a, .int .i64 b] 25)).alloc (.cells #[.int .i64 c, .int .i64 d] 25)).alloc (.cells #[.int .i64 0, .int .i64 0] 25)) = W1 at *
      obtain ⟨k0, k1, -, -⟩ := two_facts B0.out.1
      go_wp2_with fail
      refine (C.out _ _ _).mono ?_
      rintro e w1 ⟨rfl, hb⟩
      rw [h1]
      have B1 := Lib.hid (B0.out.later hb)
      clear hb k0 k1 B0
      obtain ⟨k0, k1, -, -⟩ := two_facts B1.out.2.1
      go_wp2_with fail
      refine (C.out _ _ _).mono ?_
      rintro e w2 ⟨rfl, hb⟩
      rw [h2]
      have B2 := Lib.hid (B1.out.later hb)
      clear hb k0 k1 B1 h1 h2
      obtain ⟨k0, k1, -, -⟩ := two_facts B2.out.1
      obtain ⟨l0, l1, -, -⟩ := two_facts B2.out.2.1
      have hw2 := B2.out.2.2.2.size
      go_wp2_with fail
      clear k0 k1 l0 l1
      have B3 := Lib.hid (bg3_more (.cells #[.int .i64 (a * c + b * d), .int .i64 (a * d + b * c - b * d)] 25) B2.out)
      have N3 : Hid (Bg 25 w2.heap.size (a * c + b * d) (a * d + b * c - b * d) (w2.alloc (.cells #[.int .i64 (a * c + b * d), .int .i64 (a * d + b * c - b * d)] 25))) := heap_alloc_new w2 _
      generalize w2.alloc (.cells #[.int .i64 (a * c + b * d), .int .i64 (a * d + b * c - b * d)] 25) = w3 at *
      clear B2 x0 x1 y0 y1 q0 q1 u0 u1
      generalize a * c + b * d = x at *
      generalize a * d + b * c - b * d = y at *
      obtain ⟨k0, k1, -, -⟩ := two_facts N3.out
      go_wp2_with fail
      refine (C.out _ _ _).mono ?_
      rintro e w4 ⟨rfl, hb⟩
      have B4 := Lib.hid (B3.out.later hb)
      have N4 := Lib.hid (N3.out.later hb)
      clear hb B3 N3 k0 k1
      obtain ⟨z0, z1, f0, f1⟩ := two_facts B4.out.2.2.1
      cases h3 : goldB x y
      · go_wp2_with fail
        exact bodyPost_ret (v := .tuple #[.agg #[.int .i64 0, .int .i64 0], .bool false]) (by simp [results, Try.results23, go_sem, z0, z1]) rfl ⟨by rw [HG.out, ok_no h3], set_below (set_below B4.out.2.2.2 (by omega)) (by omega)⟩
      · obtain ⟨k0, k1, -, -⟩ := two_facts N4.out
        go_wp2_with fail
        exact bodyPost_ret (v := .tuple #[.agg #[.int .i64 x, .int .i64 y], .bool true]) (by simp [results, Try.results23, go_sem, z0, z1]) rfl ⟨by rw [HG.out, ok_yes h3], set_below (set_below B4.out.2.2.2 (by omega)) (by omega)⟩
end Go.Proofs.Ytobgcjgjfaegcaa
