/- What a jump on a line loses: lossOn and LossOf of the program, LossOf of the model. Of lists of at most 1048576 ints. -/
import Derived.Test.YtdeciglcfabgpaaWeightsA
import Derived.Test.YtdeciglcfabgpaaJumps
namespace Go.Proofs.Ytdeciglcfabgpaa
open Go.RowKit
set_option linter.unusedVariables false
set_option linter.unusedSimpArgs false
set_option maxHeartbeats 1000000 in
set_option maxRecDepth 100000 in
theorem implLossOn {a : Option Addr} {n c : Nat} {xs : List Int} {f o t : Nat} (w : World) (hx : n ≤ 1048576) (h : IntsAt w a n xs) (hall : xs.all inW = true) (hf : f < n) (ho : o < n) (ht : t < n) :
    Calls Try.prog 36 #[.slice a n c, .agg #[.int .i64 f, .int .i64 o, .int .i64 t]] w (QI (lossL xs ((f : Int), (o : Int), (t : Int))) w) := by
  have hlen := h.1
  obtain ⟨x, hxf⟩ : ∃ x, xs[f]? = some x := ⟨_, List.getElem?_eq_getElem (by rw [hlen]; exact hf)⟩
  obtain ⟨y, hyo⟩ : ∃ x, xs[o]? = some x := ⟨_, List.getElem?_eq_getElem (by rw [hlen]; exact ho)⟩
  obtain ⟨u, hut⟩ : ∃ x, xs[t]? = some x := ⟨_, List.getElem?_eq_getElem (by rw [hlen]; exact ht)⟩
  have HE : Hid (lossL xs ((f : Int), (o : Int), (t : Int)) = x + y - u) := by
    show wAt xs f + wAt xs o - wAt xs t = _
    rw [wAt_get hxf, wAt_get hyo, wAt_get hut]
  obtain ⟨x1, x2⟩ := all_get hall hxf
  obtain ⟨y1, y2⟩ := all_get hall hyo
  obtain ⟨u1, u2⟩ := all_get hall hut
  have h2 := h.later ((Below.refl _ _).alloc (Nat.le_refl _) (.cells #[.int .i64 (f : Int), .int .i64 (o : Int), .int .i64 (t : Int)] 31))
  obtain ⟨b, off, rfl, hb, hc⟩ := h2.cell hf
  have d0 := hc f x hxf
  have d1 := hc o y hyo
  have d2 := hc t u hut
  have f0 : (0 : Int) ≤ (f : Int) := by omega
  have f1 : (f : Int) < (n : Int) := by omega
  have o0 : (0 : Int) ≤ (o : Int) := by omega
  have o1 : (o : Int) < (n : Int) := by omega
  have t0 : (0 : Int) ≤ (t : Int) := by omega
  have t1 : (t : Int) < (n : Int) := by omega
  rw [HE.out]
  clear HE hxf hyo hut hall h h2 hc hlen
  go_enter Try.func36, Try.ntmps36
  go_wp2_with fail
  have B0 := Lib.hid (box_newT 31 f o t w)
  generalize w.alloc (.cells #[.int .i64 (f : Int), .int .i64 (o : Int), .int .i64 (t : Int)] 31) = W1 at *
  obtain ⟨c0, c1, c2, hlt, hb1⟩ := B0.out
  go_wp2_with fail
  go_quiet (fail)
  go_wp2_with fail
  go_ret
  exact ⟨rfl, below_drewN _ hb1⟩
/-- A line of the board in the list of weights, in naturals. -/
theorem line_in {W H Z f o t : Int} {xs : List Int} (hw : wOkB W H Z xs = true) (hc : (lnsOf W H Z).contains (f, o, t) = true) :
    ∃ f' o' t' : Nat, f = f' ∧ o = o' ∧ t = t' ∧ f' < xs.length ∧ o' < xs.length ∧ t' < xs.length := by
  obtain ⟨hok, hlen, hall⟩ := wOk_yes hw
  obtain ⟨a, b, N, z, rfl, rfl, rfl, ho⟩ := okNat hok
  rw [lnsOf_ok ho, List.contains_iff_mem] at hc
  obtain ⟨f', o', t', e, h1, h2, h3, -⟩ := line_wts ho hlen hc
  simp only [Prod.mk.injEq] at e
  exact ⟨f', o', t', e.1, e.2.1, e.2.2, h1, h2, h3⟩
set_option maxHeartbeats 1000000 in
set_option maxRecDepth 100000 in
theorem implLossOf (W H Z f o t : Int) {a : Option Addr} {n c : Nat} {xs : List Int} (w : World) (hx : n ≤ 1048576) (h : IntsAt w a n xs) :
    Calls Try.prog 15 #[.agg #[.int .i64 W, .int .i64 H, .int .i64 Z], .slice a n c, .agg #[.int .i64 f, .int .i64 o, .int .i64 t]] w (QI (lossB W H Z xs (f, o, t)) w) := by
  have C1 := Lib.hid (fun w (hi : IntsAt w a n xs) => implWeightsOk W H Z (c := c) w hx hi)
  cases hw : wOkB W H Z xs
  · rw [show lossB W H Z xs (f, o, t) = 0 by simp [lossB, hw]]
    rw [hw] at C1
    clear hw
    have HI := Lib.hid h
    clear h
    go_enter Try.func15, Try.ntmps15
    go_wp2_with fail
    have B0 := Lib.hid (bx2_new W H Z f o t 25 31 w)
    generalize (w.alloc (.cells #[.int .i64 W, .int .i64 H, .int .i64 Z] 25)).alloc (.cells #[.int .i64 f, .int .i64 o, .int .i64 t] 31) = W1 at *
    have HA := Lib.hid (HI.out.later B0.out.1.2.2.2.2)
    obtain ⟨⟨c0, c1, c2, hlt, hb1⟩, ⟨d0, d1, d2, hlt2, -⟩⟩ := B0.out
    go_wp2_with fail
    refine (C1.out _ HA.out).mono ?_
    rintro e w1 ⟨rfl, hb⟩
    have B1 := Lib.hid (B0.out.later hb)
    clear c0 c1 c2 hlt hb1 d0 d1 d2 hlt2 hb B0 HA
    go_wp2_with fail
    go_ret
    exact ⟨rfl, B1.out.1.2.2.2.2⟩
  · obtain ⟨hok, hlen, hall⟩ := wOk_yes hw
    have C2 := Lib.hid (fun w => implHasLine' hok f o t w)
    rw [hw] at C1
    have HI := Lib.hid h
    cases hc : (lnsOf W H Z).contains (f, o, t)
    · rw [show lossB W H Z xs (f, o, t) = 0 by unfold lossB; rw [hc]; simp]
      rw [hc] at C2
      clear hw h hok hlen hall hc
      go_enter Try.func15, Try.ntmps15
      go_wp2_with fail
      have B0 := Lib.hid (bx2_new W H Z f o t 25 31 w)
      generalize (w.alloc (.cells #[.int .i64 W, .int .i64 H, .int .i64 Z] 25)).alloc (.cells #[.int .i64 f, .int .i64 o, .int .i64 t] 31) = W1 at *
      have HA := Lib.hid (HI.out.later B0.out.1.2.2.2.2)
      obtain ⟨⟨c0, c1, c2, hlt, hb1⟩, ⟨d0, d1, d2, hlt2, -⟩⟩ := B0.out
      go_wp2_with fail
      refine (C1.out _ HA.out).mono ?_
      rintro e w1 ⟨rfl, hb⟩
      have B1 := Lib.hid (B0.out.later hb)
      clear c0 c1 c2 hlt hb1 d0 d1 d2 hlt2 hb B0 HA
      obtain ⟨⟨c0, c1, c2, hlt, hb1⟩, ⟨d0, d1, d2, hlt2, -⟩⟩ := B1.out
      go_wp2_with fail
      refine (C2.out _).mono ?_
      rintro e w2 ⟨rfl, hb⟩
      have B2 := Lib.hid (B1.out.later hb)
      clear c0 c1 c2 hlt hb1 d0 d1 d2 hlt2 hb B1
      go_wp2_with fail
      go_ret
      exact ⟨rfl, B2.out.1.2.2.2.2⟩
    · rw [show lossB W H Z xs (f, o, t) = lossL xs (f, o, t) by unfold lossB; rw [hw, hc]; rfl]
      rw [hc] at C2
      obtain ⟨f, o, t, rfl, rfl, rfl, l1, l2, l3⟩ := line_in hw hc
      rw [h.1] at l1 l2 l3
      have C3 := Lib.hid (fun w (hi : IntsAt w a n xs) => implLossOn (c := c) w hx hi hall l1 l2 l3)
      generalize lossL xs ((f : Int), (o : Int), (t : Int)) = r at *
      clear hw h hok hlen hall hc
      go_enter Try.func15, Try.ntmps15
      go_wp2_with fail
      have B0 := Lib.hid (bx2_new W H Z f o t 25 31 w)
      generalize (w.alloc (.cells #[.int .i64 W, .int .i64 H, .int .i64 Z] 25)).alloc (.cells #[.int .i64 (f : Int), .int .i64 (o : Int), .int .i64 (t : Int)] 31) = W1 at *
      have HA := Lib.hid (HI.out.later B0.out.1.2.2.2.2)
      obtain ⟨⟨c0, c1, c2, hlt, hb1⟩, ⟨d0, d1, d2, hlt2, -⟩⟩ := B0.out
      go_wp2_with fail
      refine (C1.out _ HA.out).mono ?_
      rintro e w1 ⟨rfl, hb⟩
      have B1 := Lib.hid (B0.out.later hb)
      clear c0 c1 c2 hlt hb1 d0 d1 d2 hlt2 hb B0 HA
      obtain ⟨⟨c0, c1, c2, hlt, hb1⟩, ⟨d0, d1, d2, hlt2, -⟩⟩ := B1.out
      go_wp2_with fail
      refine (C2.out _).mono ?_
      rintro e w2 ⟨rfl, hb⟩
      have B2 := Lib.hid (B1.out.later hb)
      clear c0 c1 c2 hlt hb1 d0 d1 d2 hlt2 hb B1
      have HA := Lib.hid (HI.out.later B2.out.1.2.2.2.2)
      obtain ⟨⟨c0, c1, c2, hlt, hb1⟩, ⟨d0, d1, d2, hlt2, -⟩⟩ := B2.out
      go_wp2_with fail
      refine (C3.out _ HA.out).mono ?_
      rintro e w3 ⟨rfl, hb⟩
      have B3 := Lib.hid (B2.out.later hb)
      clear c0 c1 c2 hlt hb1 d0 d1 d2 hlt2 hb B2 HA
      go_wp2_with fail
      go_ret
      exact ⟨rfl, B3.out.1.2.2.2.2⟩
set_option maxHeartbeats 1000000 in
set_option maxRecDepth 100000 in
theorem specLossOf (W H Z f o t : Int) {a : Option Addr} {n c : Nat} {xs : List Int} (w : World) (hx : n ≤ 1048576) (h : IntsAt w a n xs) :
    Calls Try.prog 30 #[.agg #[.int .i64 W, .int .i64 H, .int .i64 Z], .slice a n c, .agg #[.int .i64 f, .int .i64 o, .int .i64 t]] w (QI (lossB W H Z xs (f, o, t)) w) := by
  have C1 := Lib.hid (fun w (hi : IntsAt w a n xs) => specWeightsOk W H Z (c := c) w hx hi)
  have C2 := Lib.hid (fun w => specIs W H Z f o t w)
  cases hw : wOkB W H Z xs
  · rw [show lossB W H Z xs (f, o, t) = 0 by simp [lossB, hw]]
    rw [hw] at C1
    clear hw
    have HI := Lib.hid h
    clear h
    go_enter Try.func30, Try.ntmps30
    go_wp2_with fail
    have B0 := Lib.hid (bx2_new W H Z f o t 25 31 w)
    generalize (w.alloc (.cells #[.int .i64 W, .int .i64 H, .int .i64 Z] 25)).alloc (.cells #[.int .i64 f, .int .i64 o, .int .i64 t] 31) = W1 at *
    have HA := Lib.hid (HI.out.later B0.out.1.2.2.2.2)
    obtain ⟨⟨c0, c1, c2, hlt, hb1⟩, ⟨d0, d1, d2, hlt2, -⟩⟩ := B0.out
    go_wp2_with fail
    refine (C1.out _ HA.out).mono ?_
    rintro e w1 ⟨rfl, hb⟩
    have B1 := Lib.hid (B0.out.later hb)
    clear c0 c1 c2 hlt hb1 d0 d1 d2 hlt2 hb B0 HA
    go_wp2_with fail
    go_ret
    exact ⟨rfl, B1.out.1.2.2.2.2⟩
  · obtain ⟨hok, hlen, hall⟩ := wOk_yes hw
    rw [hw] at C1
    have HI := Lib.hid h
    cases hc : (lnsOf W H Z).contains (f, o, t)
    · rw [show lossB W H Z xs (f, o, t) = 0 by unfold lossB; rw [hc]; simp]
      rw [hc] at C2
      clear hw h hok hlen hall hc
      go_enter Try.func30, Try.ntmps30
      go_wp2_with fail
      have B0 := Lib.hid (bx2_new W H Z f o t 25 31 w)
      generalize (w.alloc (.cells #[.int .i64 W, .int .i64 H, .int .i64 Z] 25)).alloc (.cells #[.int .i64 f, .int .i64 o, .int .i64 t] 31) = W1 at *
      have HA := Lib.hid (HI.out.later B0.out.1.2.2.2.2)
      obtain ⟨⟨c0, c1, c2, hlt, hb1⟩, ⟨d0, d1, d2, hlt2, -⟩⟩ := B0.out
      go_wp2_with fail
      refine (C1.out _ HA.out).mono ?_
      rintro e w1 ⟨rfl, hb⟩
      have B1 := Lib.hid (B0.out.later hb)
      clear c0 c1 c2 hlt hb1 d0 d1 d2 hlt2 hb B0 HA
      obtain ⟨⟨c0, c1, c2, hlt, hb1⟩, ⟨d0, d1, d2, hlt2, -⟩⟩ := B1.out
      go_wp2_with fail
      refine (C2.out _).mono ?_
      rintro e w2 ⟨rfl, hb⟩
      have B2 := Lib.hid (B1.out.later hb)
      clear c0 c1 c2 hlt hb1 d0 d1 d2 hlt2 hb B1
      go_wp2_with fail
      go_ret
      exact ⟨rfl, B2.out.1.2.2.2.2⟩
    · rw [show lossB W H Z xs (f, o, t) = lossL xs (f, o, t) by unfold lossB; rw [hw, hc]; rfl]
      rw [hc] at C2
      obtain ⟨f, o, t, rfl, rfl, rfl, l1, l2, l3⟩ := line_in hw hc
      have hln := h.1
      rw [hln] at l1 l2 l3
      obtain ⟨x, hxf⟩ : ∃ x, xs[f]? = some x := ⟨_, List.getElem?_eq_getElem (by rw [hln]; exact l1)⟩
      obtain ⟨y, hyo⟩ : ∃ x, xs[o]? = some x := ⟨_, List.getElem?_eq_getElem (by rw [hln]; exact l2)⟩
      obtain ⟨u, hut⟩ : ∃ x, xs[t]? = some x := ⟨_, List.getElem?_eq_getElem (by rw [hln]; exact l3)⟩
      have HE : Hid (lossL xs ((f : Int), (o : Int), (t : Int)) = x + y - u) := by
        show wAt xs f + wAt xs o - wAt xs t = _
        rw [wAt_get hxf, wAt_get hyo, wAt_get hut]
      obtain ⟨x1, x2⟩ := all_get hall hxf
      obtain ⟨y1, y2⟩ := all_get hall hyo
      obtain ⟨u1, u2⟩ := all_get hall hut
      have f0 : (0 : Int) ≤ (f : Int) := by omega
      have f1 : (f : Int) < (n : Int) := by omega
      have o0 : (0 : Int) ≤ (o : Int) := by omega
      have o1 : (o : Int) < (n : Int) := by omega
      have t0 : (0 : Int) ≤ (t : Int) := by omega
      have t1 : (t : Int) < (n : Int) := by omega
      obtain ⟨b, off, rfl, -⟩ := h.cell l1
      have HC : Hid (∀ w, IntsAt w (some ⟨b, off, none⟩) n xs → w.cell? ⟨b, off + f, none⟩ = some (.int .i64 x) ∧ w.cell? ⟨b, off + o, none⟩ = some (.int .i64 y) ∧ w.cell? ⟨b, off + t, none⟩ = some (.int .i64 u)) := fun w hi => by
        obtain ⟨b', off', e, -, hcc⟩ := hi.cell l1
        cases e
        exact ⟨hcc f x hxf, hcc o y hyo, hcc t u hut⟩
      rw [HE.out]
      clear HE hw h hok hlen hall hc hln hxf hyo hut
      go_enter Try.func30, Try.ntmps30
      go_wp2_with fail
      have B0 := Lib.hid (bx2_new W H Z f o t 25 31 w)
      generalize (w.alloc (.cells #[.int .i64 W, .int .i64 H, .int .i64 Z] 25)).alloc (.cells #[.int .i64 (f : Int), .int .i64 (o : Int), .int .i64 (t : Int)] 31) = W1 at *
      have HA := Lib.hid (HI.out.later B0.out.1.2.2.2.2)
      obtain ⟨⟨c0, c1, c2, hlt, hb1⟩, ⟨d0, d1, d2, hlt2, -⟩⟩ := B0.out
      go_wp2_with fail
      refine (C1.out _ HA.out).mono ?_
      rintro e w1 ⟨rfl, hb⟩
      have B1 := Lib.hid (B0.out.later hb)
      clear c0 c1 c2 hlt hb1 d0 d1 d2 hlt2 hb B0 HA
      obtain ⟨⟨c0, c1, c2, hlt, hb1⟩, ⟨d0, d1, d2, hlt2, -⟩⟩ := B1.out
      go_wp2_with fail
      refine (C2.out _).mono ?_
      rintro e w2 ⟨rfl, hb⟩
      have B2 := Lib.hid (B1.out.later hb)
      clear c0 c1 c2 hlt hb1 d0 d1 d2 hlt2 hb B1
      obtain ⟨e0, e1, e2⟩ := HC.out _ (HI.out.later B2.out.1.2.2.2.2)
      obtain ⟨⟨c0, c1, c2, hlt, hb1⟩, ⟨d0, d1, d2, hlt2, -⟩⟩ := B2.out
      go_wp2_with fail
      go_quiet (fail)
      go_wp2_with fail
      go_ret
      exact ⟨rfl, below_drewN _ hb1⟩
end Go.Proofs.Ytdeciglcfabgpaa
