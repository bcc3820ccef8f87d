/- LineBetween, LinesThrough, CountLines, IsLoneHole and TurnLine of both. -/
import Derived.Test.YtipdjdbndbjnoaaLinesC
namespace Go.Proofs.Ytipdjdbndbjnoaa
open Go.RowKit
set_option linter.unusedVariables false
set_option linter.unusedSimpArgs false
/-- A block of three cells, stored anew. -/
def set3 (w : World) (b : Nat) (x y z : Value) : World := ((w.setCell ⟨b, 0, none⟩ x).setCell ⟨b, 1, none⟩ y).setCell ⟨b, 2, none⟩ z
theorem row_set3 {w : World} {b : Nat} {x y z x' y' z' : Value} {T : TypeId} (h : w.heap[b]? = some (.cells #[x, y, z] T (0, 0))) : (set3 w b x' y' z').heap[b]? = some (.cells #[x', y', z'] T (0, 0)) :=
  heap_setCell_same _ b 2 _ T _ (heap_setCell_same _ b 1 _ T _ (heap_setCell_same w b 0 _ T _ h))
theorem set3_size (w : World) (b : Nat) (x y z : Value) : (set3 w b x y z).heap.size = w.heap.size := by simp [set3]
theorem set3_below {w0 w : World} {b : Nat} {x y z : Value} (h : Below w0.heap.size w0 w) (hb : w0.heap.size ≤ b) : Below w0.heap.size w0 (set3 w b x y z) := set_below (set_below (set_below h hb) hb) hb
theorem set3_more {w0 w : World} {b : Nat} {x y z : Value} (o : Obj) (h : Below w0.heap.size w0 w) (hb : w0.heap.size ≤ b) : Below w0.heap.size w0 ((set3 w b x y z).alloc o) :=
  (set3_below h hb).alloc (by rw [set3_size]; exact h.size) o
theorem row_set3_more {w : World} {b : Nat} {x y z x' y' z' : Value} {T : TypeId} (o : Obj) (h : w.heap[b]? = some (.cells #[x, y, z] T (0, 0))) : ((set3 w b x' y' z').alloc o).heap[b]? = some (.cells #[x', y', z'] T (0, 0)) := row_alloc (row_set3 h)
set_option maxHeartbeats 1000000 in
set_option maxRecDepth 100000 in
theorem implBetween (W H Z f t : Int) (w : World) : Calls Try.prog 14 #[.agg #[.int .i64 W, .int .i64 H, .int .i64 Z], .int .i64 f, .int .i64 t] w fun e w' => e = .returned (lineV (betwL (lnsOf W H Z) f t)) ∧ Below w.heap.size w w' := by
  obtain ⟨xs, hxs⟩ : ∃ xs, lnsOf W H Z = xs := ⟨_, rfl⟩
  have hle := lnsOf_le W H Z
  have C1 := Lib.hid (fun w => implLinesA W H Z w)
  rw [hxs] at hle C1 ⊢
  clear hxs
  obtain ⟨n, hn⟩ : ∃ n, xs.length = n := ⟨_, rfl⟩
  have HN := Lib.hid hn
  rw [hn] at hle
  clear hn
  go_enter Try.func14, Try.ntmps14
  go_wp2_with fail
  have B0 := Lib.hid (two_new W H Z w)
  generalize (w.alloc (.cells #[.int .i64 W, .int .i64 H, .int .i64 Z] 25)).alloc (.cells #[.int .i64 0, .int .i64 0, .int .i64 0] 31) = W1 at *
  refine (C1.out _).mono ?_
  rintro e w1 ⟨v, rfl, hh, hb1⟩
  rw [HN.out] at hh
  have B1 := Lib.hid (B0.out.later hb1)
  have HH := Lib.hid hh
  obtain ⟨ga, gc, rfl⟩ := lines_form hh
  clear hb1 B0 hh
  go_wp2_with fail
  generalize W1.heap.size = B at *
  go_loopw [13] (fun i wr => ∃ k : Nat, k ≤ n ∧ i = .int .i64 k ∧ Hid ((xs.take k).find? (fun l => l.1 == f && l.2.2 == t) = none) ∧ Hid (wr.ownsRow B 31 3 (.slice ga n gc) n (lv xs)) ∧ Hid (Two W H Z w wr)) (fun i _ => n - (intOf i).toNat)
  case atStart => exact ⟨0, by omega, rfl, rfl, HH, B1⟩
  case round =>
    clear HH B1
    obtain ⟨k, hk, rfl, hf, HH, B1⟩ := hrel
    by_cases hkn : k < n
    · obtain ⟨⟨lf, lo, lt⟩, hl⟩ : ∃ l, xs[k]? = some l := ⟨_, List.getElem?_eq_getElem (by rw [HN.out]; exact hkn)⟩
      have k0 : (0 : Int) ≤ (k : Int) := by omega
      have k1 : (k : Int) < (n : Int) := by omega
      obtain ⟨g, rfl⟩ : ∃ g, ga = some ⟨g, 0, none⟩ := by
        rcases Go.Joins.ownsRow_forms HH.out with ⟨h, h0⟩ | ⟨g, cap, h⟩
        · omega
        · injection h with h1 h2 h3; exact ⟨g, h1⟩
      obtain ⟨l0, l1, l2⟩ := line_cells HH.out HN.out hl
      have hbl : Below wr.heap.size wr (wr.alloc (.cells #[.int .i64 lf, .int .i64 lo, .int .i64 lt] 31)) := (Below.refl _ _).alloc (Nat.le_refl _) _
      have HH2 := Lib.hid (own_below HH.out hbl)
      have B2 := Lib.hid (B1.out.later hbl)
      clear hbl
      cases e1 : lf == f
      · have hstep := Lib.hid (find_step (p := fun l : Ln => l.1 == f && l.2.2 == t) hf.out hl (by simp only [e1]; rfl))
        clear hl hf HH B1
        go_wp2_with fail
        go_roundw
        case rel => exact ⟨k + 1, by omega, by go_num, hstep, HH2, B2⟩
        case measure => simp [intOf]; omega
      · cases e2 : lt == t
        · have hstep := Lib.hid (find_step (p := fun l : Ln => l.1 == f && l.2.2 == t) hf.out hl (by simp only [e1, e2]; rfl))
          clear hl hf HH B1
          go_wp2_with fail
          go_roundw
          case rel => exact ⟨k + 1, by omega, by go_num, hstep, HH2, B2⟩
          case measure => simp [intOf]; omega
        · have hstep := Lib.hid (find_at (p := fun l : Ln => l.1 == f && l.2.2 == t) hf.out hl (by simp only [e1, e2]; rfl))
          clear hl hf
          have hE : Hid (lineV (betwL xs f t) = .tuple #[.agg #[.int .i64 lf, .int .i64 lo, .int .i64 lt], .bool true]) := by unfold Hid betwL; rw [hstep.out]; rfl
          obtain ⟨⟨c0, c1, c2, hlt, hbw⟩, hr, hlt2⟩ := B1.out
          obtain ⟨r0, r1, r2, f0, f1, f2⟩ := row_facts hr
          have hr3 := row_facts (row_set3_more (x' := .int .i64 lf) (y' := .int .i64 lo) (z' := .int .i64 lt) (.cells #[.int .i64 lf, .int .i64 lo, .int .i64 lt] 31) hr)
          have hb3 := set3_more (x := .int .i64 lf) (y := .int .i64 lo) (z := .int .i64 lt) (.cells #[.int .i64 lf, .int .i64 lo, .int .i64 lt] 31) hbw (Nat.le_succ w.heap.size)
          unfold set3 at hr3 hb3
          obtain ⟨s0, s1, s2, -, -, -⟩ := hr3
          clear hr hstep HH2 B2 HH B1
          go_wp2_with fail
          exact bodyPost_ret (v := .tuple #[.agg #[.int .i64 lf, .int .i64 lo, .int .i64 lt], .bool true]) (by simp [results, Try.results14, go_sem, s0, s1, s2]) rfl ⟨by rw [hE.out], hb3⟩
    · obtain rfl : k = n := by omega
      have hE : Hid (lineV (betwL xs f t) = .tuple #[.agg #[.int .i64 0, .int .i64 0, .int .i64 0], .bool false]) := by
        unfold Hid betwL
        rw [← List.take_of_length_le (l := xs) (by rw [HN.out]; exact Nat.le_refl k), hf.out]
        rfl
      obtain ⟨⟨c0, c1, c2, hlt, hbw⟩, hr, hlt2⟩ := B1.out
      obtain ⟨r0, r1, r2, f0, f1, f2⟩ := row_facts hr
      clear hr HH B1 hf
      go_wp2_with fail
      exact bodyPost_ret (v := .tuple #[.agg #[.int .i64 0, .int .i64 0, .int .i64 0], .bool false]) (by simp [results, Try.results14, go_sem, r0, r1, r2]) rfl ⟨by rw [hE.out], by repeat (first | exact hbw | refine set_below ?_ (by omega))⟩
set_option maxHeartbeats 1000000 in
set_option maxRecDepth 100000 in
theorem specBetween (W H Z f t : Int) (w : World) : Calls Try.prog 26 #[.agg #[.int .i64 W, .int .i64 H, .int .i64 Z], .int .i64 f, .int .i64 t] w fun e w' => e = .returned (lineV (betwL (lnsOf W H Z) f t)) ∧ Below w.heap.size w w' := by
  obtain ⟨xs, hxs⟩ : ∃ xs, lnsOf W H Z = xs := ⟨_, rfl⟩
  have hle := lnsOf_le W H Z
  have C1 := Lib.hid (fun w => specLinesA W H Z w)
  rw [hxs] at hle C1 ⊢
  clear hxs
  obtain ⟨n, hn⟩ : ∃ n, xs.length = n := ⟨_, rfl⟩
  have HN := Lib.hid hn
  rw [hn] at hle
  clear hn
  go_enter Try.func26, Try.ntmps26
  go_wp2_with fail
  have B0 := Lib.hid (two_new W H Z w)
  generalize (w.alloc (.cells #[.int .i64 W, .int .i64 H, .int .i64 Z] 25)).alloc (.cells #[.int .i64 0, .int .i64 0, .int .i64 0] 31) = W1 at *
  refine (C1.out _).mono ?_
  rintro e w1 ⟨v, rfl, hh, hb1⟩
  rw [HN.out] at hh
  have B1 := Lib.hid (B0.out.later hb1)
  have HH := Lib.hid hh
  obtain ⟨ga, gc, rfl⟩ := lines_form hh
  clear hb1 B0 hh
  go_wp2_with fail
  generalize W1.heap.size = B at *
  obtain ⟨⟨c0, c1, c2, hlt, hbw⟩, hr, hlt2⟩ := B1.out
  go_loop [9] (fun i => ∃ k : Nat, k ≤ n ∧ i = .int .i64 k ∧ Hid ((xs.take k).find? (fun l => l.1 == f && l.2.2 == t) = none)) (fun i => n - (intOf i).toNat)
  case atStart => exact ⟨0, by omega, rfl, rfl⟩
  case round =>
    obtain ⟨k, hk, rfl, hf⟩ := hrel
    by_cases hkn : k < n
    · obtain ⟨⟨lf, lo, lt⟩, hl⟩ : ∃ l, xs[k]? = some l := ⟨_, List.getElem?_eq_getElem (by rw [HN.out]; exact hkn)⟩
      have k0 : (0 : Int) ≤ (k : Int) := by omega
      have k1 : (k : Int) < (n : Int) := by omega
      obtain ⟨g, rfl⟩ : ∃ g, ga = some ⟨g, 0, none⟩ := by
        rcases Go.Joins.ownsRow_forms HH.out with ⟨h, h0⟩ | ⟨g, cap, h⟩
        · omega
        · injection h with h1 h2 h3; exact ⟨g, h1⟩
      obtain ⟨l0, l1, l2⟩ := line_cells HH.out HN.out hl
      cases e1 : lf == f
      · have hstep := Lib.hid (find_step (p := fun l : Ln => l.1 == f && l.2.2 == t) hf.out hl (by simp only [e1]; rfl))
        clear hl hf hr
        go_wp2_with fail
        go_round
        case rel => exact ⟨k + 1, by omega, by go_num, hstep⟩
        case measure => simp [intOf]; omega
      · cases e2 : lt == t
        · have hstep := Lib.hid (find_step (p := fun l : Ln => l.1 == f && l.2.2 == t) hf.out hl (by simp only [e1, e2]; rfl))
          clear hl hf hr
          go_wp2_with fail
          go_round
          case rel => exact ⟨k + 1, by omega, by go_num, hstep⟩
          case measure => simp [intOf]; omega
        · have hstep := Lib.hid (find_at (p := fun l : Ln => l.1 == f && l.2.2 == t) hf.out hl (by simp only [e1, e2]; rfl))
          clear hl hf
          have hE : Hid (lineV (betwL xs f t) = .tuple #[.agg #[.int .i64 lf, .int .i64 lo, .int .i64 lt], .bool true]) := by unfold Hid betwL; rw [hstep.out]; rfl
          obtain ⟨r0, r1, r2, f0, f1, f2⟩ := row_facts hr
          have hr3 := row_facts (row_set3 (x' := .int .i64 lf) (y' := .int .i64 lo) (z' := .int .i64 lt) hr)
          have hb3 := set3_below (x := .int .i64 lf) (y := .int .i64 lo) (z := .int .i64 lt) hbw (Nat.le_succ w.heap.size)
          unfold set3 at hr3 hb3
          obtain ⟨s0, s1, s2, -, -, -⟩ := hr3
          clear hr hstep
          go_wp2_with fail
          exact bodyPost_ret (v := .tuple #[.agg #[.int .i64 lf, .int .i64 lo, .int .i64 lt], .bool true]) (by simp [results, Try.results26, go_sem, s0, s1, s2]) rfl ⟨by rw [hE.out], hb3⟩
    · obtain rfl : k = n := by omega
      have hE : Hid (lineV (betwL xs f t) = .tuple #[.agg #[.int .i64 0, .int .i64 0, .int .i64 0], .bool false]) := by
        unfold Hid betwL
        rw [← List.take_of_length_le (l := xs) (by rw [HN.out]; exact Nat.le_refl k), hf.out]
        rfl
      obtain ⟨r0, r1, r2, f0, f1, f2⟩ := row_facts hr
      clear hr hf
      go_wp2_with fail
      exact bodyPost_ret (v := .tuple #[.agg #[.int .i64 0, .int .i64 0, .int .i64 0], .bool false]) (by simp [results, Try.results26, go_sem, r0, r1, r2]) rfl ⟨by rw [hE.out], by repeat (first | exact hbw | refine set_below ?_ (by omega))⟩
theorem onB_eq (k f o t : Int) : onB k (f, o, t) = (k == f || k == o || k == t) := by
  unfold onB
  rw [show (f == k) = (k == f) from BEq.comm, show (o == k) = (k == o) from BEq.comm, show (t == k) = (k == t) from BEq.comm]
set_option maxRecDepth 100000 in
theorem implContains (f o t k : Int) (w : World) : Calls Try.prog 38 #[.agg #[.int .i64 f, .int .i64 o, .int .i64 t], .int .i64 k] w fun e w' => e = .returned (.bool (onB k (f, o, t))) ∧ Below w.heap.size w w' := by
  rw [onB_eq]
  cases e1 : k == f
  · cases e2 : k == o
    · cases e3 : k == t
      all_goals
        go_enter Try.func38, Try.ntmps38
        go_wp2_with fail
        go_ret
        exact ⟨rfl, (Below.refl _ _).alloc (Nat.le_refl _) _⟩
    · go_enter Try.func38, Try.ntmps38
      go_wp2_with fail
      go_ret
      exact ⟨rfl, (Below.refl _ _).alloc (Nat.le_refl _) _⟩
  · go_enter Try.func38, Try.ntmps38
    go_wp2_with fail
    go_ret
    exact ⟨rfl, (Below.refl _ _).alloc (Nat.le_refl _) _⟩
set_option maxRecDepth 100000 in
theorem implTurn (f o t : Int) (w : World) : Calls Try.prog 15 #[.agg #[.int .i64 f, .int .i64 o, .int .i64 t]] w fun e w' => e = .returned (.agg #[.int .i64 t, .int .i64 o, .int .i64 f]) ∧ Below w.heap.size w w' := by
  go_enter Try.func15, Try.ntmps15
  go_wp2_with fail
  exact bodyPost_ret (v := .agg #[.int .i64 t, .int .i64 o, .int .i64 f]) (by simp [results, Try.results15, go_sem]) rfl ⟨rfl, by repeat (first | exact Below.refl _ _ | refine Below.alloc ?_ (by simp) _ | refine set_below ?_ (by simp))⟩
set_option maxRecDepth 100000 in
theorem specTurn (f o t : Int) (w : World) : Calls Try.prog 28 #[.agg #[.int .i64 f, .int .i64 o, .int .i64 t]] w fun e w' => e = .returned (.agg #[.int .i64 t, .int .i64 o, .int .i64 f]) ∧ Below w.heap.size w w' := by
  go_enter Try.func28, Try.ntmps28
  go_wp2_with fail
  exact bodyPost_ret (v := .agg #[.int .i64 t, .int .i64 o, .int .i64 f]) (by simp [results, Try.results28, go_sem]) rfl ⟨rfl, by repeat (first | exact Below.refl _ _ | refine Below.alloc ?_ (by simp) _ | refine set_below ?_ (by simp))⟩
set_option maxRecDepth 100000 in
theorem toLn (f o t : Int) (w : World) : Calls Try.prog 29 #[.agg #[.int .i64 f, .int .i64 o, .int .i64 t]] w fun e w' => e = .returned (.agg #[.int .i64 f, .int .i64 o, .int .i64 t]) ∧ Below w.heap.size w w' := by
  go_enter Try.func29, Try.ntmps29
  go_wp2_with fail
  exact bodyPost_ret (v := .agg #[.int .i64 f, .int .i64 o, .int .i64 t]) (by simp [results, Try.results29, go_sem]) rfl ⟨rfl, (((Below.refl _ _).alloc (Nat.le_refl _) _).alloc (by simp) _).alloc (by simp; omega) _⟩
set_option maxRecDepth 100000 in
theorem implCountL (W H Z : Int) (w : World) : Calls Try.prog 18 #[.agg #[.int .i64 W, .int .i64 H, .int .i64 Z]] w fun e w' => e = .returned (.int .i64 ((lnsOf W H Z).length : Nat)) ∧ Below w.heap.size w w' := by
  obtain ⟨xs, hxs⟩ : ∃ xs, lnsOf W H Z = xs := ⟨_, rfl⟩
  have hle := lnsOf_le W H Z
  have C1 := Lib.hid (fun w => implLinesA W H Z w)
  rw [hxs] at hle C1 ⊢
  clear hxs
  obtain ⟨n, hn⟩ : ∃ n, xs.length = n := ⟨_, rfl⟩
  have HN := Lib.hid hn
  rw [hn] at hle ⊢
  clear hn
  go_enter Try.func18, Try.ntmps18
  go_wp2_with fail
  have B0 := Lib.hid (box_new W H Z w)
  generalize w.alloc (.cells #[.int .i64 W, .int .i64 H, .int .i64 Z] 25) = W1 at *
  refine (C1.out _).mono ?_
  rintro e w1 ⟨v, rfl, hh, hb1⟩
  rw [HN.out] at hh
  have B1 := Lib.hid (B0.out.later hb1)
  obtain ⟨ga, gc, rfl⟩ := lines_form hh
  clear hb1 B0 hh
  go_wp2_with fail
  go_ret
  exact ⟨rfl, B1.out.2.2.2.2⟩
set_option maxRecDepth 100000 in
theorem specCountL (W H Z : Int) (w : World) : Calls Try.prog 31 #[.agg #[.int .i64 W, .int .i64 H, .int .i64 Z]] w fun e w' => e = .returned (.int .i64 ((lnsOf W H Z).length : Nat)) ∧ Below w.heap.size w w' := by
  obtain ⟨xs, hxs⟩ : ∃ xs, lnsOf W H Z = xs := ⟨_, rfl⟩
  have hle := lnsOf_le W H Z
  have C1 := Lib.hid (fun w => specLinesA W H Z w)
  rw [hxs] at hle C1 ⊢
  clear hxs
  obtain ⟨n, hn⟩ : ∃ n, xs.length = n := ⟨_, rfl⟩
  have HN := Lib.hid hn
  rw [hn] at hle ⊢
  clear hn
  go_enter Try.func31, Try.ntmps31
  go_wp2_with fail
  have B0 := Lib.hid (box_new W H Z w)
  generalize w.alloc (.cells #[.int .i64 W, .int .i64 H, .int .i64 Z] 25) = W1 at *
  refine (C1.out _).mono ?_
  rintro e w1 ⟨v, rfl, hh, hb1⟩
  rw [HN.out] at hh
  have B1 := Lib.hid (B0.out.later hb1)
  obtain ⟨ga, gc, rfl⟩ := lines_form hh
  clear hb1 B0 hh
  go_wp2_with fail
  go_ret
  exact ⟨rfl, B1.out.2.2.2.2⟩
end Go.Proofs.Ytipdjdbndbjnoaa
