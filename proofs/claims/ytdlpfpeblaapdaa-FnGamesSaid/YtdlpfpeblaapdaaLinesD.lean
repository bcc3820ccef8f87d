/- LineBetween, LinesThrough, CountLines, IsLoneHole and TurnLine of both. -/
import Derived.Test.YtdlpfpeblaapdaaLinesC
namespace Go.Proofs.Ytdlpfpeblaapdaa
open Go.RowKit
set_option linter.unusedVariables false
set_option linter.unusedSimpArgs false
set_option maxHeartbeats 1000000 in
set_option maxRecDepth 100000 in
theorem specBetween (W H Z f t : Int) (w : World) : Calls Try.prog 75 #[.agg #[.int .i64 W, .int .i64 H, .int .i64 Z], .int .i64 f, .int .i64 t] w fun e w' => e = .returned (lineV (betwL (lnsOf W H Z) f t)) ∧ Below w.heap.size w w' := by
  obtain ⟨xs, hxs⟩ : ∃ xs, lnsOf W H Z = xs := ⟨_, rfl⟩
  have hle := lnsOf_le W H Z
  have C1 := Lib.hid (fun w => specLinesA W H Z w)
  rw [hxs] at hle C1 ⊢
  clear hxs
  obtain ⟨n, hn⟩ : ∃ n, xs.length = n := ⟨_, rfl⟩
  have HN := Lib.hid hn
  rw [hn] at hle
  clear hn
  go_enter Try.func75, Try.ntmps75
  go_wp2_with fail
  have B0 := Lib.hid (two_new W H Z w)
  generalize (w.alloc (.cells #[.int .i64 W, .int .i64 H, .int .i64 Z] 25)).alloc (.cells #[.int .i64 0, .int .i64 0, .int .i64 0] 58) = W1 at *
  refine (C1.out _).mono ?_
  rintro e w1 ⟨v, rfl, hh, hb1⟩
  rw [HN.out] at hh
  have B1 := Lib.hid (B0.out.later hb1)
  have HH := Lib.hid hh
  obtain ⟨ga, gc, rfl⟩ := lines_form hh
  clear hb1 B0 hh
  go_wp2_with fail
  generalize W1.heap.size = B at *
  obtain ⟨⟨c0, c1, c2, hlt, hbw⟩, hr, hlt2⟩ := B1.out
  go_loop [9] (fun i => ∃ k : Nat, k ≤ n ∧ i = .int .i64 k ∧ Hid ((xs.take k).find? (fun l => l.1 == f && l.2.2 == t) = none)) (fun i => n - (intOf i).toNat)
  case atStart => exact ⟨0, by omega, rfl, rfl⟩
  case round =>
    obtain ⟨k, hk, rfl, hf⟩ := hrel
    by_cases hkn : k < n
    · obtain ⟨⟨lf, lo, lt⟩, hl⟩ : ∃ l, xs[k]? = some l := ⟨_, List.getElem?_eq_getElem (by rw [HN.out]; exact hkn)⟩
      have k0 : (0 : Int) ≤ (k : Int) := by omega
      have k1 : (k : Int) < (n : Int) := by omega
      obtain ⟨g, rfl⟩ : ∃ g, ga = some ⟨g, 0, none⟩ := by
        rcases Go.Joins.ownsRow_forms HH.out with ⟨h, h0⟩ | ⟨g, cap, h⟩
        · omega
        · injection h with h1 h2 h3; exact ⟨g, h1⟩
      obtain ⟨l0, l1, l2⟩ := line_cells HH.out HN.out hl
      cases e1 : lf == f
      · have hstep := Lib.hid (find_step (p := fun l : Ln => l.1 == f && l.2.2 == t) hf.out hl (by simp only [e1]; rfl))
        clear hl hf hr
        go_wp2_with fail
        go_round
        case rel => exact ⟨k + 1, by omega, by go_num, hstep⟩
        case measure => simp [intOf]; omega
      · cases e2 : lt == t
        · have hstep := Lib.hid (find_step (p := fun l : Ln => l.1 == f && l.2.2 == t) hf.out hl (by simp only [e1, e2]; rfl))
          clear hl hf hr
          go_wp2_with fail
          go_round
          case rel => exact ⟨k + 1, by omega, by go_num, hstep⟩
          case measure => simp [intOf]; omega
        · have hstep := Lib.hid (find_at (p := fun l : Ln => l.1 == f && l.2.2 == t) hf.out hl (by simp only [e1, e2]; rfl))
          clear hl hf
          have hE : Hid (lineV (betwL xs f t) = .tuple #[.agg #[.int .i64 lf, .int .i64 lo, .int .i64 lt], .bool true]) := by unfold Hid betwL; rw [hstep.out]; rfl
          obtain ⟨r0, r1, r2, f0, f1, f2⟩ := row_facts hr
          have hr3 := row_facts (row_set3 (x' := .int .i64 lf) (y' := .int .i64 lo) (z' := .int .i64 lt) hr)
          have hb3 := set3_below (x := .int .i64 lf) (y := .int .i64 lo) (z := .int .i64 lt) hbw (Nat.le_succ w.heap.size)
          unfold set3 at hr3 hb3
          obtain ⟨s0, s1, s2, -, -, -⟩ := hr3
          clear hr hstep
          go_wp2_with fail
          exact bodyPost_ret (v := .tuple #[.agg #[.int .i64 lf, .int .i64 lo, .int .i64 lt], .bool true]) (by simp [results, Try.results75, go_sem, s0, s1, s2]) rfl ⟨by rw [hE.out], hb3⟩
    · obtain rfl : k = n := by omega
      have hE : Hid (lineV (betwL xs f t) = .tuple #[.agg #[.int .i64 0, .int .i64 0, .int .i64 0], .bool false]) := by
        unfold Hid betwL
        rw [← List.take_of_length_le (l := xs) (by rw [HN.out]; exact Nat.le_refl k), hf.out]
        rfl
      obtain ⟨r0, r1, r2, f0, f1, f2⟩ := row_facts hr
      clear hr hf
      go_wp2_with fail
      exact bodyPost_ret (v := .tuple #[.agg #[.int .i64 0, .int .i64 0, .int .i64 0], .bool false]) (by simp [results, Try.results75, go_sem, r0, r1, r2]) rfl ⟨by rw [hE.out], by repeat (first | exact hbw | refine set_below ?_ (by omega))⟩
theorem onB_eq (k f o t : Int) : onB k (f, o, t) = (k == f || k == o || k == t) := by
  unfold onB
  rw [show (f == k) = (k == f) from BEq.comm, show (o == k) = (k == o) from BEq.comm, show (t == k) = (k == t) from BEq.comm]
set_option maxRecDepth 100000 in
theorem toLn (f o t : Int) (w : World) : Calls Try.prog 45 #[.agg #[.int .i64 f, .int .i64 o, .int .i64 t]] w fun e w' => e = .returned (.agg #[.int .i64 f, .int .i64 o, .int .i64 t]) ∧ Below w.heap.size w w' := by
  go_enter Try.func45, Try.ntmps45
  go_wp2_with fail
  exact bodyPost_ret (v := .agg #[.int .i64 f, .int .i64 o, .int .i64 t]) (by simp [results, Try.results45, go_sem]) rfl ⟨rfl, (((Below.refl _ _).alloc (Nat.le_refl _) _).alloc (by simp) _).alloc (by simp; omega) _⟩
end Go.Proofs.Ytdlpfpeblaapdaa
