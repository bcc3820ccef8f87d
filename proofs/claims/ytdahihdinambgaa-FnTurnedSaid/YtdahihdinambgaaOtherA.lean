/- OtherOf, IsComplement of both: otherB, complB, for every board and every ints. -/
import Derived.Test.YtdahihdinambgaaOtherMath
namespace Go.Proofs.Ytdahihdinambgaa
open Go.RowKit
set_option linter.unusedVariables false
set_option linter.unusedSimpArgs false
theorem sub_comp {p z : Nat} (h : Part p z) (hz : z < 9223372036854775808) : IntKind.i64.wrap ((z : Int) - (p : Int)) = ((compN z p : Nat) : Int) := by
  have := comp_add h
  rw [show (z : Int) - (p : Int) = ((compN z p : Nat) : Int) by omega]
  exact IntWalk.i64_in _ (by omega)
theorem andNot_comp {p z : Nat} (h : Part p z) (hz : z < 9223372036854775808) : bits .andNot .i64 (z : Int) (p : Int) = ((compN z p : Nat) : Int) := not63 hz (Nat.lt_of_le_of_lt h.le hz)
set_option maxRecDepth 100000 in
theorem specOther_no {W H Z P : Int} (hP : P ≤ 9223372036854775807) (h : posB W H Z P = false) (w : World) : Calls Try.prog 31 #[.agg #[.int .i64 W, .int .i64 H, .int .i64 Z], .int .i64 P] w (QI (-1) w) := by
  have C1 := Lib.hid (specPos_is hP h)
  clear h hP
  go_enter Try.func31, Try.ntmps31
  go_wp2_with fail
  have B0 := Lib.hid (box_newT 25 W H Z w)
  generalize w.alloc (.cells #[.int .i64 W, .int .i64 H, .int .i64 Z] 25) = W1 at *
  obtain ⟨c0, c1, c2, hlt, hb1⟩ := B0.out
  go_wp2_with fail
  refine (C1.out _).mono ?_
  rintro e w1 ⟨rfl, hb⟩
  have B1 := Lib.hid (B0.out.later hb)
  clear c0 c1 c2 hlt hb1 hb B0
  go_wp2_with fail
  go_ret
  exact ⟨rfl, B1.out.2.2.2.2⟩
set_option maxRecDepth 100000 in
theorem specOther_yes {W H : Int} {N z p : Nat} (ho : Ok W H N z) (h : Part p z) (w : World) : Calls Try.prog 31 #[.agg #[.int .i64 W, .int .i64 H, .int .i64 z], .int .i64 p] w (QI (compN z p : Nat) w) := by
  have hz := ho.big
  have hand := sub_comp h hz
  have C1 := Lib.hid (specPos_is (by have := h.le; omega) (pos_of ho h))
  generalize compN z p = q at *
  clear ho h hz
  go_enter Try.func31, Try.ntmps31
  go_wp2_with fail
  have B0 := Lib.hid (box_newT 25 W H z w)
  generalize w.alloc (.cells #[.int .i64 W, .int .i64 H, .int .i64 z] 25) = W1 at *
  obtain ⟨c0, c1, c2, hlt, hb1⟩ := B0.out
  go_wp2_with fail
  refine (C1.out _).mono ?_
  rintro e w1 ⟨rfl, hb⟩
  have B1 := Lib.hid (B0.out.later hb)
  clear c0 c1 c2 hlt hb1 hb B0
  obtain ⟨c0, c1, c2, hlt, hb1⟩ := B1.out
  go_wp2_with fail
  go_ret
  exact ⟨rfl, hb1⟩
theorem specOther (W H Z P : Int) (hP : P ≤ 9223372036854775807) (w : World) : Calls Try.prog 31 #[.agg #[.int .i64 W, .int .i64 H, .int .i64 Z], .int .i64 P] w (QI (otherB W H Z P) w) := by
  cases h : posB W H Z P
  · rw [other_no h]; exact specOther_no hP h w
  · obtain ⟨N, z, p, rfl, rfl, ho, hp⟩ := pos_yes h
    rw [other_nat ho hp]; exact specOther_yes ho hp w
set_option maxRecDepth 100000 in
theorem implOther_no {W H Z P : Int} (hP : P ≤ 9223372036854775807) (h : posB W H Z P = false) (w : World) : Calls Try.prog 19 #[.agg #[.int .i64 W, .int .i64 H, .int .i64 Z], .int .i64 P] w (QI (-1) w) := by
  have C1 := Lib.hid (implPos_is hP h)
  clear h hP
  go_enter Try.func19, Try.ntmps19
  go_wp2_with fail
  have B0 := Lib.hid (box_newT 25 W H Z w)
  generalize w.alloc (.cells #[.int .i64 W, .int .i64 H, .int .i64 Z] 25) = W1 at *
  obtain ⟨c0, c1, c2, hlt, hb1⟩ := B0.out
  go_wp2_with fail
  refine (C1.out _).mono ?_
  rintro e w1 ⟨rfl, hb⟩
  have B1 := Lib.hid (B0.out.later hb)
  clear c0 c1 c2 hlt hb1 hb B0
  go_wp2_with fail
  go_ret
  exact ⟨rfl, B1.out.2.2.2.2⟩
set_option maxRecDepth 100000 in
theorem implOther_yes {W H : Int} {N z p : Nat} (ho : Ok W H N z) (h : Part p z) (w : World) : Calls Try.prog 19 #[.agg #[.int .i64 W, .int .i64 H, .int .i64 z], .int .i64 p] w (QI (compN z p : Nat) w) := by
  have hz := ho.big
  have hand := andNot_comp h hz
  have C1 := Lib.hid (implPos_is (by have := h.le; omega) (pos_of ho h))
  generalize compN z p = q at *
  clear ho h hz
  go_enter Try.func19, Try.ntmps19
  go_wp2_with fail
  have B0 := Lib.hid (box_newT 25 W H z w)
  generalize w.alloc (.cells #[.int .i64 W, .int .i64 H, .int .i64 z] 25) = W1 at *
  obtain ⟨c0, c1, c2, hlt, hb1⟩ := B0.out
  go_wp2_with fail
  refine (C1.out _).mono ?_
  rintro e w1 ⟨rfl, hb⟩
  have B1 := Lib.hid (B0.out.later hb)
  clear c0 c1 c2 hlt hb1 hb B0
  obtain ⟨c0, c1, c2, hlt, hb1⟩ := B1.out
  go_wp2_with fail
  go_ret
  exact ⟨rfl, hb1⟩
theorem implOther (W H Z P : Int) (hP : P ≤ 9223372036854775807) (w : World) : Calls Try.prog 19 #[.agg #[.int .i64 W, .int .i64 H, .int .i64 Z], .int .i64 P] w (QI (otherB W H Z P) w) := by
  cases h : posB W H Z P
  · rw [other_no h]; exact implOther_no hP h w
  · obtain ⟨N, z, p, rfl, rfl, ho, hp⟩ := pos_yes h
    rw [other_nat ho hp]; exact implOther_yes ho hp w
set_option maxHeartbeats 1000000 in
set_option maxRecDepth 100000 in
theorem implCompl (W H Z P Q : Int) (hP : P ≤ 9223372036854775807) (hQ : Q ≤ 9223372036854775807) (w : World) : Calls Try.prog 22 #[.agg #[.int .i64 W, .int .i64 H, .int .i64 Z], .int .i64 P, .int .i64 Q] w (QB (complB W H Z P Q) w) := by
  have C2 := Lib.hid (fun w => implOther W H Z P hP w)
  cases h : posB W H Z P
  · have C1 := Lib.hid (implPos_is hP h)
    rw [show complB W H Z P Q = false by simp [complB, h]]
    clear h hP hQ C2
    go_enter Try.func22, Try.ntmps22
    go_wp2_with fail
    have B0 := Lib.hid (box_newT 25 W H Z w)
    generalize w.alloc (.cells #[.int .i64 W, .int .i64 H, .int .i64 Z] 25) = W1 at *
    obtain ⟨c0, c1, c2, hlt, hb1⟩ := B0.out
    go_wp2_with fail
    refine (C1.out _).mono ?_
    rintro e w1 ⟨rfl, hb⟩
    have B1 := Lib.hid (B0.out.later hb)
    clear c0 c1 c2 hlt hb1 hb B0
    go_wp2_with fail
    go_ret
    exact ⟨rfl, B1.out.2.2.2.2⟩
  · have C1 := Lib.hid (implPos_is hP h)
    rw [show complB W H Z P Q = (Q == otherB W H Z P) by simp [complB, h]]
    generalize otherB W H Z P = R at *
    clear h hP hQ
    go_enter Try.func22, Try.ntmps22
    go_wp2_with fail
    have B0 := Lib.hid (box_newT 25 W H Z w)
    generalize w.alloc (.cells #[.int .i64 W, .int .i64 H, .int .i64 Z] 25) = W1 at *
    obtain ⟨c0, c1, c2, hlt, hb1⟩ := B0.out
    go_wp2_with fail
    refine (C1.out _).mono ?_
    rintro e w1 ⟨rfl, hb⟩
    have B1 := Lib.hid (B0.out.later hb)
    clear c0 c1 c2 hlt hb1 hb B0
    obtain ⟨c0, c1, c2, hlt, hb1⟩ := B1.out
    go_wp2_with fail
    refine (C2.out _).mono ?_
    rintro e w2 ⟨rfl, hb⟩
    have B2 := Lib.hid (B1.out.later hb)
    clear c0 c1 c2 hlt hb1 hb B1
    go_wp2_with fail
    go_ret
    exact ⟨rfl, B2.out.2.2.2.2⟩
set_option maxHeartbeats 1000000 in
set_option maxRecDepth 100000 in
theorem specCompl (W H Z P Q : Int) (hP : P ≤ 9223372036854775807) (hQ : Q ≤ 9223372036854775807) (w : World) : Calls Try.prog 35 #[.agg #[.int .i64 W, .int .i64 H, .int .i64 Z], .int .i64 P, .int .i64 Q] w (QB (complB W H Z P Q) w) := by
  have C3 := Lib.hid (fun w => specOther W H Z P hP w)
  cases h : posB W H Z P
  · have C1 := Lib.hid (specPos_is hP h)
    rw [show complB W H Z P Q = false by simp [complB, h]]
    clear h hP hQ C3
    go_enter Try.func35, Try.ntmps35
    go_wp2_with fail
    have B0 := Lib.hid (box_newT 25 W H Z w)
    generalize w.alloc (.cells #[.int .i64 W, .int .i64 H, .int .i64 Z] 25) = W1 at *
    obtain ⟨c0, c1, c2, hlt, hb1⟩ := B0.out
    go_wp2_with fail
    refine (C1.out _).mono ?_
    rintro e w1 ⟨rfl, hb⟩
    have B1 := Lib.hid (B0.out.later hb)
    clear c0 c1 c2 hlt hb1 hb B0
    go_wp2_with fail
    go_ret
    exact ⟨rfl, B1.out.2.2.2.2⟩
  · have C1 := Lib.hid (specPos_is hP h)
    cases h2 : posB W H Z Q
    · have C2 := Lib.hid (specPos_is hQ h2)
      have hne : (Q == otherB W H Z P) = false := by
        rw [beq_eq_false_iff_ne]; intro e; rw [e, other_pos h] at h2; cases h2
      rw [show complB W H Z P Q = false by simp [complB, hne]]
      clear h hP hQ h2 hne C3
      go_enter Try.func35, Try.ntmps35
      go_wp2_with fail
      have B0 := Lib.hid (box_newT 25 W H Z w)
      generalize w.alloc (.cells #[.int .i64 W, .int .i64 H, .int .i64 Z] 25) = W1 at *
      obtain ⟨c0, c1, c2, hlt, hb1⟩ := B0.out
      go_wp2_with fail
      refine (C1.out _).mono ?_
      rintro e w1 ⟨rfl, hb⟩
      have B1 := Lib.hid (B0.out.later hb)
      clear c0 c1 c2 hlt hb1 hb B0
      obtain ⟨c0, c1, c2, hlt, hb1⟩ := B1.out
      go_wp2_with fail
      refine (C2.out _).mono ?_
      rintro e w2 ⟨rfl, hb⟩
      have B2 := Lib.hid (B1.out.later hb)
      clear c0 c1 c2 hlt hb1 hb B1
      go_wp2_with fail
      go_ret
      exact ⟨rfl, B2.out.2.2.2.2⟩
    · have C2 := Lib.hid (specPos_is hQ h2)
      rw [show complB W H Z P Q = (Q == otherB W H Z P) by simp [complB, h]]
      generalize otherB W H Z P = R at *
      clear h hP hQ h2
      go_enter Try.func35, Try.ntmps35
      go_wp2_with fail
      have B0 := Lib.hid (box_newT 25 W H Z w)
      generalize w.alloc (.cells #[.int .i64 W, .int .i64 H, .int .i64 Z] 25) = W1 at *
      obtain ⟨c0, c1, c2, hlt, hb1⟩ := B0.out
      go_wp2_with fail
      refine (C1.out _).mono ?_
      rintro e w1 ⟨rfl, hb⟩
      have B1 := Lib.hid (B0.out.later hb)
      clear c0 c1 c2 hlt hb1 hb B0
      obtain ⟨c0, c1, c2, hlt, hb1⟩ := B1.out
      go_wp2_with fail
      refine (C2.out _).mono ?_
      rintro e w2 ⟨rfl, hb⟩
      have B2 := Lib.hid (B1.out.later hb)
      clear c0 c1 c2 hlt hb1 hb B1
      obtain ⟨c0, c1, c2, hlt, hb1⟩ := B2.out
      go_wp2_with fail
      refine (C3.out _).mono ?_
      rintro e w3 ⟨rfl, hb⟩
      have B3 := Lib.hid (B2.out.later hb)
      clear c0 c1 c2 hlt hb1 hb B2
      go_wp2_with fail
      go_ret
      exact ⟨rfl, B3.out.2.2.2.2⟩
end Go.Proofs.Ytdahihdinambgaa
