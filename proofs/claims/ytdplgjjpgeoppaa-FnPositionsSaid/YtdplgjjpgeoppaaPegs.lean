/- CountPegs, HasPeg, SetPeg, FullBut, SinglePeg of the program and of the model give the same values (countB, hasB, setB, butB, oneB), for every board, every position of 64 bits and every index. -/
import Derived.Test.YtdplgjjpgeoppaaPos
namespace Go.Proofs.Ytdplgjjpgeoppaa
open Go.RowKit
def countB (W H Z P : Int) : Int := if posB W H Z P = true then (pc 49 P.toNat : Nat) else -1
def hasB (W H Z P K : Int) : Bool := posB W H Z P && holeB W H Z K && bit P.toNat K.toNat
def setB (W H Z P K : Int) (on : Bool) : Int × Bool := if (posB W H Z P && holeB W H Z K) = true then ((if on = true then (putB P.toNat K.toNat : Nat) else (dropB P.toNat K.toNat : Nat)), true) else (P, false)
def butB (W H Z K : Int) : Int := if holeB W H Z K = true then (dropB Z.toNat K.toNat : Nat) else -1
def oneB (W H Z K : Int) : Int := if holeB W H Z K = true then 2 ^ K.toNat else -1
/-- The pair that SetPeg returns. -/
def QP (r : Int × Bool) (w : World) (e : Ending) (w' : World) : Prop := e = .returned (.tuple #[.int .i64 r.1, .bool r.2]) ∧ Below w.heap.size w w'
theorem specPos_is {b : Bool} {W H Z P : Int} (hP : P ≤ 9223372036854775807) (h : posB W H Z P = b) (w : World) : Calls Try.prog 23 #[.agg #[.int .i64 W, .int .i64 H, .int .i64 Z], .int .i64 P] w (QB b w) := by rw [← h]; exact specPos W H Z P hP w
theorem implPos_is {b : Bool} {W H Z P : Int} (hP : P ≤ 9223372036854775807) (h : posB W H Z P = b) (w : World) : Calls Try.prog 22 #[.agg #[.int .i64 W, .int .i64 H, .int .i64 Z], .int .i64 P] w (QB b w) := by rw [← h]; exact implPos W H Z P hP w
theorem specHole_is {b : Bool} {W H Z K : Int} (h : holeB W H Z K = b) (w : World) : Calls Try.prog 45 #[.agg #[.int .i64 W, .int .i64 H, .int .i64 Z], .int .i64 K] w (QB b w) := by rw [← h]; exact specHole W H Z K w
theorem implHole_is {b : Bool} {W H Z K : Int} (h : holeB W H Z K = b) (w : World) : Calls Try.prog 39 #[.agg #[.int .i64 W, .int .i64 H, .int .i64 Z], .int .i64 K] w (QB b w) := by rw [← h]; exact implHole W H Z K w
theorem hole_of {W H Z K : Int} (h : holeB W H Z K = true) : ∃ N z k : Nat, Z = z ∧ K = k ∧ Ok W H N z ∧ k < N ∧ bit z k = true := by
  cases h0 : okB W H Z
  · rw [holeB_no h0] at h; cases h
  · obtain ⟨N, z, rfl, ho⟩ := ok_of h0
    obtain ⟨k, rfl, hk, hb⟩ := hole_yes ho h
    exact ⟨N, z, k, rfl, rfl, ho, hk, hb⟩
theorem Part.big {W H : Int} {N z p : Nat} (ho : Ok W H N z) (h : Part p z) : p < 562949953421312 := Nat.lt_of_le_of_lt h.le ho.zbig
theorem pow_nat (k : Nat) (hk : k < 49) : ∃ q : Nat, (2 : Int) ^ k = q ∧ 2 ^ k = q ∧ 1 ≤ q ∧ q ≤ 562949953421312 := by
  have := pow_le49 (show k ≤ 49 by omega)
  exact ⟨2 ^ k, by simp, rfl, Nat.two_pow_pos k, by rw [pow_cast] at this; omega⟩

set_option maxRecDepth 100000 in
theorem specPegs_no {W H Z P : Int} (hP : P ≤ 9223372036854775807) (h : posB W H Z P = false) (w : World) : Calls Try.prog 25 #[.agg #[.int .i64 W, .int .i64 H, .int .i64 Z], .int .i64 P] w (QI (-1) w) := by
  have C1 := Lib.hid (specPos_is hP h)
  clear h hP
  go_enter Try.func25, Try.ntmps25
  go_wp2_with fail
  have B0 := Lib.hid (box_new W H Z w)
  generalize w.alloc (.cells #[.int .i64 W, .int .i64 H, .int .i64 Z] 25) = W1 at *
  refine (C1.out _).mono ?_
  rintro e w1 ⟨rfl, hb⟩
  have B1 := Lib.hid (B0.out.later hb)
  clear hb B0
  obtain ⟨c0, c1, c2, hlt, hb1⟩ := B1.out
  go_wp2_with fail
  go_ret
  exact ⟨rfl, hb1⟩
set_option maxRecDepth 100000 in
theorem implPegs_no {W H Z P : Int} (hP : P ≤ 9223372036854775807) (h : posB W H Z P = false) (w : World) : Calls Try.prog 19 #[.agg #[.int .i64 W, .int .i64 H, .int .i64 Z], .int .i64 P] w (QI (-1) w) := by
  have C1 := Lib.hid (implPos_is hP h)
  clear h hP
  go_enter Try.func19, Try.ntmps19
  go_wp2_with fail
  have B0 := Lib.hid (box_new W H Z w)
  generalize w.alloc (.cells #[.int .i64 W, .int .i64 H, .int .i64 Z] 25) = W1 at *
  refine (C1.out _).mono ?_
  rintro e w1 ⟨rfl, hb⟩
  have B1 := Lib.hid (B0.out.later hb)
  clear hb B0
  obtain ⟨c0, c1, c2, hlt, hb1⟩ := B1.out
  go_wp2_with fail
  go_ret
  exact ⟨rfl, hb1⟩
set_option maxRecDepth 100000 in
theorem specPegs_yes {W H : Int} {N z p : Nat} (ho : Ok W H N z) (h : Part p z) (w : World) : Calls Try.prog 25 #[.agg #[.int .i64 W, .int .i64 H, .int .i64 z], .int .i64 p] w (QI (pc 49 p : Nat) w) := by
  have hp := h.big ho
  have C1 := Lib.hid (specPos_is (b := true) (P := p) (by omega) (pos_of ho h))
  have C2 := Lib.hid (fun w => specList p w)
  have E := Lib.hid (bitsOf_length p 49)
  clear h ho
  go_enter Try.func25, Try.ntmps25
  go_wp2_with fail
  have B0 := Lib.hid (box_new W H z w)
  generalize w.alloc (.cells #[.int .i64 W, .int .i64 H, .int .i64 z] 25) = W1 at *
  refine (C1.out _).mono ?_
  rintro e w1 ⟨rfl, hb⟩
  have B1 := Lib.hid (B0.out.later hb)
  clear hb B0
  obtain ⟨c0, c1, c2, hlt, hb1⟩ := B1.out
  go_wp2_with fail
  refine (C2.out _).mono ?_
  rintro e w2 ⟨v, rfl, ho, hb2⟩
  obtain ⟨a, c, rfl⟩ : ∃ a c, v = .slice a (bitsOf 49 p).length c := by rcases Go.Joins.ownsRow_forms ho with ⟨rfl, h⟩ | ⟨g, cap, rfl⟩ <;> first | exact ⟨_, _, rfl⟩ | exact ⟨none, 0, by rw [h]⟩
  have B2 := Lib.hid (B1.out.later hb2)
  clear ho hb2 B1 c0 c1 c2 hlt hb1
  go_wp2_with fail
  go_ret
  exact QI.of (by rw [E.out]) B2.out.2.2.2.2
set_option maxRecDepth 100000 in
theorem implPegs_yes {W H : Int} {N z p : Nat} (ho : Ok W H N z) (h : Part p z) (w : World) : Calls Try.prog 19 #[.agg #[.int .i64 W, .int .i64 H, .int .i64 z], .int .i64 p] w (QI (pc 49 p : Nat) w) := by
  have hp := h.big ho
  have C1 := Lib.hid (implPos_is (b := true) (P := p) (by omega) (pos_of ho h))
  have C2 := Lib.hid (fun w => ones64 p w (by omega))
  have E := Lib.hid (pc_more (show p < 2 ^ 49 by omega) 64 (by decide))
  clear h ho
  go_enter Try.func19, Try.ntmps19
  go_wp2_with fail
  have B0 := Lib.hid (box_new W H z w)
  generalize w.alloc (.cells #[.int .i64 W, .int .i64 H, .int .i64 z] 25) = W1 at *
  refine (C1.out _).mono ?_
  rintro e w1 ⟨rfl, hb⟩
  have B1 := Lib.hid (B0.out.later hb)
  clear hb B0
  obtain ⟨c0, c1, c2, hlt, hb1⟩ := B1.out
  go_wp2_with fail
  refine (C2.out _).mono ?_
  rintro e w2 ⟨rfl, rfl⟩
  go_wp2_with fail
  go_ret
  exact QI.of (by rw [E.out]) hb1
theorem specPegs (W H Z P : Int) (hP : P ≤ 9223372036854775807) (w : World) : Calls Try.prog 25 #[.agg #[.int .i64 W, .int .i64 H, .int .i64 Z], .int .i64 P] w (QI (countB W H Z P) w) := by
  cases h : posB W H Z P
  · rw [show countB W H Z P = -1 by simp [countB, h]]; exact specPegs_no hP h w
  · rw [show countB W H Z P = (pc 49 P.toNat : Nat) by simp [countB, h]]
    obtain ⟨N, z, p, rfl, rfl, ho, hp⟩ := pos_yes h
    exact specPegs_yes ho hp w
theorem implPegs (W H Z P : Int) (hP : P ≤ 9223372036854775807) (w : World) : Calls Try.prog 19 #[.agg #[.int .i64 W, .int .i64 H, .int .i64 Z], .int .i64 P] w (QI (countB W H Z P) w) := by
  cases h : posB W H Z P
  · rw [show countB W H Z P = -1 by simp [countB, h]]; exact implPegs_no hP h w
  · rw [show countB W H Z P = (pc 49 P.toNat : Nat) by simp [countB, h]]
    obtain ⟨N, z, p, rfl, rfl, ho, hp⟩ := pos_yes h
    exact implPegs_yes ho hp w
set_option maxRecDepth 100000 in
theorem isPeg (p k : Nat) (hk : k < 49) (w : World) : Calls Try.prog 42 #[.int .i64 p, .int .i64 k] w fun e w' => e = .returned (.bool (bit p k)) ∧ w = w' := by
  have hand := hand1
  have hb : Hid (∀ b, ((p : Int) / 2 ^ k % 2 == 1) = b → b = bit p k) := fun b h => by rw [← h, bit_int]
  go_enter Try.func42, Try.ntmps42
  go_wp2_with fail
  go_ret
  exact ⟨ret_bool (hb.out _ rfl), rfl⟩
set_option maxRecDepth 100000 in
theorem specHas_no {W H Z P : Int} (hP : P ≤ 9223372036854775807) (h : posB W H Z P = false) (K : Int) (w : World) : Calls Try.prog 26 #[.agg #[.int .i64 W, .int .i64 H, .int .i64 Z], .int .i64 P, .int .i64 K] w (QB false w) := by
  have C1 := Lib.hid (specPos_is hP h)
  clear h hP
  go_enter Try.func26, Try.ntmps26
  go_wp2_with fail
  have B0 := Lib.hid (box_new W H Z w)
  generalize w.alloc (.cells #[.int .i64 W, .int .i64 H, .int .i64 Z] 25) = W1 at *
  refine (C1.out _).mono ?_
  rintro e w1 ⟨rfl, hb⟩
  have B1 := Lib.hid (B0.out.later hb)
  clear hb B0
  obtain ⟨c0, c1, c2, hlt, hb1⟩ := B1.out
  go_wp2_with fail
  go_ret
  exact ⟨rfl, hb1⟩
set_option maxRecDepth 100000 in
theorem specHas_out {W H Z P K : Int} (hP : P ≤ 9223372036854775807) (h : posB W H Z P = true) (hk : holeB W H Z K = false) (w : World) : Calls Try.prog 26 #[.agg #[.int .i64 W, .int .i64 H, .int .i64 Z], .int .i64 P, .int .i64 K] w (QB false w) := by
  have C1 := Lib.hid (specPos_is hP h)
  have C2 := Lib.hid (specHole_is hk)
  clear h hP hk
  go_enter Try.func26, Try.ntmps26
  go_wp2_with fail
  have B0 := Lib.hid (box_new W H Z w)
  generalize w.alloc (.cells #[.int .i64 W, .int .i64 H, .int .i64 Z] 25) = W1 at *
  refine (C1.out _).mono ?_
  rintro e w1 ⟨rfl, hb⟩
  have B1 := Lib.hid (B0.out.later hb)
  clear hb B0
  obtain ⟨c0, c1, c2, hlt, hb1⟩ := B1.out
  go_wp2_with fail
  clear c0 c1 c2 hlt hb1
  refine (C2.out _).mono ?_
  rintro e w2 ⟨rfl, hb⟩
  have B2 := Lib.hid (B1.out.later hb)
  clear hb B1
  obtain ⟨c0, c1, c2, hlt, hb1⟩ := B2.out
  go_wp2_with fail
  go_ret
  exact ⟨rfl, hb1⟩
set_option maxRecDepth 100000 in
theorem implHas_no {W H Z P : Int} (hP : P ≤ 9223372036854775807) (h : posB W H Z P = false) (K : Int) (w : World) : Calls Try.prog 18 #[.agg #[.int .i64 W, .int .i64 H, .int .i64 Z], .int .i64 P, .int .i64 K] w (QB false w) := by
  have C1 := Lib.hid (implPos_is hP h)
  clear h hP
  go_enter Try.func18, Try.ntmps18
  go_wp2_with fail
  have B0 := Lib.hid (box_new W H Z w)
  generalize w.alloc (.cells #[.int .i64 W, .int .i64 H, .int .i64 Z] 25) = W1 at *
  refine (C1.out _).mono ?_
  rintro e w1 ⟨rfl, hb⟩
  have B1 := Lib.hid (B0.out.later hb)
  clear hb B0
  obtain ⟨c0, c1, c2, hlt, hb1⟩ := B1.out
  go_wp2_with fail
  go_ret
  exact ⟨rfl, hb1⟩
set_option maxRecDepth 100000 in
theorem implHas_out {W H Z P K : Int} (hP : P ≤ 9223372036854775807) (h : posB W H Z P = true) (hk : holeB W H Z K = false) (w : World) : Calls Try.prog 18 #[.agg #[.int .i64 W, .int .i64 H, .int .i64 Z], .int .i64 P, .int .i64 K] w (QB false w) := by
  have C1 := Lib.hid (implPos_is hP h)
  have C2 := Lib.hid (implHole_is hk)
  clear h hP hk
  go_enter Try.func18, Try.ntmps18
  go_wp2_with fail
  have B0 := Lib.hid (box_new W H Z w)
  generalize w.alloc (.cells #[.int .i64 W, .int .i64 H, .int .i64 Z] 25) = W1 at *
  refine (C1.out _).mono ?_
  rintro e w1 ⟨rfl, hb⟩
  have B1 := Lib.hid (B0.out.later hb)
  clear hb B0
  obtain ⟨c0, c1, c2, hlt, hb1⟩ := B1.out
  go_wp2_with fail
  clear c0 c1 c2 hlt hb1
  refine (C2.out _).mono ?_
  rintro e w2 ⟨rfl, hb⟩
  have B2 := Lib.hid (B1.out.later hb)
  clear hb B1
  obtain ⟨c0, c1, c2, hlt, hb1⟩ := B2.out
  go_wp2_with fail
  go_ret
  exact ⟨rfl, hb1⟩
set_option maxRecDepth 100000 in
theorem specHas_in {W H : Int} {N z p k : Nat} (ho : Ok W H N z) (h : Part p z) (hk : k < N) (hb : bit z k = true) (w : World) : Calls Try.prog 26 #[.agg #[.int .i64 W, .int .i64 H, .int .i64 z], .int .i64 p, .int .i64 k] w (QB (bit p k) w) := by
  have hp := h.big ho
  have C1 := Lib.hid (specPos_is (b := true) (P := p) (by omega) (pos_of ho h))
  have hN := ho.n49
  have C2 := Lib.hid (specHole_is (b := true) ((holeB_in ho hk).trans hb))
  have hk49 : k < 49 := by omega
  have hand := hand1
  have hbit : Hid (∀ b, ((p : Int) / 2 ^ k % 2 == 1) = b → b = bit p k) := fun b h => by rw [← h, bit_int]
  clear h ho hk hb
  go_enter Try.func26, Try.ntmps26
  go_wp2_with fail
  have B0 := Lib.hid (box_new W H z w)
  generalize w.alloc (.cells #[.int .i64 W, .int .i64 H, .int .i64 z] 25) = W1 at *
  refine (C1.out _).mono ?_
  rintro e w1 ⟨rfl, hb⟩
  have B1 := Lib.hid (B0.out.later hb)
  clear hb B0
  obtain ⟨c0, c1, c2, hlt, hb1⟩ := B1.out
  go_wp2_with fail
  clear c0 c1 c2 hlt hb1
  refine (C2.out _).mono ?_
  rintro e w2 ⟨rfl, hb⟩
  have B2 := Lib.hid (B1.out.later hb)
  clear hb B1
  obtain ⟨c0, c1, c2, hlt, hb1⟩ := B2.out
  go_wp2_with fail
  go_ret
  exact QB.of (hbit.out _ rfl) hb1
set_option maxRecDepth 100000 in
theorem implHas_in {W H : Int} {N z p k : Nat} (ho : Ok W H N z) (h : Part p z) (hk : k < N) (hb : bit z k = true) (w : World) : Calls Try.prog 18 #[.agg #[.int .i64 W, .int .i64 H, .int .i64 z], .int .i64 p, .int .i64 k] w (QB (bit p k) w) := by
  have hp := h.big ho
  have C1 := Lib.hid (implPos_is (b := true) (P := p) (by omega) (pos_of ho h))
  have hN := ho.n49
  have C2 := Lib.hid (implHole_is (b := true) ((holeB_in ho hk).trans hb))
  have hk49 : k < 49 := by omega
  have C3 := Lib.hid (fun w => isPeg p k hk49 w)
  clear h ho hk hb
  go_enter Try.func18, Try.ntmps18
  go_wp2_with fail
  have B0 := Lib.hid (box_new W H z w)
  generalize w.alloc (.cells #[.int .i64 W, .int .i64 H, .int .i64 z] 25) = W1 at *
  refine (C1.out _).mono ?_
  rintro e w1 ⟨rfl, hb⟩
  have B1 := Lib.hid (B0.out.later hb)
  clear hb B0
  obtain ⟨c0, c1, c2, hlt, hb1⟩ := B1.out
  go_wp2_with fail
  clear c0 c1 c2 hlt hb1
  refine (C2.out _).mono ?_
  rintro e w2 ⟨rfl, hb⟩
  have B2 := Lib.hid (B1.out.later hb)
  clear hb B1
  obtain ⟨c0, c1, c2, hlt, hb1⟩ := B2.out
  go_wp2_with fail
  refine (C3.out _).mono ?_
  rintro e w3 ⟨rfl, rfl⟩
  go_wp2_with fail
  go_ret
  exact ⟨rfl, hb1⟩
theorem specHas (W H Z P K : Int) (hP : P ≤ 9223372036854775807) (w : World) : Calls Try.prog 26 #[.agg #[.int .i64 W, .int .i64 H, .int .i64 Z], .int .i64 P, .int .i64 K] w (QB (hasB W H Z P K) w) := by
  cases h : posB W H Z P
  · rw [show hasB W H Z P K = false by simp [hasB, h]]; exact specHas_no hP h K w
  · cases hk : holeB W H Z K
    · rw [show hasB W H Z P K = false by simp [hasB, hk]]; exact specHas_out hP h hk w
    · rw [show hasB W H Z P K = bit P.toNat K.toNat by simp [hasB, h, hk]]
      obtain ⟨N, z, p, rfl, rfl, ho, hp⟩ := pos_yes h
      obtain ⟨k, rfl, hkn, hb⟩ := hole_yes ho hk
      exact specHas_in ho hp hkn hb w
theorem implHas (W H Z P K : Int) (hP : P ≤ 9223372036854775807) (w : World) : Calls Try.prog 18 #[.agg #[.int .i64 W, .int .i64 H, .int .i64 Z], .int .i64 P, .int .i64 K] w (QB (hasB W H Z P K) w) := by
  cases h : posB W H Z P
  · rw [show hasB W H Z P K = false by simp [hasB, h]]; exact implHas_no hP h K w
  · cases hk : holeB W H Z K
    · rw [show hasB W H Z P K = false by simp [hasB, hk]]; exact implHas_out hP h hk w
    · rw [show hasB W H Z P K = bit P.toNat K.toNat by simp [hasB, h, hk]]
      obtain ⟨N, z, p, rfl, rfl, ho, hp⟩ := pos_yes h
      obtain ⟨k, rfl, hkn, hb⟩ := hole_yes ho hk
      exact implHas_in ho hp hkn hb w
set_option maxRecDepth 100000 in
theorem specBut_no {W H Z K : Int} (h : holeB W H Z K = false) (w : World) : Calls Try.prog 28 #[.agg #[.int .i64 W, .int .i64 H, .int .i64 Z], .int .i64 K] w (QI (-1) w) := by
  have C1 := Lib.hid (specHole_is h)
  clear h
  go_enter Try.func28, Try.ntmps28
  go_wp2_with fail
  have B0 := Lib.hid (box_new W H Z w)
  generalize w.alloc (.cells #[.int .i64 W, .int .i64 H, .int .i64 Z] 25) = W1 at *
  refine (C1.out _).mono ?_
  rintro e w1 ⟨rfl, hb⟩
  have B1 := Lib.hid (B0.out.later hb)
  clear hb B0
  obtain ⟨c0, c1, c2, hlt, hb1⟩ := B1.out
  go_wp2_with fail
  go_ret
  exact ⟨rfl, hb1⟩
set_option maxRecDepth 100000 in
theorem specOne_no {W H Z K : Int} (h : holeB W H Z K = false) (w : World) : Calls Try.prog 29 #[.agg #[.int .i64 W, .int .i64 H, .int .i64 Z], .int .i64 K] w (QI (-1) w) := by
  have C1 := Lib.hid (specHole_is h)
  clear h
  go_enter Try.func29, Try.ntmps29
  go_wp2_with fail
  have B0 := Lib.hid (box_new W H Z w)
  generalize w.alloc (.cells #[.int .i64 W, .int .i64 H, .int .i64 Z] 25) = W1 at *
  refine (C1.out _).mono ?_
  rintro e w1 ⟨rfl, hb⟩
  have B1 := Lib.hid (B0.out.later hb)
  clear hb B0
  obtain ⟨c0, c1, c2, hlt, hb1⟩ := B1.out
  go_wp2_with fail
  go_ret
  exact ⟨rfl, hb1⟩
set_option maxRecDepth 100000 in
theorem implBut_no {W H Z K : Int} (h : holeB W H Z K = false) (w : World) : Calls Try.prog 20 #[.agg #[.int .i64 W, .int .i64 H, .int .i64 Z], .int .i64 K] w (QI (-1) w) := by
  have C1 := Lib.hid (implHole_is h)
  clear h
  go_enter Try.func20, Try.ntmps20
  go_wp2_with fail
  have B0 := Lib.hid (box_new W H Z w)
  generalize w.alloc (.cells #[.int .i64 W, .int .i64 H, .int .i64 Z] 25) = W1 at *
  refine (C1.out _).mono ?_
  rintro e w1 ⟨rfl, hb⟩
  have B1 := Lib.hid (B0.out.later hb)
  clear hb B0
  obtain ⟨c0, c1, c2, hlt, hb1⟩ := B1.out
  go_wp2_with fail
  go_ret
  exact ⟨rfl, hb1⟩
set_option maxRecDepth 100000 in
theorem implOne_no {W H Z K : Int} (h : holeB W H Z K = false) (w : World) : Calls Try.prog 21 #[.agg #[.int .i64 W, .int .i64 H, .int .i64 Z], .int .i64 K] w (QI (-1) w) := by
  have C1 := Lib.hid (implHole_is h)
  clear h
  go_enter Try.func21, Try.ntmps21
  go_wp2_with fail
  have B0 := Lib.hid (box_new W H Z w)
  generalize w.alloc (.cells #[.int .i64 W, .int .i64 H, .int .i64 Z] 25) = W1 at *
  refine (C1.out _).mono ?_
  rintro e w1 ⟨rfl, hb⟩
  have B1 := Lib.hid (B0.out.later hb)
  clear hb B0
  obtain ⟨c0, c1, c2, hlt, hb1⟩ := B1.out
  go_wp2_with fail
  go_ret
  exact ⟨rfl, hb1⟩
set_option maxRecDepth 100000 in
theorem specOne_in {W H : Int} {N z k : Nat} (ho : Ok W H N z) (hk : k < N) (hb : bit z k = true) (w : World) : Calls Try.prog 29 #[.agg #[.int .i64 W, .int .i64 H, .int .i64 z], .int .i64 k] w (QI (2 ^ k) w) := by
  have hN := ho.n49
  have C1 := Lib.hid (specHole_is (b := true) ((holeB_in ho hk).trans hb))
  have hk49 : k < 49 := by omega
  have hz := ho.zbig
  obtain ⟨q, hq, hqn, q1, q2⟩ := pow_nat k hk49
  rw [hq]
  clear ho hk hb hz hqn
  go_enter Try.func29, Try.ntmps29
  go_wp2_with fail
  have B0 := Lib.hid (box_new W H z w)
  generalize w.alloc (.cells #[.int .i64 W, .int .i64 H, .int .i64 z] 25) = W1 at *
  refine (C1.out _).mono ?_
  rintro e w1 ⟨rfl, hb⟩
  have B1 := Lib.hid (B0.out.later hb)
  clear hb B0
  obtain ⟨c0, c1, c2, hlt, hb1⟩ := B1.out
  go_wp2_with fail
  go_ret
  exact QI.of (by first | rfl | exact hq | (simp only [hq])) hb1
set_option maxRecDepth 100000 in
theorem implOne_in {W H : Int} {N z k : Nat} (ho : Ok W H N z) (hk : k < N) (hb : bit z k = true) (w : World) : Calls Try.prog 21 #[.agg #[.int .i64 W, .int .i64 H, .int .i64 z], .int .i64 k] w (QI (2 ^ k) w) := by
  have hN := ho.n49
  have C1 := Lib.hid (implHole_is (b := true) ((holeB_in ho hk).trans hb))
  have hk49 : k < 49 := by omega
  have hz := ho.zbig
  obtain ⟨q, hq, hqn, q1, q2⟩ := pow_nat k hk49
  rw [hq]
  clear ho hk hb hz hqn
  go_enter Try.func21, Try.ntmps21
  go_wp2_with fail
  have B0 := Lib.hid (box_new W H z w)
  generalize w.alloc (.cells #[.int .i64 W, .int .i64 H, .int .i64 z] 25) = W1 at *
  refine (C1.out _).mono ?_
  rintro e w1 ⟨rfl, hb⟩
  have B1 := Lib.hid (B0.out.later hb)
  clear hb B0
  obtain ⟨c0, c1, c2, hlt, hb1⟩ := B1.out
  go_wp2_with fail
  go_ret
  exact QI.of (by first | rfl | exact hq | (simp only [hq])) hb1
set_option maxRecDepth 100000 in
theorem specBut_in {W H : Int} {N z k : Nat} (ho : Ok W H N z) (hk : k < N) (hb : bit z k = true) (w : World) : Calls Try.prog 28 #[.agg #[.int .i64 W, .int .i64 H, .int .i64 z], .int .i64 k] w (QI (dropB z k : Nat) w) := by
  have hN := ho.n49
  have C1 := Lib.hid (specHole_is (b := true) ((holeB_in ho hk).trans hb))
  have hk49 : k < 49 := by omega
  have hz := ho.zbig
  obtain ⟨q, hq, hqn, q1, q2⟩ := pow_nat k hk49
  have hd := drop_yes hb
  rw [hqn] at hd
  obtain ⟨r, hr⟩ : ∃ r, dropB z k = r := ⟨_, rfl⟩
  rw [hr] at hd ⊢
  have E : Hid ((z : Int) - (q : Int) = (r : Int)) := by unfold Hid; omega
  have E0 : (0 : Int) ≤ (z : Int) - (q : Int) := by omega
  clear ho hk hb hqn hd hr
  go_enter Try.func28, Try.ntmps28
  go_wp2_with fail
  have B0 := Lib.hid (box_new W H z w)
  generalize w.alloc (.cells #[.int .i64 W, .int .i64 H, .int .i64 z] 25) = W1 at *
  refine (C1.out _).mono ?_
  rintro e w1 ⟨rfl, hb⟩
  have B1 := Lib.hid (B0.out.later hb)
  clear hb B0
  obtain ⟨c0, c1, c2, hlt, hb1⟩ := B1.out
  go_wp2_with fail
  go_quiet (fail)
  go_wp2_with fail
  go_ret
  exact QI.of E.out (below_drewN _ hb1)
set_option maxRecDepth 100000 in
theorem implBut_in {W H : Int} {N z k : Nat} (ho : Ok W H N z) (hk : k < N) (hb : bit z k = true) (w : World) : Calls Try.prog 20 #[.agg #[.int .i64 W, .int .i64 H, .int .i64 z], .int .i64 k] w (QI (dropB z k : Nat) w) := by
  have hN := ho.n49
  have C1 := Lib.hid (implHole_is (b := true) ((holeB_in ho hk).trans hb))
  have hk49 : k < 49 := by omega
  have hz := ho.zbig
  obtain ⟨q, hq, hqn, q1, q2⟩ := pow_nat k hk49
  have hand := not63 (a := z) (b := q) (by omega) (by omega)
  rw [show z ^^^ (z &&& q) = dropB z k by rw [dropB, hqn]] at hand
  obtain ⟨r, hr⟩ : ∃ r, dropB z k = r := ⟨_, rfl⟩
  rw [hr] at hand ⊢
  clear ho hk hb hqn hr
  go_enter Try.func20, Try.ntmps20
  go_wp2_with fail
  have B0 := Lib.hid (box_new W H z w)
  generalize w.alloc (.cells #[.int .i64 W, .int .i64 H, .int .i64 z] 25) = W1 at *
  refine (C1.out _).mono ?_
  rintro e w1 ⟨rfl, hb⟩
  have B1 := Lib.hid (B0.out.later hb)
  clear hb B0
  obtain ⟨c0, c1, c2, hlt, hb1⟩ := B1.out
  go_wp2_with fail
  go_quiet (fail)
  go_wp2_with fail
  go_ret
  exact ⟨rfl, below_drewN _ hb1⟩
theorem specBut (W H Z K : Int) (w : World) : Calls Try.prog 28 #[.agg #[.int .i64 W, .int .i64 H, .int .i64 Z], .int .i64 K] w (QI (butB W H Z K) w) := by
  cases h : holeB W H Z K
  · rw [show butB W H Z K = -1 by simp [butB, h]]; exact specBut_no h w
  · rw [show butB W H Z K = (dropB Z.toNat K.toNat : Nat) by simp [butB, h]]
    obtain ⟨N, z, j, rfl, rfl, ho, hj, hb⟩ := hole_of h
    exact specBut_in ho hj hb w
theorem specOne (W H Z K : Int) (w : World) : Calls Try.prog 29 #[.agg #[.int .i64 W, .int .i64 H, .int .i64 Z], .int .i64 K] w (QI (oneB W H Z K) w) := by
  cases h : holeB W H Z K
  · rw [show oneB W H Z K = -1 by simp [oneB, h]]; exact specOne_no h w
  · rw [show oneB W H Z K = 2 ^ K.toNat by simp [oneB, h]]
    obtain ⟨N, z, j, rfl, rfl, ho, hj, hb⟩ := hole_of h
    exact specOne_in ho hj hb w
theorem implBut (W H Z K : Int) (w : World) : Calls Try.prog 20 #[.agg #[.int .i64 W, .int .i64 H, .int .i64 Z], .int .i64 K] w (QI (butB W H Z K) w) := by
  cases h : holeB W H Z K
  · rw [show butB W H Z K = -1 by simp [butB, h]]; exact implBut_no h w
  · rw [show butB W H Z K = (dropB Z.toNat K.toNat : Nat) by simp [butB, h]]
    obtain ⟨N, z, j, rfl, rfl, ho, hj, hb⟩ := hole_of h
    exact implBut_in ho hj hb w
theorem implOne (W H Z K : Int) (w : World) : Calls Try.prog 21 #[.agg #[.int .i64 W, .int .i64 H, .int .i64 Z], .int .i64 K] w (QI (oneB W H Z K) w) := by
  cases h : holeB W H Z K
  · rw [show oneB W H Z K = -1 by simp [oneB, h]]; exact implOne_no h w
  · rw [show oneB W H Z K = 2 ^ K.toNat by simp [oneB, h]]
    obtain ⟨N, z, j, rfl, rfl, ho, hj, hb⟩ := hole_of h
    exact implOne_in ho hj hb w
set_option maxRecDepth 100000 in
theorem specSet_no {W H Z P : Int} (hP : P ≤ 9223372036854775807) (h : posB W H Z P = false) (K : Int) (on : Bool) (w : World) : Calls Try.prog 27 #[.agg #[.int .i64 W, .int .i64 H, .int .i64 Z], .int .i64 P, .int .i64 K, .bool on] w (QP (P, false) w) := by
  have C1 := Lib.hid (specPos_is hP h)
  clear h hP
  go_enter Try.func27, Try.ntmps27
  go_wp2_with fail
  have B0 := Lib.hid (box_new W H Z w)
  generalize w.alloc (.cells #[.int .i64 W, .int .i64 H, .int .i64 Z] 25) = W1 at *
  refine (C1.out _).mono ?_
  rintro e w1 ⟨rfl, hb⟩
  have B1 := Lib.hid (B0.out.later hb)
  clear hb B0
  obtain ⟨c0, c1, c2, hlt, hb1⟩ := B1.out
  go_wp2_with fail
  go_ret2
  exact ⟨rfl, hb1⟩
set_option maxRecDepth 100000 in
theorem specSet_out {W H Z P K : Int} (hP : P ≤ 9223372036854775807) (h : posB W H Z P = true) (hk : holeB W H Z K = false) (on : Bool) (w : World) : Calls Try.prog 27 #[.agg #[.int .i64 W, .int .i64 H, .int .i64 Z], .int .i64 P, .int .i64 K, .bool on] w (QP (P, false) w) := by
  have C1 := Lib.hid (specPos_is hP h)
  have C2 := Lib.hid (specHole_is hk)
  clear h hP hk
  go_enter Try.func27, Try.ntmps27
  go_wp2_with fail
  have B0 := Lib.hid (box_new W H Z w)
  generalize w.alloc (.cells #[.int .i64 W, .int .i64 H, .int .i64 Z] 25) = W1 at *
  refine (C1.out _).mono ?_
  rintro e w1 ⟨rfl, hb⟩
  have B1 := Lib.hid (B0.out.later hb)
  clear hb B0
  obtain ⟨c0, c1, c2, hlt, hb1⟩ := B1.out
  go_wp2_with fail
  clear c0 c1 c2 hlt hb1
  refine (C2.out _).mono ?_
  rintro e w2 ⟨rfl, hb⟩
  have B2 := Lib.hid (B1.out.later hb)
  clear hb B1
  obtain ⟨c0, c1, c2, hlt, hb1⟩ := B2.out
  go_wp2_with fail
  go_ret2
  exact ⟨rfl, hb1⟩
set_option maxRecDepth 100000 in
theorem implSet_no {W H Z P : Int} (hP : P ≤ 9223372036854775807) (h : posB W H Z P = false) (K : Int) (on : Bool) (w : World) : Calls Try.prog 15 #[.agg #[.int .i64 W, .int .i64 H, .int .i64 Z], .int .i64 P, .int .i64 K, .bool on] w (QP (P, false) w) := by
  have C1 := Lib.hid (implPos_is hP h)
  clear h hP
  go_enter Try.func15, Try.ntmps15
  go_wp2_with fail
  have B0 := Lib.hid (box_new W H Z w)
  generalize w.alloc (.cells #[.int .i64 W, .int .i64 H, .int .i64 Z] 25) = W1 at *
  refine (C1.out _).mono ?_
  rintro e w1 ⟨rfl, hb⟩
  have B1 := Lib.hid (B0.out.later hb)
  clear hb B0
  obtain ⟨c0, c1, c2, hlt, hb1⟩ := B1.out
  go_wp2_with fail
  go_ret2
  exact ⟨rfl, hb1⟩
set_option maxRecDepth 100000 in
theorem implSet_out {W H Z P K : Int} (hP : P ≤ 9223372036854775807) (h : posB W H Z P = true) (hk : holeB W H Z K = false) (on : Bool) (w : World) : Calls Try.prog 15 #[.agg #[.int .i64 W, .int .i64 H, .int .i64 Z], .int .i64 P, .int .i64 K, .bool on] w (QP (P, false) w) := by
  have C1 := Lib.hid (implPos_is hP h)
  have C2 := Lib.hid (implHole_is hk)
  clear h hP hk
  go_enter Try.func15, Try.ntmps15
  go_wp2_with fail
  have B0 := Lib.hid (box_new W H Z w)
  generalize w.alloc (.cells #[.int .i64 W, .int .i64 H, .int .i64 Z] 25) = W1 at *
  refine (C1.out _).mono ?_
  rintro e w1 ⟨rfl, hb⟩
  have B1 := Lib.hid (B0.out.later hb)
  clear hb B0
  obtain ⟨c0, c1, c2, hlt, hb1⟩ := B1.out
  go_wp2_with fail
  clear c0 c1 c2 hlt hb1
  refine (C2.out _).mono ?_
  rintro e w2 ⟨rfl, hb⟩
  have B2 := Lib.hid (B1.out.later hb)
  clear hb B1
  obtain ⟨c0, c1, c2, hlt, hb1⟩ := B2.out
  go_wp2_with fail
  go_ret2
  exact ⟨rfl, hb1⟩
set_option maxRecDepth 100000 in
theorem specSet_on {W H : Int} {N z p k : Nat} (ho : Ok W H N z) (h : Part p z) (hk : k < N) (hb : bit z k = true) (w : World) : Calls Try.prog 27 #[.agg #[.int .i64 W, .int .i64 H, .int .i64 z], .int .i64 p, .int .i64 k, .bool true] w (QP ((putB p k : Nat), true) w) := by
  have hp := h.big ho
  have C1 := Lib.hid (specPos_is (b := true) (P := p) (by omega) (pos_of ho h))
  have hN := ho.n49
  have C2 := Lib.hid (specHole_is (b := true) ((holeB_in ho hk).trans hb))
  have hk49 : k < 49 := by omega
  obtain ⟨q, hq, hqn, q1, q2⟩ := pow_nat k hk49
  have hand := or63 (a := p) (b := q) (by omega) (by omega)
  rw [show p ||| q = putB p k by rw [putB, hqn]] at hand
  have hu := (part_put h hb).big ho
  obtain ⟨u, hhu⟩ : ∃ u, putB p k = u := ⟨_, rfl⟩
  rw [hhu] at hand hu ⊢
  clear ho h hk hb hqn hhu
  go_enter Try.func27, Try.ntmps27
  go_wp2_with fail
  have B0 := Lib.hid (box_new W H z w)
  generalize w.alloc (.cells #[.int .i64 W, .int .i64 H, .int .i64 z] 25) = W1 at *
  refine (C1.out _).mono ?_
  rintro e w1 ⟨rfl, hb⟩
  have B1 := Lib.hid (B0.out.later hb)
  clear hb B0
  obtain ⟨c0, c1, c2, hlt, hb1⟩ := B1.out
  go_wp2_with fail
  clear c0 c1 c2 hlt hb1
  refine (C2.out _).mono ?_
  rintro e w2 ⟨rfl, hb⟩
  have B2 := Lib.hid (B1.out.later hb)
  clear hb B1
  obtain ⟨c0, c1, c2, hlt, hb1⟩ := B2.out
  go_wp2_with fail
  go_ret2
  exact ⟨rfl, hb1⟩
set_option maxRecDepth 100000 in
theorem implSet_on {W H : Int} {N z p k : Nat} (ho : Ok W H N z) (h : Part p z) (hk : k < N) (hb : bit z k = true) (w : World) : Calls Try.prog 15 #[.agg #[.int .i64 W, .int .i64 H, .int .i64 z], .int .i64 p, .int .i64 k, .bool true] w (QP ((putB p k : Nat), true) w) := by
  have hp := h.big ho
  have C1 := Lib.hid (implPos_is (b := true) (P := p) (by omega) (pos_of ho h))
  have hN := ho.n49
  have C2 := Lib.hid (implHole_is (b := true) ((holeB_in ho hk).trans hb))
  have hk49 : k < 49 := by omega
  obtain ⟨q, hq, hqn, q1, q2⟩ := pow_nat k hk49
  have hand := or63 (a := p) (b := q) (by omega) (by omega)
  rw [show p ||| q = putB p k by rw [putB, hqn]] at hand
  have hu := (part_put h hb).big ho
  obtain ⟨u, hhu⟩ : ∃ u, putB p k = u := ⟨_, rfl⟩
  rw [hhu] at hand hu ⊢
  clear ho h hk hb hqn hhu
  go_enter Try.func15, Try.ntmps15
  go_wp2_with fail
  have B0 := Lib.hid (box_new W H z w)
  generalize w.alloc (.cells #[.int .i64 W, .int .i64 H, .int .i64 z] 25) = W1 at *
  refine (C1.out _).mono ?_
  rintro e w1 ⟨rfl, hb⟩
  have B1 := Lib.hid (B0.out.later hb)
  clear hb B0
  obtain ⟨c0, c1, c2, hlt, hb1⟩ := B1.out
  go_wp2_with fail
  clear c0 c1 c2 hlt hb1
  refine (C2.out _).mono ?_
  rintro e w2 ⟨rfl, hb⟩
  have B2 := Lib.hid (B1.out.later hb)
  clear hb B1
  obtain ⟨c0, c1, c2, hlt, hb1⟩ := B2.out
  go_wp2_with fail
  go_ret2
  exact ⟨rfl, hb1⟩
set_option maxRecDepth 100000 in
theorem implSet_off {W H : Int} {N z p k : Nat} (ho : Ok W H N z) (h : Part p z) (hk : k < N) (hb : bit z k = true) (w : World) : Calls Try.prog 15 #[.agg #[.int .i64 W, .int .i64 H, .int .i64 z], .int .i64 p, .int .i64 k, .bool false] w (QP ((dropB p k : Nat), true) w) := by
  have hp := h.big ho
  have C1 := Lib.hid (implPos_is (b := true) (P := p) (by omega) (pos_of ho h))
  have hN := ho.n49
  have C2 := Lib.hid (implHole_is (b := true) ((holeB_in ho hk).trans hb))
  have hk49 : k < 49 := by omega
  obtain ⟨q, hq, hqn, q1, q2⟩ := pow_nat k hk49
  have hand := not63 (a := p) (b := q) (by omega) (by omega)
  rw [show p ^^^ (p &&& q) = dropB p k by rw [dropB, hqn]] at hand
  obtain ⟨r, hr⟩ : ∃ r, dropB p k = r := ⟨_, rfl⟩
  rw [hr] at hand ⊢
  clear ho h hk hb hqn hr
  go_enter Try.func15, Try.ntmps15
  go_wp2_with fail
  have B0 := Lib.hid (box_new W H z w)
  generalize w.alloc (.cells #[.int .i64 W, .int .i64 H, .int .i64 z] 25) = W1 at *
  refine (C1.out _).mono ?_
  rintro e w1 ⟨rfl, hb⟩
  have B1 := Lib.hid (B0.out.later hb)
  clear hb B0
  obtain ⟨c0, c1, c2, hlt, hb1⟩ := B1.out
  go_wp2_with fail
  clear c0 c1 c2 hlt hb1
  refine (C2.out _).mono ?_
  rintro e w2 ⟨rfl, hb⟩
  have B2 := Lib.hid (B1.out.later hb)
  clear hb B1
  obtain ⟨c0, c1, c2, hlt, hb1⟩ := B2.out
  go_wp2_with fail
  go_ret2
  exact ⟨rfl, hb1⟩
set_option maxRecDepth 100000 in
theorem specSet_off {W H : Int} {N z p k : Nat} (ho : Ok W H N z) (h : Part p z) (hk : k < N) (hb : bit z k = true) (w : World) : Calls Try.prog 27 #[.agg #[.int .i64 W, .int .i64 H, .int .i64 z], .int .i64 p, .int .i64 k, .bool false] w (QP ((dropB p k : Nat), true) w) := by
  have hp := h.big ho
  have C1 := Lib.hid (specPos_is (b := true) (P := p) (by omega) (pos_of ho h))
  have hN := ho.n49
  have C2 := Lib.hid (specHole_is (b := true) ((holeB_in ho hk).trans hb))
  have hk49 : k < 49 := by omega
  obtain ⟨q, hq, hqn, q1, q2⟩ := pow_nat k hk49
  have hand := or63 (a := p) (b := q) (by omega) (by omega)
  rw [show p ||| q = putB p k by rw [putB, hqn]] at hand
  have hu := (part_put h hb).big ho
  obtain ⟨u, hhu⟩ : ∃ u, putB p k = u := ⟨_, rfl⟩
  have hd := put_eq p k
  obtain ⟨r, hr⟩ : ∃ r, dropB p k = r := ⟨_, rfl⟩
  rw [hhu] at hand hu hd
  rw [hr] at hd ⊢
  rw [hqn] at hd
  have E : Hid ((u : Int) - (q : Int) = (r : Int)) := by unfold Hid; omega
  have E0 : (0 : Int) ≤ (u : Int) - (q : Int) := by omega
  clear ho h hk hb hqn hhu hd hr
  go_enter Try.func27, Try.ntmps27
  go_wp2_with fail
  have B0 := Lib.hid (box_new W H z w)
  generalize w.alloc (.cells #[.int .i64 W, .int .i64 H, .int .i64 z] 25) = W1 at *
  refine (C1.out _).mono ?_
  rintro e w1 ⟨rfl, hb⟩
  have B1 := Lib.hid (B0.out.later hb)
  clear hb B0
  obtain ⟨c0, c1, c2, hlt, hb1⟩ := B1.out
  go_wp2_with fail
  clear c0 c1 c2 hlt hb1
  refine (C2.out _).mono ?_
  rintro e w2 ⟨rfl, hb⟩
  have B2 := Lib.hid (B1.out.later hb)
  clear hb B1
  obtain ⟨c0, c1, c2, hlt, hb1⟩ := B2.out
  go_wp2_with fail
  go_ret2
  exact ⟨by simp only [E.out]; rfl, hb1⟩
theorem specSet (W H Z P K : Int) (on : Bool) (hP : P ≤ 9223372036854775807) (w : World) : Calls Try.prog 27 #[.agg #[.int .i64 W, .int .i64 H, .int .i64 Z], .int .i64 P, .int .i64 K, .bool on] w (QP (setB W H Z P K on) w) := by
  cases h : posB W H Z P
  · rw [show setB W H Z P K on = (P, false) by simp [setB, h]]; exact specSet_no hP h K on w
  · cases hk : holeB W H Z K
    · rw [show setB W H Z P K on = (P, false) by simp [setB, hk]]; exact specSet_out hP h hk on w
    · cases on
      · rw [show setB W H Z P K false = (((dropB P.toNat K.toNat : Nat) : Int), true) by simp [setB, h, hk]]
        obtain ⟨N, z, p, rfl, rfl, ho, hp⟩ := pos_yes h
        obtain ⟨k, rfl, hkn, hb⟩ := hole_yes ho hk
        exact specSet_off ho hp hkn hb w
      · rw [show setB W H Z P K true = (((putB P.toNat K.toNat : Nat) : Int), true) by simp [setB, h, hk]]
        obtain ⟨N, z, p, rfl, rfl, ho, hp⟩ := pos_yes h
        obtain ⟨k, rfl, hkn, hb⟩ := hole_yes ho hk
        exact specSet_on ho hp hkn hb w
theorem implSet (W H Z P K : Int) (on : Bool) (hP : P ≤ 9223372036854775807) (w : World) : Calls Try.prog 15 #[.agg #[.int .i64 W, .int .i64 H, .int .i64 Z], .int .i64 P, .int .i64 K, .bool on] w (QP (setB W H Z P K on) w) := by
  cases h : posB W H Z P
  · rw [show setB W H Z P K on = (P, false) by simp [setB, h]]; exact implSet_no hP h K on w
  · cases hk : holeB W H Z K
    · rw [show setB W H Z P K on = (P, false) by simp [setB, hk]]; exact implSet_out hP h hk on w
    · cases on
      · rw [show setB W H Z P K false = (((dropB P.toNat K.toNat : Nat) : Int), true) by simp [setB, h, hk]]
        obtain ⟨N, z, p, rfl, rfl, ho, hp⟩ := pos_yes h
        obtain ⟨k, rfl, hkn, hb⟩ := hole_yes ho hk
        exact implSet_off ho hp hkn hb w
      · rw [show setB W H Z P K true = (((putB P.toNat K.toNat : Nat) : Int), true) by simp [setB, h, hk]]
        obtain ⟨N, z, p, rfl, rfl, ho, hp⟩ := pos_yes h
        obtain ⟨k, rfl, hkn, hb⟩ := hole_yes ho hk
        exact implSet_on ho hp hkn hb w
end Go.Proofs.Ytdplgjjpgeoppaa
