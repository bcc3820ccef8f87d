/- CountPegs, HasPeg, SetPeg, FullBut, SinglePeg of the program and of the model give the same values (countB, hasB, setB, butB, oneB), for every board, every position of 64 bits and every index. -/
import Derived.Test.YtdlpfpeblaapdaaPos
namespace Go.Proofs.Ytdlpfpeblaapdaa
open Go.RowKit
def countB (W H Z P : Int) : Int := if posB W H Z P = true then (pc 49 P.toNat : Nat) else -1
def hasB (W H Z P K : Int) : Bool := posB W H Z P && holeB W H Z K && bit P.toNat K.toNat
def setB (W H Z P K : Int) (on : Bool) : Int × Bool := if (posB W H Z P && holeB W H Z K) = true then ((if on = true then (putB P.toNat K.toNat : Nat) else (dropB P.toNat K.toNat : Nat)), true) else (P, false)
def butB (W H Z K : Int) : Int := if holeB W H Z K = true then (dropB Z.toNat K.toNat : Nat) else -1
def oneB (W H Z K : Int) : Int := if holeB W H Z K = true then 2 ^ K.toNat else -1
/-- The pair that SetPeg returns. -/
def QP (r : Int × Bool) (w : World) (e : Ending) (w' : World) : Prop := e = .returned (.tuple #[.int .i64 r.1, .bool r.2]) ∧ Below w.heap.size w w'
theorem specPos_is {b : Bool} {W H Z P : Int} (hP : P ≤ 9223372036854775807) (h : posB W H Z P = b) (w : World) : Calls Try.prog 42 #[.agg #[.int .i64 W, .int .i64 H, .int .i64 Z], .int .i64 P] w (QB b w) := by rw [← h]; exact specPos W H Z P hP w
theorem implPos_is {b : Bool} {W H Z P : Int} (hP : P ≤ 9223372036854775807) (h : posB W H Z P = b) (w : World) : Calls Try.prog 55 #[.agg #[.int .i64 W, .int .i64 H, .int .i64 Z], .int .i64 P] w (QB b w) := by rw [← h]; exact implPos W H Z P hP w
theorem implHole_is {b : Bool} {W H Z K : Int} (h : holeB W H Z K = b) (w : World) : Calls Try.prog 72 #[.agg #[.int .i64 W, .int .i64 H, .int .i64 Z], .int .i64 K] w (QB b w) := by rw [← h]; exact implHole W H Z K w
theorem hole_of {W H Z K : Int} (h : holeB W H Z K = true) : ∃ N z k : Nat, Z = z ∧ K = k ∧ Ok W H N z ∧ k < N ∧ bit z k = true := by
  cases h0 : okB W H Z
  · rw [holeB_no h0] at h; cases h
  · obtain ⟨N, z, rfl, ho⟩ := ok_of h0
    obtain ⟨k, rfl, hk, hb⟩ := hole_yes ho h
    exact ⟨N, z, k, rfl, rfl, ho, hk, hb⟩
theorem Part.big {W H : Int} {N z p : Nat} (ho : Ok W H N z) (h : Part p z) : p < 562949953421312 := Nat.lt_of_le_of_lt h.le ho.zbig
theorem pow_nat (k : Nat) (hk : k < 49) : ∃ q : Nat, (2 : Int) ^ k = q ∧ 2 ^ k = q ∧ 1 ≤ q ∧ q ≤ 562949953421312 := by
  have := pow_le49 (show k ≤ 49 by omega)
  exact ⟨2 ^ k, by simp, rfl, Nat.two_pow_pos k, by rw [pow_cast] at this; omega⟩

set_option maxRecDepth 100000 in
theorem specPegs_no {W H Z P : Int} (hP : P ≤ 9223372036854775807) (h : posB W H Z P = false) (w : World) : Calls Try.prog 16 #[.agg #[.int .i64 W, .int .i64 H, .int .i64 Z], .int .i64 P] w (QI (-1) w) := by
  have C1 := Lib.hid (specPos_is hP h)
  clear h hP
  go_enter Try.func16, Try.ntmps16
  go_wp2_with fail
  have B0 := Lib.hid (box_new W H Z w)
  generalize w.alloc (.cells #[.int .i64 W, .int .i64 H, .int .i64 Z] 25) = W1 at *
  refine (C1.out _).mono ?_
  rintro e w1 ⟨rfl, hb⟩
  have B1 := Lib.hid (B0.out.later hb)
  clear hb B0
  obtain ⟨c0, c1, c2, hlt, hb1⟩ := B1.out
  go_wp2_with fail
  go_ret
  exact ⟨rfl, hb1⟩
set_option maxRecDepth 100000 in
theorem specPegs_yes {W H : Int} {N z p : Nat} (ho : Ok W H N z) (h : Part p z) (w : World) : Calls Try.prog 16 #[.agg #[.int .i64 W, .int .i64 H, .int .i64 z], .int .i64 p] w (QI (pc 49 p : Nat) w) := by
  have hp := h.big ho
  have C1 := Lib.hid (specPos_is (b := true) (P := p) (by omega) (pos_of ho h))
  have C2 := Lib.hid (fun w => specList p w)
  have E := Lib.hid (bitsOf_length p 49)
  clear h ho
  go_enter Try.func16, Try.ntmps16
  go_wp2_with fail
  have B0 := Lib.hid (box_new W H z w)
  generalize w.alloc (.cells #[.int .i64 W, .int .i64 H, .int .i64 z] 25) = W1 at *
  refine (C1.out _).mono ?_
  rintro e w1 ⟨rfl, hb⟩
  have B1 := Lib.hid (B0.out.later hb)
  clear hb B0
  obtain ⟨c0, c1, c2, hlt, hb1⟩ := B1.out
  go_wp2_with fail
  refine (C2.out _).mono ?_
  rintro e w2 ⟨v, rfl, ho, hb2⟩
  obtain ⟨a, c, rfl⟩ : ∃ a c, v = .slice a (bitsOf 49 p).length c := by rcases Go.Joins.ownsRow_forms ho with ⟨rfl, h⟩ | ⟨g, cap, rfl⟩ <;> first | exact ⟨_, _, rfl⟩ | exact ⟨none, 0, by rw [h]⟩
  have B2 := Lib.hid (B1.out.later hb2)
  clear ho hb2 B1 c0 c1 c2 hlt hb1
  go_wp2_with fail
  go_ret
  exact QI.of (by rw [E.out]) B2.out.2.2.2.2
theorem specPegs (W H Z P : Int) (hP : P ≤ 9223372036854775807) (w : World) : Calls Try.prog 16 #[.agg #[.int .i64 W, .int .i64 H, .int .i64 Z], .int .i64 P] w (QI (countB W H Z P) w) := by
  cases h : posB W H Z P
  · rw [show countB W H Z P = -1 by simp [countB, h]]; exact specPegs_no hP h w
  · rw [show countB W H Z P = (pc 49 P.toNat : Nat) by simp [countB, h]]
    obtain ⟨N, z, p, rfl, rfl, ho, hp⟩ := pos_yes h
    exact specPegs_yes ho hp w
set_option maxRecDepth 100000 in
theorem isPeg (p k : Nat) (hk : k < 49) (w : World) : Calls Try.prog 74 #[.int .i64 p, .int .i64 k] w fun e w' => e = .returned (.bool (bit p k)) ∧ w = w' := by
  have hand := hand1
  have hb : Hid (∀ b, ((p : Int) / 2 ^ k % 2 == 1) = b → b = bit p k) := fun b h => by rw [← h, bit_int]
  go_enter Try.func74, Try.ntmps74
  go_wp2_with fail
  go_ret
  exact ⟨ret_bool (hb.out _ rfl), rfl⟩
end Go.Proofs.Ytdlpfpeblaapdaa
