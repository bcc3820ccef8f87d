/- Positions: PositionOk, CountPegs, HasPeg, SetPeg, FullBut, SinglePeg of the program and of the model give the same values (posB, countB, hasB, setB, butB, oneB), for every board, every position of 64 bits and every index. -/
import Derived.Test.YtdlpfpeblaapdaaHolesB
import Derived.Test.YtdlpfpeblaapdaaPegMath
namespace Go.Proofs.Ytdlpfpeblaapdaa
open Go.RowKit
def partB (p z : Nat) : Bool := p &&& z == p
theorem partB_iff {p z : Nat} : partB p z = true ↔ Part p z := by simp [partB, Part]
/-- Whether P is a position of the board. -/
def posB (W H Z P : Int) : Bool := okB W H Z && decide (0 ≤ P) && partB P.toNat Z.toNat
theorem posB_no {W H Z P : Int} (h : okB W H Z = false) : posB W H Z P = false := by simp [posB, h]
theorem posB_neg {W H Z P : Int} (h : P < 0) : posB W H Z P = false := by simp [posB, show ¬ 0 ≤ P by omega]
theorem posB_nat {W H : Int} {N z : Nat} (h : Ok W H N z) (p : Nat) : posB W H z p = partB p z := by simp [posB, h.ok]
theorem posCases (W H Z P : Int) : okB W H Z = false ∨ ∃ N z : Nat, Z = z ∧ Ok W H N z ∧ (P < 0 ∨ ∃ p : Nat, P = p) := by
  cases h : okB W H Z
  · exact .inl rfl
  · right
    obtain ⟨N, z, rfl, ho⟩ := ok_of h
    refine ⟨N, z, rfl, ho, ?_⟩
    rcases Int.lt_or_le P 0 with h0 | h0
    · exact .inl h0
    · exact .inr (Int.eq_ofNat_of_zero_le h0)
/-- What is told of a position that is valid. -/
theorem pos_yes {W H Z P : Int} (h : posB W H Z P = true) : ∃ N z p : Nat, Z = z ∧ P = p ∧ Ok W H N z ∧ Part p z := by
  rcases posCases W H Z P with h0 | ⟨N, z, rfl, ho, h0 | ⟨p, rfl⟩⟩
  · rw [posB_no h0] at h; cases h
  · rw [posB_neg h0] at h; cases h
  · rw [posB_nat ho] at h; exact ⟨N, z, p, rfl, rfl, ho, partB_iff.1 h⟩
theorem pos_of {W H : Int} {N z p : Nat} (h : Ok W H N z) (hp : Part p z) : posB W H z p = true := by rw [posB_nat h]; exact partB_iff.2 hp
theorem hole_yes {W H K : Int} {N z : Nat} (ho : Ok W H N z) (h : holeB W H z K = true) : ∃ k : Nat, K = k ∧ k < N ∧ bit z k = true := by
  rcases Int.lt_or_le K 0 with h0 | h0
  · rw [holeB_out ho (.inl h0)] at h; cases h
  · obtain ⟨k, rfl⟩ := Int.eq_ofNat_of_zero_le h0
    rcases Nat.lt_or_ge k N with h1 | h1
    · rw [holeB_in ho h1] at h; exact ⟨k, rfl, h1, h⟩
    · rw [holeB_out ho (.inr (by omega))] at h; cases h
theorem Ok.big {W H : Int} {N z : Nat} (h : Ok W H N z) : z < 9223372036854775808 := by have := h.zbig; omega
/-- A bool with the memory that was there left as it was. -/
def QB (b : Bool) (w : World) (e : Ending) (w' : World) : Prop := e = .returned (.bool b) ∧ Below w.heap.size w w'
def QI (n : Int) (w : World) (e : Ending) (w' : World) : Prop := e = .returned (.int .i64 n) ∧ Below w.heap.size w w'
theorem QB.of {a b : Bool} {w w' : World} (h : a = b) (hb : Below w.heap.size w w') : QB b w (.returned (.bool a)) w' := ⟨ret_bool h, hb⟩
theorem QI.of {a b : Int} {w w' : World} (h : a = b) (hb : Below w.heap.size w w') : QI b w (.returned (.int .i64 a)) w' := ⟨ret_int h, hb⟩
set_option maxRecDepth 100000 in
theorem specPos_no {W H Z : Int} (h : okB W H Z = false) (P : Int) (w : World) : Calls Try.prog 42 #[.agg #[.int .i64 W, .int .i64 H, .int .i64 Z], .int .i64 P] w (QB false w) := by
  have C1 := Lib.hid (specOk_no h)
  clear h
  go_enter Try.func42, Try.ntmps42
  go_wp2_with fail
  have B0 := Lib.hid (box_new W H Z w)
  generalize w.alloc (.cells #[.int .i64 W, .int .i64 H, .int .i64 Z] 25) = W1 at *
  refine (C1.out _).mono ?_
  rintro e w1 ⟨rfl, hb⟩
  have B1 := Lib.hid (B0.out.later hb)
  clear hb
  go_wp2_with fail
  go_ret
  exact ⟨rfl, B1.out.2.2.2.2⟩
set_option maxRecDepth 100000 in
theorem implPos_no {W H Z : Int} (h : okB W H Z = false) (P : Int) (w : World) : Calls Try.prog 55 #[.agg #[.int .i64 W, .int .i64 H, .int .i64 Z], .int .i64 P] w (QB false w) := by
  have C1 := Lib.hid (implOk_no h)
  clear h
  go_enter Try.func55, Try.ntmps55
  go_wp2_with fail
  have B0 := Lib.hid (box_new W H Z w)
  generalize w.alloc (.cells #[.int .i64 W, .int .i64 H, .int .i64 Z] 25) = W1 at *
  refine (C1.out _).mono ?_
  rintro e w1 ⟨rfl, hb⟩
  have B1 := Lib.hid (B0.out.later hb)
  clear hb
  go_wp2_with fail
  go_ret
  exact ⟨rfl, B1.out.2.2.2.2⟩
set_option maxRecDepth 100000 in
theorem specPos_neg {W H P : Int} {N z : Nat} (h : Ok W H N z) (hP : P < 0) (w : World) : Calls Try.prog 42 #[.agg #[.int .i64 W, .int .i64 H, .int .i64 z], .int .i64 P] w (QB false w) := by
  have C1 := Lib.hid (specOk_yes h)
  clear h
  have h0 : ¬ 0 ≤ P := by omega
  go_enter Try.func42, Try.ntmps42
  go_wp2_with fail
  have B0 := Lib.hid (box_new W H z w)
  generalize w.alloc (.cells #[.int .i64 W, .int .i64 H, .int .i64 z] 25) = W1 at *
  refine (C1.out _).mono ?_
  rintro e w1 ⟨rfl, hb⟩
  have B1 := Lib.hid (B0.out.later hb)
  clear hb
  go_wp2_with fail
  go_ret
  exact ⟨rfl, B1.out.2.2.2.2⟩
set_option maxRecDepth 100000 in
theorem implPos_neg {W H P : Int} {N z : Nat} (h : Ok W H N z) (hP : P < 0) (w : World) : Calls Try.prog 55 #[.agg #[.int .i64 W, .int .i64 H, .int .i64 z], .int .i64 P] w (QB false w) := by
  have C1 := Lib.hid (implOk_yes h)
  clear h
  have h0 : ¬ 0 ≤ P := by omega
  go_enter Try.func55, Try.ntmps55
  go_wp2_with fail
  have B0 := Lib.hid (box_new W H z w)
  generalize w.alloc (.cells #[.int .i64 W, .int .i64 H, .int .i64 z] 25) = W1 at *
  refine (C1.out _).mono ?_
  rintro e w1 ⟨rfl, hb⟩
  have B1 := Lib.hid (B0.out.later hb)
  clear hb
  go_wp2_with fail
  go_ret
  exact ⟨rfl, B1.out.2.2.2.2⟩
theorem and_part (p z : Nat) : (((p &&& z : Nat) : Int) == (p : Int)) = partB p z := by
  rw [Bool.eq_iff_iff]; simp [partB]; omega
theorem not_part (p z : Nat) : (((p ^^^ (p &&& z) : Nat) : Int) == 0) = partB p z := by
  rw [Bool.eq_iff_iff, partB_iff, ← not_zero]; simp
set_option maxRecDepth 100000 in
theorem specPos_nat {W H : Int} {N z : Nat} (h : Ok W H N z) (p : Nat) (hp : p < 9223372036854775808) (w : World) : Calls Try.prog 42 #[.agg #[.int .i64 W, .int .i64 H, .int .i64 z], .int .i64 p] w (QB (partB p z) w) := by
  have C1 := Lib.hid (specOk_yes h)
  have hand := and63 hp h.big
  have E := Lib.hid (and_part p z)
  have h0 : (0 : Int) ≤ (p : Int) := by omega
  generalize p &&& z = q at *
  clear h
  go_enter Try.func42, Try.ntmps42
  go_wp2_with fail
  have B0 := Lib.hid (box_new W H z w)
  generalize w.alloc (.cells #[.int .i64 W, .int .i64 H, .int .i64 z] 25) = W1 at *
  refine (C1.out _).mono ?_
  rintro e w1 ⟨rfl, hb⟩
  obtain ⟨c0, c1, c2, hlt, hb1⟩ := B0.out.later hb
  clear hb B0
  go_wp2_with fail
  go_ret
  exact QB.of E.out hb1
set_option maxRecDepth 100000 in
theorem implPos_nat {W H : Int} {N z : Nat} (h : Ok W H N z) (p : Nat) (hp : p < 9223372036854775808) (w : World) : Calls Try.prog 55 #[.agg #[.int .i64 W, .int .i64 H, .int .i64 z], .int .i64 p] w (QB (partB p z) w) := by
  have C1 := Lib.hid (implOk_yes h)
  have hand := not63 hp h.big
  have E := Lib.hid (not_part p z)
  have h0 : (0 : Int) ≤ (p : Int) := by omega
  generalize p ^^^ (p &&& z) = q at *
  clear h
  go_enter Try.func55, Try.ntmps55
  go_wp2_with fail
  have B0 := Lib.hid (box_new W H z w)
  generalize w.alloc (.cells #[.int .i64 W, .int .i64 H, .int .i64 z] 25) = W1 at *
  refine (C1.out _).mono ?_
  rintro e w1 ⟨rfl, hb⟩
  obtain ⟨c0, c1, c2, hlt, hb1⟩ := B0.out.later hb
  clear hb B0
  go_wp2_with fail
  go_ret
  exact QB.of E.out hb1
theorem specPos (W H Z P : Int) (hP : P ≤ 9223372036854775807) (w : World) : Calls Try.prog 42 #[.agg #[.int .i64 W, .int .i64 H, .int .i64 Z], .int .i64 P] w (QB (posB W H Z P) w) := by
  rcases posCases W H Z P with h | ⟨N, z, rfl, ho, h | ⟨p, rfl⟩⟩
  · rw [posB_no h]; exact specPos_no h P w
  · rw [posB_neg h]; exact specPos_neg ho h w
  · rw [posB_nat ho]; exact specPos_nat ho p (by omega) w
theorem implPos (W H Z P : Int) (hP : P ≤ 9223372036854775807) (w : World) : Calls Try.prog 55 #[.agg #[.int .i64 W, .int .i64 H, .int .i64 Z], .int .i64 P] w (QB (posB W H Z P) w) := by
  rcases posCases W H Z P with h | ⟨N, z, rfl, ho, h | ⟨p, rfl⟩⟩
  · rw [posB_no h]; exact implPos_no h P w
  · rw [posB_neg h]; exact implPos_neg ho h w
  · rw [posB_nat ho]; exact implPos_nat ho p (by omega) w
end Go.Proofs.Ytdlpfpeblaapdaa
