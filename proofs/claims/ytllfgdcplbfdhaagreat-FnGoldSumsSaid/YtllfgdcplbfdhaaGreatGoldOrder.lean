/- The order of golden numbers by coordinates: a number of bounded parts is not below 0 just if its two coordinates at s^39 and s^40 are not below 0; sums of such numbers; of no program. -/
import Derived.Test.YtllfgdcplbfdhaaGreatGolds
namespace Go.Proofs.YtllfgdcplbfdhaaGreat
set_option linter.unusedVariables false
/-- x + y * s with no part below 0 is greater than 0. -/
theorem sg_parts {x y : Int} (hx : 0 ≤ x) (hy : 0 ≤ y) (h : x ≠ 0 ∨ y ≠ 0) : sg (2 * x - y) y = 1 := by
  have p : 0 ≤ x * y := Int.mul_nonneg hx hy
  have q : 0 ≤ y * y := sq_nn y
  have e1 : (2 * x - y) * (2 * x - y) = 4 * (x * x) - 4 * (x * y) + y * y := by
    rw [Int.sub_mul, Int.mul_sub, Int.mul_sub, Int.mul_assoc 2 x (2 * x), Int.mul_left_comm x 2 x, Int.mul_assoc 2 x y, Int.mul_left_comm y 2 x, Int.mul_comm y x]
    omega
  unfold sg
  split
  · next h1 =>
    rw [if_pos]
    rcases Int.lt_or_le y (2 * x) with h2 | h2
    · omega
    · exfalso
      have h3 : (y - 2 * x) * (y - 2 * x) ≤ y * y := Int.mul_le_mul (by omega) (by omega) (by omega) hy
      have h4 : (y - 2 * x) * (y - 2 * x) = (2 * x - y) * (2 * x - y) := by rw [show y - 2 * x = -(2 * x - y) by omega, Int.neg_mul_neg]
      omega
  · next h1 =>
    split
    · next h2 =>
      rw [if_pos]
      rcases Int.lt_or_le 0 y with h3 | h3
      · exact h3
      · exfalso
        have : y = 0 := by omega
        subst this
        have := sq_nn (2 * x - 0)
        omega
    · next h2 =>
      exfalso
      have h3 := root5 (n := 2 * x - y) (m := y) (by omega)
      omega
def dx (a b : Int) : Int := 102334155 * a + 63245986 * b
def dy (a b : Int) : Int := 63245986 * a + 39088169 * b
/- Identities (each by itself: with the equations in the context omega runs on for good). -/
theorem id1 (a b : Int) : a = 63245986 * (63245986 * a + 39088169 * b) - 39088169 * (102334155 * a + 63245986 * b) := by omega
theorem id2 (a b : Int) : b = 63245986 * (102334155 * a + 63245986 * b) - 102334155 * (63245986 * a + 39088169 * b) := by omega
theorem id3 (a b : Int) : 2 * (2 * a - b) = -141422324 * (2 * (102334155 * a + 63245986 * b) - (63245986 * a + 39088169 * b)) + 5 * (63245986 * (63245986 * a + 39088169 * b)) := by omega
theorem id4 (a b : Int) : 2 * b = -141422324 * (63245986 * a + 39088169 * b) + 63245986 * (2 * (102334155 * a + 63245986 * b) - (63245986 * a + 39088169 * b)) := by omega
theorem deep_pos {a b x y : Int} (ex : x = 102334155 * a + 63245986 * b) (ey : y = 63245986 * a + 39088169 * b) (hx : 0 ≤ x) (hy : 0 ≤ y) (h : x ≠ 0 ∨ y ≠ 0) : sg (2 * a - b) b = 1 := by
  have h1 := sg_parts hx hy h
  have e1 := id3 a b
  have e2 := id4 a b
  rw [← ex, ← ey] at e1 e2
  have h2 := sg_mul e1 e2
  rw [h2, h1]
  decide
theorem deep_zero {a b : Int} (h1 : 102334155 * a + 63245986 * b = 0) (h2 : 63245986 * a + 39088169 * b = 0) : a = 0 ∧ b = 0 := by
  have e1 := id1 a b
  have e2 := id2 a b
  rw [h1, h2] at e1 e2
  exact ⟨e1, e2⟩
/-- Not below 0, by coordinates. -/
def geB (a b : Int) : Prop := 0 ≤ dx a b ∧ 0 ≤ dy a b
theorem ge_sg {a b : Int} (h : geB a b) : 0 ≤ sg (2 * a - b) b := by
  by_cases h1 : dx a b = 0
  · by_cases h2 : dy a b = 0
    · obtain ⟨rfl, rfl⟩ := deep_zero h1 h2
      decide
    · rw [deep_pos rfl rfl h.1 h.2 (.inr h2)]; decide
  · rw [deep_pos rfl rfl h.1 h.2 (.inl h1)]; decide
theorem mixed {a x y : Int} (e1 : a = 63245986 * y - 39088169 * x) (ha : -10000000 ≤ a ∧ a ≤ 10000000) : ¬ (0 < x ∧ y < 0) ∧ ¬ (x < 0 ∧ 0 < y) := by omega
theorem neg_eq {a b x : Int} {p q : Int} (ex : x = p * a + q * b) : -x = p * -a + q * -b := by rw [ex, Int.mul_neg, Int.mul_neg]; omega
theorem deep_neg {a b x y : Int} (ex : x = 102334155 * a + 63245986 * b) (ey : y = 63245986 * a + 39088169 * b) (hx : x ≤ 0) (hy : y ≤ 0) (h : x ≠ 0 ∨ y ≠ 0) : sg (2 * a - b) b = -1 := by
  have h3 := deep_pos (neg_eq ex) (neg_eq ey) (by clear ex ey; omega) (by clear ex ey; omega) (by clear ex ey; omega)
  have h4 := sg_neg (2 * a - b) b
  rw [show -(2 * a - b) = 2 * -a - -b by clear ex ey; omega, h3] at h4
  clear ex ey h3
  omega
/-- Of bounded parts. -/
theorem sg_ge {a b : Int} (ha : -10000000 ≤ a ∧ a ≤ 10000000) (h : 0 ≤ sg (2 * a - b) b) : geB a b := by
  obtain ⟨x, ex⟩ : ∃ x, x = 102334155 * a + 63245986 * b := ⟨_, rfl⟩
  obtain ⟨y, ey⟩ : ∃ y, y = 63245986 * a + 39088169 * b := ⟨_, rfl⟩
  have e1 := id1 a b
  rw [← ex, ← ey] at e1
  obtain ⟨m1, m2⟩ := mixed e1 ha
  clear e1
  have n := fun hx hy hh => deep_neg ex ey hx hy hh
  have key : 0 ≤ x ∧ 0 ≤ y := by
    clear ex ey
    generalize sg (2 * a - b) b = k at *
    by_cases hx : 0 ≤ x <;> by_cases hy : 0 ≤ y
    · exact ⟨hx, hy⟩
    · have := n (by omega) (by omega) (.inr (by omega)); omega
    · have := n (by omega) (by omega) (.inl (by omega)); omega
    · have := n (by omega) (by omega) (.inl (by omega)); omega
  rw [ex, ey] at key
  exact key
theorem ge_iff {a b : Int} (ha : -10000000 ≤ a ∧ a ≤ 10000000) : 0 ≤ sg (2 * a - b) b ↔ geB a b := ⟨sg_ge ha, ge_sg⟩
theorem dx_add (a b c d : Int) : dx (a + c) (b + d) = dx a b + dx c d ∧ dy (a + c) (b + d) = dy a b + dy c d := by
  unfold dx dy; omega
theorem geB.add {a b c d : Int} (h : geB a b) (k : geB c d) : geB (a + c) (b + d) := by
  obtain ⟨e1, e2⟩ := dx_add a b c d
  unfold geB at *
  rw [e1, e2]
  generalize dx a b = p at *
  generalize dy a b = q at *
  generalize dx c d = r at *
  generalize dy c d = s at *
  omega
theorem ge_zero : geB 0 0 := ⟨by decide, by decide⟩
/-- Two numbers compared. -/
theorem cmp_ge {a b c d : Int} (h1 : goldB a b = true) (h2 : goldB c d = true) : 0 ≤ cmpG a b c d ↔ geB (a - c) (b - d) := by
  obtain ⟨⟨p1, p2⟩, p3, p4⟩ := gold_yes h1
  obtain ⟨⟨q1, q2⟩, q3, q4⟩ := gold_yes h2
  unfold cmpG
  rw [h1, h2]
  exact ge_iff (by omega)
theorem cmp_le {a b c d : Int} (h1 : goldB a b = true) (h2 : goldB c d = true) : cmpG a b c d ≤ 0 ↔ geB (c - a) (d - b) := by
  rw [← cmp_ge h2 h1, cmpG_neg a b c d (by rw [h1, h2]; rfl)]
  generalize cmpG c d a b = k
  omega
theorem sign_ge {a b : Int} (h1 : goldB a b = true) : 0 ≤ signG a b ↔ geB a b := by
  obtain ⟨⟨p1, p2⟩, -⟩ := gold_yes h1
  unfold signG
  rw [if_pos h1]
  exact ge_iff (by omega)
end Go.Proofs.YtllfgdcplbfdhaaGreat
