/- Golden numbers as mathematics: ranges, sums, products, the sign of n + m times the square root of 5, powers; of no program. Golden numbers of the program: GoldOk, AddGold, TimesGold, SignOf, CompareGold and what they call, for every two ints. Golden numbers of the program: SignOf, CompareGold, PowerOf and what they call, for every int. Golden numbers of the model: GoldOk, AddGold, TimesGold, SignOf, CompareGold, PowerOf, for every int; the laws' helpers for golden numbers. Golden numbers of the model: SignOf, CompareGold, PowerOf, for every int; the laws' helpers for golden numbers. What FnGolden needs of golden numbers: sums, products, signs of numbers that are at most 6765 in their parts; of no program. -/
import Derived.Test.YtllfgdcplbfdhaaGreatBoards
import Derived.IntWalk
namespace Go.Proofs.YtllfgdcplbfdhaaGreat
set_option linter.unusedVariables false
def gpB (n : Int) : Bool := decide (-1000000 ≤ n) && decide (n ≤ 1000000)
def goldB (a b : Int) : Bool := gpB a && gpB b
theorem gp_yes {n : Int} (h : gpB n = true) : -1000000 ≤ n ∧ n ≤ 1000000 := by simpa [gpB] using h
theorem gp_of {n : Int} (h0 : -1000000 ≤ n) (h1 : n ≤ 1000000) : gpB n = true := by simp [gpB, h0, h1]
theorem gold_yes {a b : Int} (h : goldB a b = true) : (-1000000 ≤ a ∧ a ≤ 1000000) ∧ -1000000 ≤ b ∧ b ≤ 1000000 := by
  rw [goldB, Bool.and_eq_true] at h
  exact ⟨gp_yes h.1, gp_yes h.2⟩
theorem gold_of {a b : Int} (h : (-1000000 ≤ a ∧ a ≤ 1000000) ∧ -1000000 ≤ b ∧ b ≤ 1000000) : goldB a b = true := by
  rw [goldB, gp_of h.1.1 h.1.2, gp_of h.2.1 h.2.2]; rfl
/-- A golden number where it is in its range, else the zero one. -/
def okG (x y : Int) : (Int × Int) × Bool := if goldB x y = true then ((x, y), true) else ((0, 0), false)
def addG (a b c d : Int) : (Int × Int) × Bool := if (goldB a b && goldB c d) = true then okG (a + c) (b + d) else ((0, 0), false)
def mulG (a b c d : Int) : (Int × Int) × Bool := if (goldB a b && goldB c d) = true then okG (a * c + b * d) (a * d + b * c - b * d) else ((0, 0), false)
/-- The product of two numbers of bounded magnitude. -/
theorem mul_bnd {a b M N : Int} (ha : -M ≤ a ∧ a ≤ M) (hb : -N ≤ b ∧ b ≤ N) (hM : 0 ≤ M) : -(M * N) ≤ a * b ∧ a * b ≤ M * N := by
  have hN : 0 ≤ N := by omega
  have key : ∀ x y : Int, 0 ≤ x → x ≤ M → 0 ≤ y → y ≤ N → 0 ≤ x * y ∧ x * y ≤ M * N := fun x y h0 h1 h2 h3 =>
    ⟨Int.mul_nonneg h0 h2, Int.mul_le_mul h1 h3 h2 hM⟩
  rcases Int.le_total 0 a with h | h <;> rcases Int.le_total 0 b with h' | h'
  · have := key a b h ha.2 h' hb.2; omega
  · have := key a (-b) h ha.2 (by omega) (by omega); rw [Int.mul_neg] at this; omega
  · have := key (-a) b (by omega) (by omega) h' hb.2; rw [Int.neg_mul] at this; omega
  · have := key (-a) (-b) (by omega) (by omega) (by omega) (by omega); rw [Int.neg_mul_neg] at this; omega
theorem mul6 {a b : Int} (ha : -1000000 ≤ a ∧ a ≤ 1000000) (hb : -1000000 ≤ b ∧ b ≤ 1000000) : -1000000000000 ≤ a * b ∧ a * b ≤ 1000000000000 := mul_bnd ha hb (by decide)
/- The sign of n + m times the square root of 5. -/
theorem sqz_pos {n : Int} (h : n ≠ 0) : 0 < n * n := by
  rcases Int.lt_or_gt_of_ne h with h | h
  · have := Int.mul_pos_of_neg_of_neg h h; exact this
  · exact Int.mul_pos h h
theorem sq_nn (n : Int) : 0 ≤ n * n := by
  by_cases h : n = 0
  · subst h; decide
  · exact Int.le_of_lt (sqz_pos h)
theorem root5_nat : ∀ (k n m : Nat), n ≤ k → n * n = 5 * (m * m) → n = 0
  | 0, n, m, h, _ => by omega
  | k + 1, n, m, h, e => by
    have h5 : n % 5 = 0 := by
      have e1 : n * n % 5 = 0 := by rw [e]; exact Nat.mul_mod_right 5 _
      rw [Nat.mul_mod] at e1
      have : n % 5 < 5 := Nat.mod_lt _ (by decide)
      generalize n % 5 = r at *
      match r, this with
      | 0, _ => rfl
      | 1, _ | 2, _ | 3, _ | 4, _ => simp at e1
    obtain ⟨i, rfl⟩ : ∃ i, n = 5 * i := ⟨n / 5, by omega⟩
    have e2 : m * m = 5 * (i * i) := by
      have : 5 * i * (5 * i) = 5 * (5 * (i * i)) := by rw [Nat.mul_assoc, Nat.mul_left_comm i 5 i]
      omega
    have m5 : m % 5 = 0 := by
      have e1 : m * m % 5 = 0 := by rw [e2]; exact Nat.mul_mod_right 5 _
      rw [Nat.mul_mod] at e1
      have : m % 5 < 5 := Nat.mod_lt _ (by decide)
      generalize m % 5 = r at *
      match r, this with
      | 0, _ => rfl
      | 1, _ | 2, _ | 3, _ | 4, _ => simp at e1
    obtain ⟨j, rfl⟩ : ∃ j, m = 5 * j := ⟨m / 5, by omega⟩
    have e3 : i * i = 5 * (j * j) := by
      have : 5 * j * (5 * j) = 5 * (5 * (j * j)) := by rw [Nat.mul_assoc, Nat.mul_left_comm j 5 j]
      omega
    rcases Nat.eq_zero_or_pos i with h0 | h0
    · omega
    · have := root5_nat k i j (by omega) e3
      omega
theorem root5 {n m : Int} (h : n * n = 5 * (m * m)) : n = 0 ∧ m = 0 := by
  have e : n.natAbs * n.natAbs = 5 * (m.natAbs * m.natAbs) := by
    have h1 := Int.natAbs_mul_self (a := n)
    have h2 := Int.natAbs_mul_self (a := m)
    omega
  have h0 := root5_nat _ _ _ (Nat.le_refl _) e
  have hn : n = 0 := Int.natAbs_eq_zero.1 h0
  subst hn
  refine ⟨rfl, ?_⟩
  by_cases hm : m = 0
  · exact hm
  · have := sqz_pos hm; omega
/-- The sign of n + m times the square root of 5. -/
def sg (n m : Int) : Int :=
  if 5 * (m * m) < n * n then (if 0 < n then 1 else -1) else if n * n < 5 * (m * m) then (if 0 < m then 1 else -1) else 0
def signG (a b : Int) : Int := if goldB a b = true then sg (2 * a - b) b else -2
def cmpG (a b c d : Int) : Int := if (goldB a b && goldB c d) = true then sg (2 * (a - c) - (b - d)) (b - d) else -2
def ssq (n : Int) : Int := if n < 0 then -(n * n) else n * n
def cmpI (n m : Int) : Int := if n < m then -1 else if m < n then 1 else 0
theorem cmp_sg (n m : Int) : cmpI (ssq n) (-5 * ssq m) = sg n m := by
  have pn := fun h : n ≠ 0 => sqz_pos h
  have pm := fun h : m ≠ 0 => sqz_pos h
  have qn := sq_nn n
  have qm := sq_nn m
  have hr := fun h => root5 (n := n) (m := m) h
  have zn : n = 0 → n * n = 0 := by rintro rfl; rfl
  have zm : m = 0 → m * m = 0 := by rintro rfl; rfl
  unfold cmpI ssq sg
  generalize n * n = N at *
  generalize m * m = M at *
  by_cases h0 : N = 5 * M
  · obtain ⟨rfl, rfl⟩ := hr h0
    have := zn rfl; have := zm rfl
    subst this; simp; omega
  · by_cases h1 : n < 0 <;> by_cases h2 : m < 0 <;> simp only [h1, h2, if_true, if_false] <;> (repeat' split) <;> omega
theorem sg_zero {n m : Int} : sg n m = 0 ↔ n = 0 ∧ m = 0 := by
  constructor
  · intro h
    refine root5 ?_
    unfold sg at h
    revert h
    (repeat' split) <;> intro h <;> omega
  · rintro ⟨rfl, rfl⟩; rfl
theorem sg_neg (n m : Int) : sg (-n) (-m) = - sg n m := by
  have hr := fun h => root5 (n := n) (m := m) h
  have zn : n = 0 → n * n = 0 := by rintro rfl; rfl
  have zm : m = 0 → m * m = 0 := by rintro rfl; rfl
  have qn := sq_nn n
  have qm := sq_nn m
  unfold sg
  rw [Int.neg_mul_neg, Int.neg_mul_neg]
  generalize n * n = N at *
  generalize m * m = M at *
  (repeat' split) <;> omega
/-- The model's way to the sign. -/
def sgM (n m : Int) : Int :=
  if 0 ≤ n ∧ 0 ≤ m then (if 0 < n ∨ 0 < m then 1 else 0) else if n ≤ 0 ∧ m ≤ 0 then -1 else if 0 < n then (if 5 * m * m < n * n then 1 else -1) else (if n * n < 5 * m * m then 1 else -1)
theorem sgM_sg (n m : Int) : sgM n m = sg n m := by
  have pn := fun h : n ≠ 0 => sqz_pos h
  have pm := fun h : m ≠ 0 => sqz_pos h
  have qn := sq_nn n
  have qm := sq_nn m
  have hr := fun h => root5 (n := n) (m := m) h
  have zn : n = 0 → n * n = 0 := by rintro rfl; rfl
  have zm : m = 0 → m * m = 0 := by rintro rfl; rfl
  unfold sgM sg
  rw [Int.mul_assoc 5 m m]
  generalize n * n = N at *
  generalize m * m = M at *
  (repeat' split) <;> omega
/- The sign of a product. -/
theorem sq_dom {x y : Int} (h : y * y < x * x) : (0 < x → 0 < x + y) ∧ (x < 0 → x + y < 0) := by
  constructor
  · intro hx
    refine Int.not_le.1 fun h' => ?_
    have : x * x ≤ -y * -y := Int.mul_le_mul (by omega) (by omega) (by omega) (by omega)
    rw [Int.neg_mul_neg] at this
    omega
  · intro hx
    refine Int.not_le.1 fun h' => ?_
    have : -x * -x ≤ y * y := Int.mul_le_mul (by omega) (by omega) (by omega) (by omega)
    rw [Int.neg_mul_neg] at this
    omega
theorem sg_big {n m : Int} (h : 5 * (m * m) < n * n) : sg n m = if 0 < n then 1 else -1 := by rw [sg, if_pos h]
theorem sg_small {n m : Int} (h : n * n < 5 * (m * m)) : sg n m = if 0 < m then 1 else -1 := by rw [sg, if_neg (by omega), if_pos h]
theorem ne_of_sq {n : Int} {k : Int} (h : k < n * n) (hk : 0 ≤ k) : n ≠ 0 := by rintro rfl; omega
/-- What the products of two signs are, by halves. -/
theorem sgn_mul {x y z : Int} (hx : x ≠ 0) (hy : y ≠ 0) (hz : (0 < x * y → 0 < z) ∧ (x * y < 0 → z < 0)) : (if 0 < z then (1 : Int) else -1) = (if 0 < x then 1 else -1) * (if 0 < y then 1 else -1) := by
  rcases Int.lt_or_gt_of_ne hx with h1 | h1 <;> rcases Int.lt_or_gt_of_ne hy with h2 | h2
  · have := hz.1 (Int.mul_pos_of_neg_of_neg h1 h2)
    rw [if_pos this, if_neg (by omega), if_neg (by omega)]; rfl
  · have := hz.2 (Int.mul_neg_of_neg_of_pos h1 h2)
    rw [if_neg (by omega), if_neg (by omega), if_pos h2]; rfl
  · have := hz.2 (Int.mul_neg_of_pos_of_neg h1 h2)
    rw [if_neg (by omega), if_pos h1, if_neg (by omega)]; rfl
  · have := hz.1 (Int.mul_pos h1 h2)
    rw [if_pos this, if_pos h1, if_pos h2]; rfl
theorem sq_mul (x y : Int) : x * y * (x * y) = x * x * (y * y) := by
  rw [Int.mul_assoc, Int.mul_left_comm y x y, ← Int.mul_assoc]
theorem lt_mul {a b c d : Int} (h1 : a < b) (h2 : c < d) (ha : 0 ≤ a) (hc : 0 ≤ c) : a * c < b * d := by
  have s1 : a * c ≤ b * c := Int.mul_le_mul_of_nonneg_right (by omega) hc
  have s2 : b * c < b * d := Int.mul_lt_mul_of_pos_left h2 (by omega)
  omega
/-- The product of n1 + m1 r and n2 + m2 r is twice n3 + m3 r: r is the square root of 5. -/
theorem sg_mul {n1 m1 n2 m2 n3 m3 : Int} (hn : 2 * n3 = n1 * n2 + 5 * (m1 * m2)) (hm : 2 * m3 = n1 * m2 + m1 * n2) : sg n3 m3 = sg n1 m1 * sg n2 m2 := by
  have norm : 4 * (n3 * n3 - 5 * (m3 * m3)) = (n1 * n1 - 5 * (m1 * m1)) * (n2 * n2 - 5 * (m2 * m2)) := by
    have e1 : 2 * n3 * (2 * n3) = (n1 * n2 + 5 * (m1 * m2)) * (n1 * n2 + 5 * (m1 * m2)) := by rw [hn]
    have e2 : 2 * m3 * (2 * m3) = (n1 * m2 + m1 * n2) * (n1 * m2 + m1 * n2) := by rw [hm]
    have e3 : 4 * (n3 * n3 - 5 * (m3 * m3)) = 2 * n3 * (2 * n3) - 5 * (2 * m3 * (2 * m3)) := by
      rw [Int.mul_assoc 2 n3, Int.mul_left_comm n3 2 n3, Int.mul_assoc 2 m3, Int.mul_left_comm m3 2 m3]; omega
    rw [e3, e1, e2]
    simp only [Int.add_mul, Int.mul_add, Int.sub_mul, Int.mul_sub]
    have a1 : n1 * n2 * (n1 * n2) = n1 * n1 * (n2 * n2) := sq_mul n1 n2
    have a2 : m1 * m2 * (m1 * m2) = m1 * m1 * (m2 * m2) := sq_mul m1 m2
    have a3 : n1 * m2 * (n1 * m2) = n1 * n1 * (m2 * m2) := sq_mul n1 m2
    have a4 : m1 * n2 * (m1 * n2) = m1 * m1 * (n2 * n2) := sq_mul m1 n2
    have a5 : n1 * n2 * (5 * (m1 * m2)) = 5 * (n1 * n2 * (m1 * m2)) := Int.mul_left_comm _ _ _
    have a6 : 5 * (m1 * m2) * (n1 * n2) = 5 * (n1 * n2 * (m1 * m2)) := by rw [Int.mul_assoc, Int.mul_comm (m1 * m2)]
    have a7 : 5 * (m1 * m2) * (5 * (m1 * m2)) = 25 * (m1 * m1 * (m2 * m2)) := by rw [Int.mul_assoc, Int.mul_left_comm (m1 * m2) 5, a2, ← Int.mul_assoc 5 5]; rfl
    have a8 : n1 * m2 * (m1 * n2) = n1 * n2 * (m1 * m2) := by
      rw [Int.mul_assoc n1 m2, Int.mul_left_comm m2 m1 n2, Int.mul_comm m2 n2, Int.mul_left_comm m1 n2 m2, ← Int.mul_assoc n1 n2]
    have a9 : m1 * n2 * (n1 * m2) = n1 * n2 * (m1 * m2) := by rw [Int.mul_comm (m1 * n2), a8]
    have b1 : n1 * n1 * (5 * (m2 * m2)) = 5 * (n1 * n1 * (m2 * m2)) := Int.mul_left_comm _ _ _
    have b2 : 5 * (m1 * m1) * (n2 * n2) = 5 * (m1 * m1 * (n2 * n2)) := Int.mul_assoc _ _ _
    have b3 : 5 * (m1 * m1) * (5 * (m2 * m2)) = 25 * (m1 * m1 * (m2 * m2)) := by rw [Int.mul_assoc, Int.mul_left_comm (m1 * m1) 5, ← Int.mul_assoc 5 5]; rfl
    rw [a1, a3, a4, a5, a6, a7, a8, a9, b1, b2, b3]
    omega
  have q1 := sq_nn n1; have q2 := sq_nn n2; have p1 := sq_nn m1; have p2 := sq_nn m2
  by_cases z1 : n1 * n1 = 5 * (m1 * m1)
  · obtain ⟨rfl, rfl⟩ := root5 z1
    have : n3 = 0 := by simp at hn; omega
    have : m3 = 0 := by simp at hm; omega
    subst_vars; simp [sg]
  by_cases z2 : n2 * n2 = 5 * (m2 * m2)
  · obtain ⟨rfl, rfl⟩ := root5 z2
    have : n3 = 0 := by simp at hn; omega
    have : m3 = 0 := by simp at hm; omega
    subst_vars; simp [sg]
  have c1 : n1 * n2 * (n1 * n2) = n1 * n1 * (n2 * n2) := sq_mul n1 n2
  have c2 : 5 * (m1 * m2) * (5 * (m1 * m2)) = 5 * (m1 * m1) * (5 * (m2 * m2)) := by
    rw [Int.mul_assoc, Int.mul_left_comm (m1 * m2) 5, sq_mul, Int.mul_assoc 5 (m1 * m1), Int.mul_left_comm (m1 * m1) 5]
  have c3 : n1 * m2 * (n1 * m2) = n1 * n1 * (m2 * m2) := sq_mul n1 m2
  have c4 : m1 * n2 * (m1 * n2) = m1 * m1 * (n2 * n2) := sq_mul m1 n2
  rcases Int.lt_or_gt_of_ne z1 with k1 | k1 <;> rcases Int.lt_or_gt_of_ne z2 with k2 | k2
  · have hk : 0 < (n1 * n1 - 5 * (m1 * m1)) * (n2 * n2 - 5 * (m2 * m2)) := Int.mul_pos_of_neg_of_neg (by omega) (by omega)
    rw [sg_big (n := n3) (by omega), sg_small k1, sg_small k2]
    have d : n1 * n2 * (n1 * n2) < 5 * (m1 * m2) * (5 * (m1 * m2)) := by rw [c1, c2]; exact lt_mul k1 k2 q1 q2
    have := sq_dom d
    exact sgn_mul (by rintro rfl; omega) (by rintro rfl; omega) ⟨fun h => by have := this.1 (by omega); omega, fun h => by have := this.2 (by omega); omega⟩
  · have hk : (n1 * n1 - 5 * (m1 * m1)) * (n2 * n2 - 5 * (m2 * m2)) < 0 := Int.mul_neg_of_neg_of_pos (by omega) (by omega)
    rw [sg_small (n := n3) (by omega), sg_small k1, sg_big k2]
    have d : n1 * m2 * (n1 * m2) < m1 * n2 * (m1 * n2) := by
      rw [c3, c4]
      have := lt_mul k1 k2 q1 (by omega)
      have e : n1 * n1 * (5 * (m2 * m2)) = 5 * (n1 * n1 * (m2 * m2)) := Int.mul_left_comm _ _ _
      have e' : 5 * (m1 * m1) * (n2 * n2) = 5 * (m1 * m1 * (n2 * n2)) := Int.mul_assoc _ _ _
      omega
    have := sq_dom d
    exact sgn_mul (by rintro rfl; omega) (by rintro rfl; omega) ⟨fun h => by have := this.1 h; omega, fun h => by have := this.2 h; omega⟩
  · have hk : (n1 * n1 - 5 * (m1 * m1)) * (n2 * n2 - 5 * (m2 * m2)) < 0 := Int.mul_neg_of_pos_of_neg (by omega) (by omega)
    rw [sg_small (n := n3) (by omega), sg_big k1, sg_small k2]
    have d : m1 * n2 * (m1 * n2) < n1 * m2 * (n1 * m2) := by
      rw [c3, c4]
      have := lt_mul k1 k2 (by omega) q2
      have e : n1 * n1 * (5 * (m2 * m2)) = 5 * (n1 * n1 * (m2 * m2)) := Int.mul_left_comm _ _ _
      have e' : 5 * (m1 * m1) * (n2 * n2) = 5 * (m1 * m1 * (n2 * n2)) := Int.mul_assoc _ _ _
      omega
    have := sq_dom d
    exact sgn_mul (by rintro rfl; omega) (by rintro rfl; omega) ⟨fun h => by have := this.1 h; omega, fun h => by have := this.2 h; omega⟩
  · have hk : 0 < (n1 * n1 - 5 * (m1 * m1)) * (n2 * n2 - 5 * (m2 * m2)) := Int.mul_pos (by omega) (by omega)
    rw [sg_big (n := n3) (by omega), sg_big k1, sg_big k2]
    have d : 5 * (m1 * m2) * (5 * (m1 * m2)) < n1 * n2 * (n1 * n2) := by rw [c1, c2]; exact lt_mul k1 k2 (by omega) (by omega)
    have := sq_dom d
    exact sgn_mul (by rintro rfl; omega) (by rintro rfl; omega) ⟨fun h => by have := this.1 h; omega, fun h => by have := this.2 h; omega⟩
theorem signs_mul (a b c d : Int) : sg (2 * (a * c + b * d) - (a * d + b * c - b * d)) (a * d + b * c - b * d) = sg (2 * a - b) b * sg (2 * c - d) d := by
  refine sg_mul ?_ ?_
  · simp only [Int.sub_mul, Int.mul_sub, Int.mul_assoc]
    rw [Int.mul_left_comm a 2 c, Int.mul_left_comm b 2 c]
    omega
  · simp only [Int.sub_mul, Int.mul_sub, Int.mul_assoc]
    rw [Int.mul_left_comm b 2 c]
    omega
/-- The powers of s. -/
def pw : Nat → Int × Int
  | 0 => (1, 0)
  | k + 1 => ((pw k).2, (pw k).1 - (pw k).2)
def powG (n : Int) : Int × Int := if 0 ≤ n ∧ n ≤ 20 then pw n.toNat else (0, 0)
theorem pw_bnd : ∀ k : Fin 21, (-6765 ≤ (pw k.val).1 ∧ (pw k.val).1 ≤ 6765) ∧ -6765 ≤ (pw k.val).2 ∧ (pw k.val).2 ≤ 6765 := by decide +kernel
theorem pw_next : ∀ k : Fin 19, addG (pw (k.val + 1)).1 (pw (k.val + 1)).2 (pw (k.val + 2)).1 (pw (k.val + 2)).2 = ((pw k.val), true) ∧ signG (pw k.val).1 (pw k.val).2 = 1 ∧ cmpG (pw (k.val + 1)).1 (pw (k.val + 1)).2 (pw k.val).1 (pw k.val).2 = -1 := by decide +kernel
theorem mulG_comm (a b c d : Int) : mulG a b c d = mulG c d a b := by
  unfold mulG
  rw [Bool.and_comm, Int.mul_comm a c, Int.mul_comm b d, Int.mul_comm a d, Int.mul_comm b c, Int.add_comm (d * a)]
theorem cmpG_neg (a b c d : Int) (h : (goldB a b && goldB c d) = true) : cmpG a b c d = - cmpG c d a b := by
  have h' : (goldB c d && goldB a b) = true := by rw [Bool.and_comm]; exact h
  unfold cmpG
  rw [if_pos h, if_pos h', ← sg_neg]
  congr 1 <;> omega
theorem cmpG_zero (a b c d : Int) (h : (goldB a b && goldB c d) = true) : cmpG a b c d = 0 ↔ a = c ∧ b = d := by
  unfold cmpG
  rw [if_pos h, sg_zero]
  omega
end Go.Proofs.YtllfgdcplbfdhaaGreat

namespace Go.Proofs.YtllfgdcplbfdhaaGreat
open Go.RowKit
set_option linter.unusedVariables false
set_option linter.unusedSimpArgs false
/-- A block of two ints in new memory. -/
def Bg (T : TypeId) (b : Nat) (x y : Int) (w : World) : Prop := w.heap[b]? = some (.cells #[.int .i64 x, .int .i64 y] T (0, 0))
theorem two_facts {w : World} {b : Nat} {x y : Value} {t : TypeId} (h : w.heap[b]? = some (.cells #[x, y] t (0, 0))) :
    w.cell? ⟨b, 0, none⟩ = some x ∧ w.cell? ⟨b, 1, none⟩ = some y ∧ w.frozen? ⟨b, 0, none⟩ = false ∧ w.frozen? ⟨b, 1, none⟩ = false := by
  refine ⟨?_, ?_, frozen_of_row w b 0 _ _ h, frozen_of_row w b 1 _ _ h⟩
  all_goals (rw [cell_of_row w b _ _ _ _ h]; rfl)
theorem Bg.later {T : TypeId} {b : Nat} {x y : Int} {w w' : World} (h : Bg T b x y w) (hb : Below w.heap.size w w') : Bg T b x y w' := closed_row b _ w w' h hb
theorem below_res (w : World) (o1 o2 o3 : Obj) : Below w.heap.size w (((w.alloc o1).alloc o2).alloc o3) :=
  (((Below.refl _ _).alloc (Nat.le_refl _) _).alloc (by simp) _).alloc (by simp; omega) _
def GQ (a b : Int) (w : World) (e : Ending) (w' : World) : Prop := e = .returned (.agg #[.int .i64 a, .int .i64 b]) ∧ Below w.heap.size w w'
def GB (b : Bool) (w : World) (e : Ending) (w' : World) : Prop := e = .returned (.bool b) ∧ Below w.heap.size w w'
def GI (n : Int) (w : World) (e : Ending) (w' : World) : Prop := e = .returned (.int .i64 n) ∧ Below w.heap.size w w'
def GP (r : (Int × Int) × Bool) (w : World) (e : Ending) (w' : World) : Prop := e = .returned (.tuple #[.agg #[.int .i64 r.1.1, .int .i64 r.1.2], .bool r.2]) ∧ Below w.heap.size w w'
set_option maxRecDepth 100000 in
theorem implIsPart (n : Int) (w : World) : Calls Tryz.prog 96 #[.int .i64 n] w fun e w' => e = .returned (.bool (gpB n)) ∧ w = w' := by
  by_cases h1 : -1000000 ≤ n <;> by_cases h2 : n ≤ 1000000
  all_goals
    go_enter Tryz.func96, Tryz.ntmps96
    go_wp2
    go_ret
    refine ⟨ret_bool ?_, rfl⟩
    simp [gpB, h1, h2]
set_option maxRecDepth 100000 in
theorem implGoldOk (a b : Int) (w : World) : Calls Tryz.prog 59 #[.agg #[.int .i64 a, .int .i64 b]] w (GB (goldB a b) w) := by
  have hg : goldB a b = (gpB a && gpB b) := rfl
  have C := Lib.hid (fun n w => implIsPart n w)
  cases h1 : gpB a
  · rw [h1] at hg
    have HG := Lib.hid hg
    clear hg
    go_enter Tryz.func59, Tryz.ntmps59
    go_wp2_with fail
    refine (C.out _ _).mono ?_
    rintro e w1 ⟨rfl, rfl⟩
    rw [h1]
    go_wp2_with fail
    go_ret
    exact ⟨ret_bool (by rw [HG.out]; rfl), (Below.refl _ _).alloc (Nat.le_refl _) _⟩
  · rw [h1] at hg
    have HG := Lib.hid hg
    clear hg
    go_enter Tryz.func59, Tryz.ntmps59
    go_wp2_with fail
    refine (C.out _ _).mono ?_
    rintro e w1 ⟨rfl, rfl⟩
    rw [h1]
    go_wp2_with fail
    refine (C.out _ _).mono ?_
    rintro e w1 ⟨rfl, rfl⟩
    go_wp2_with fail
    go_ret
    exact ⟨ret_bool (by rw [HG.out]; simp), (Below.refl _ _).alloc (Nat.le_refl _) _⟩
set_option maxRecDepth 100000 in
theorem implPlus (a b c d : Int) (ha : goldB a b = true) (hc : goldB c d = true) (w : World) : Calls Tryz.prog 65 #[.agg #[.int .i64 a, .int .i64 b], .agg #[.int .i64 c, .int .i64 d]] w (GQ (a + c) (b + d) w) := by
  obtain ⟨⟨a0, a1⟩, b0, b1⟩ := gold_yes ha
  obtain ⟨⟨c0, c1⟩, d0, d1⟩ := gold_yes hc
  clear ha hc
  go_enter Tryz.func65, Tryz.ntmps65
  go_wp2_with fail
  exact bodyPost_ret (v := .agg #[.int .i64 (a + c), .int .i64 (b + d)]) (by simp [results, Tryz.results65, go_sem]) rfl ⟨rfl, below_res w _ _ _⟩
set_option maxRecDepth 100000 in
theorem implMinus (a b c d : Int) (ha : goldB a b = true) (hc : goldB c d = true) (w : World) : Calls Tryz.prog 66 #[.agg #[.int .i64 a, .int .i64 b], .agg #[.int .i64 c, .int .i64 d]] w (GQ (a - c) (b - d) w) := by
  obtain ⟨⟨a0, a1⟩, b0, b1⟩ := gold_yes ha
  obtain ⟨⟨c0, c1⟩, d0, d1⟩ := gold_yes hc
  clear ha hc
  go_enter Tryz.func66, Tryz.ntmps66
  go_wp2_with fail
  exact bodyPost_ret (v := .agg #[.int .i64 (a - c), .int .i64 (b - d)]) (by simp [results, Tryz.results66, go_sem]) rfl ⟨rfl, below_res w _ _ _⟩
set_option maxRecDepth 100000 in
theorem implTimes (a b c d : Int) (ha : goldB a b = true) (hc : goldB c d = true) (w : World) : Calls Tryz.prog 103 #[.agg #[.int .i64 a, .int .i64 b], .agg #[.int .i64 c, .int .i64 d]] w (GQ (a * c + b * d) (a * d + b * c - b * d) w) := by
  obtain ⟨ka, kb⟩ := gold_yes ha
  obtain ⟨kc, kd⟩ := gold_yes hc
  obtain ⟨x0, x1⟩ := mul6 ka kc
  obtain ⟨y0, y1⟩ := mul6 kb kd
  obtain ⟨z0, z1⟩ := mul6 ka kd
  obtain ⟨u0, u1⟩ := mul6 kb kc
  clear ha hc ka kb kc kd
  go_enter Tryz.func103, Tryz.ntmps103
  go_wp2_with fail
  exact bodyPost_ret (v := .agg #[.int .i64 (a * c + b * d), .int .i64 (a * d + b * c - b * d)]) (by simp [results, Tryz.results103, go_sem]) rfl ⟨rfl, below_res w _ _ _⟩
theorem gold_no {a b c d : Int} (h : (goldB a b && goldB c d) = false) : addG a b c d = ((0, 0), false) ∧ mulG a b c d = ((0, 0), false) ∧ cmpG a b c d = -2 := by simp [addG, mulG, cmpG, h]
theorem gold_both {a b c d : Int} (h1 : goldB a b = true) (h2 : goldB c d = true) : addG a b c d = okG (a + c) (b + d) ∧ mulG a b c d = okG (a * c + b * d) (a * d + b * c - b * d) ∧ cmpG a b c d = sg (2 * (a - c) - (b - d)) (b - d) := by simp [addG, mulG, cmpG, h1, h2]
/-- The two boxes of the arguments and the one of the result. -/
def Bg3 (a b c d x y : Int) (w0 w : World) : Prop := Bg 43 w0.heap.size a b w ∧ Bg 43 (w0.heap.size + 1) c d w ∧ Bg 43 (w0.heap.size + 2) x y w ∧ Below w0.heap.size w0 w
theorem Bg3.later {a b c d x y : Int} {w0 w w' : World} (h : Bg3 a b c d x y w0 w) (hb : Below w.heap.size w w') : Bg3 a b c d x y w0 w' :=
  ⟨h.1.later hb, h.2.1.later hb, h.2.2.1.later hb, h.2.2.2.trans (hb.mono h.2.2.2.size)⟩
theorem bg3_new (a b c d : Int) (w : World) : Bg3 a b c d 0 0 w (((w.alloc (.cells #[.int .i64 a, .int .i64 b] 43)).alloc (.cells #[.int .i64 c, .int .i64 d] 43)).alloc (.cells #[.int .i64 0, .int .i64 0] 43)) := by
  refine ⟨row_alloc (row_alloc (heap_alloc_new w _)), row_alloc ?_, ?_, below_res _ _ _ _⟩
  · have := heap_alloc_new (w.alloc (.cells #[.int .i64 a, .int .i64 b] 43)) (.cells #[.int .i64 c, .int .i64 d] 43)
    simpa [Bg] using this
  · have := heap_alloc_new ((w.alloc (.cells #[.int .i64 a, .int .i64 b] 43)).alloc (.cells #[.int .i64 c, .int .i64 d] 43)) (.cells #[.int .i64 0, .int .i64 0] 43)
    simpa [Bg] using this
end Go.Proofs.YtllfgdcplbfdhaaGreat

namespace Go.Proofs.YtllfgdcplbfdhaaGreat
open Go.RowKit
set_option linter.unusedVariables false
set_option linter.unusedSimpArgs false
theorem mul_sq {n M : Int} (h : -M ≤ n ∧ n ≤ M) (hM : 0 ≤ M) : 0 ≤ n * n ∧ n * n ≤ M * M := ⟨sq_nn n, (mul_bnd h h hM).2⟩
theorem ssq_bnd {n : Int} (h : -8000000 ≤ n ∧ n ≤ 8000000) : -64000000000000 ≤ ssq n ∧ ssq n ≤ 64000000000000 := by
  have := mul_sq h (by decide)
  unfold ssq
  split <;> omega
set_option maxRecDepth 100000 in
theorem implSsq (n : Int) (h : -8000000 ≤ n ∧ n ≤ 8000000) (w : World) : Calls Tryz.prog 98 #[.int .i64 n] w fun e w' => e = .returned (.int .i64 (ssq n)) ∧ w = w' := by
  obtain ⟨s0, s1⟩ := mul_sq h (by decide)
  obtain ⟨h0, h1⟩ := h
  have hm : -n * n = -(n * n) := Int.neg_mul _ _
  by_cases hn : n < 0
  · have HE := Lib.hid (show ssq n = -(n * n) by rw [ssq, if_pos hn])
    go_enter Tryz.func98, Tryz.ntmps98
    go_wp2
    go_ret
    exact ⟨ret_int (by rw [HE.out]), rfl⟩
  · have HE := Lib.hid (show ssq n = n * n by rw [ssq, if_neg hn])
    go_enter Tryz.func98, Tryz.ntmps98
    go_wp2
    go_ret
    exact ⟨ret_int (by rw [HE.out]), rfl⟩
set_option maxRecDepth 100000 in
theorem implCompare (n m : Int) (w : World) : Calls Tryz.prog 97 #[.int .i64 n, .int .i64 m] w fun e w' => e = .returned (.int .i64 (cmpI n m)) ∧ w = w' := by
  by_cases h1 : n < m
  · have HE := Lib.hid (show cmpI n m = -1 by rw [cmpI, if_pos h1])
    go_enter Tryz.func97, Tryz.ntmps97
    go_wp2
    go_ret
    exact ⟨ret_int (by rw [HE.out]), rfl⟩
  · by_cases h2 : m < n
    · have HE := Lib.hid (show cmpI n m = 1 by rw [cmpI, if_neg h1, if_pos h2])
      go_enter Tryz.func97, Tryz.ntmps97
      go_wp2
      go_ret
      exact ⟨ret_int (by rw [HE.out]), rfl⟩
    · have HE := Lib.hid (show cmpI n m = 0 by rw [cmpI, if_neg h1, if_neg h2])
      go_enter Tryz.func97, Tryz.ntmps97
      go_wp2
      go_ret
      exact ⟨ret_int (by rw [HE.out]), rfl⟩
set_option maxHeartbeats 1000000 in
set_option maxRecDepth 100000 in
theorem implSign (a b : Int) (ha : -2000000 ≤ a ∧ a ≤ 2000000) (hb : -2000000 ≤ b ∧ b ≤ 2000000) (w : World) : Calls Tryz.prog 60 #[.agg #[.int .i64 a, .int .i64 b]] w (GI (sg (2 * a - b) b) w) := by
  obtain ⟨a0, a1⟩ := ha
  obtain ⟨b0, b1⟩ := hb
  obtain ⟨s0, s1⟩ := ssq_bnd (n := b) (by omega)
  have C1 := Lib.hid (fun w => implSsq (2 * a - b) (by omega) w)
  have C2 := Lib.hid (fun w => implSsq b (by omega) w)
  have C3 := Lib.hid (fun n m w => implCompare n m w)
  have HE := Lib.hid (cmp_sg (2 * a - b) b)
  obtain ⟨n, hn⟩ : ∃ n, 2 * a - b = n := ⟨_, rfl⟩
  rw [hn] at C1 HE ⊢
  have HN := Lib.hid hn
  clear hn
  obtain ⟨y, hy⟩ : ∃ y, ssq b = y := ⟨_, rfl⟩
  rw [hy] at C2 HE s0 s1
  clear hy
  obtain ⟨x, hx⟩ : ∃ x, ssq n = x := ⟨_, rfl⟩
  rw [hx] at C1 HE
  clear hx
  have hwy : IntKind.i64.wrap (-5 * y) = -5 * y := IntWalk.i64_in _ (by omega)
  go_enter Tryz.func60, Tryz.ntmps60
  go_wp2_with fail
  rw [HN.out]
  have B0 : Hid (Bg 43 w.heap.size a b (w.alloc (.cells #[.int .i64 a, .int .i64 b] 43))) := heap_alloc_new w _
  have hb0 : Hid (Below w.heap.size w (w.alloc (.cells #[.int .i64 a, .int .i64 b] 43))) := (Below.refl _ _).alloc (Nat.le_refl _) _
  generalize w.alloc (.cells #[.int .i64 a, .int .i64 b] 43) = W1 at *
  refine wp_region_script (by kernel_rfl) (by kernel_rfl) ?_
  refine Script.load (i := 0) (v := ?_) rfl (by kernel_rfl) (by kernel_rfl) (fun _ _ _ h => h) (by kernel_rfl) ?_ ?_
  rotate_left
  · (intro wS hSw; obtain ⟨k0, k1, -, -⟩ := two_facts (B0.out.later (After.trans (After.drew (After.refl _)) hSw)); go_simp; try with_reducible rfl)
  try simp only [Act.put, List.getElem_toArray, List.getElem_cons_succ, List.getElem_cons_zero, List.setIfInBounds_toArray, List.set_cons_zero, List.set_cons_succ]
  refine Script.call (i := 1) (v := ?_) rfl (by kernel_rfl) (by kernel_rfl) (fun _ _ _ h => h) (by kernel_rfl) ?_ ?_
  rotate_left
  · (intro wS hSw K hK; obtain ⟨k0, k1, -, -⟩ := two_facts (B0.out.later (After.trans (After.drew (After.refl _)) hSw)); go_simp; go_at_call 98; refine (C1.out _).mono ?_; rintro e wc ⟨rfl, rfl⟩; have hbc := Below.refl wS.heap.size wS; exact hK.out _ hbc)
  try simp only [Act.put, List.getElem_toArray, List.getElem_cons_succ, List.getElem_cons_zero, List.setIfInBounds_toArray, List.set_cons_zero, List.set_cons_succ]
  refine Script.load (i := 2) (v := ?_) rfl (by kernel_rfl) (by kernel_rfl) (fun _ _ _ h => h) (by kernel_rfl) ?_ ?_
  rotate_left
  · (intro wS hSw; obtain ⟨k0, k1, -, -⟩ := two_facts (B0.out.later (After.trans (After.drew (After.refl _)) hSw)); go_simp; try with_reducible rfl)
  try simp only [Act.put, List.getElem_toArray, List.getElem_cons_succ, List.getElem_cons_zero, List.setIfInBounds_toArray, List.set_cons_zero, List.set_cons_succ]
  refine Script.load (i := 3) (v := ?_) rfl (by kernel_rfl) (by kernel_rfl) (fun _ _ _ h => h) (by kernel_rfl) ?_ ?_
  rotate_left
  · (intro wS hSw; obtain ⟨k0, k1, -, -⟩ := two_facts (B0.out.later (After.trans (After.drew (After.refl _)) hSw)); go_simp; try with_reducible rfl)
  try simp only [Act.put, List.getElem_toArray, List.getElem_cons_succ, List.getElem_cons_zero, List.setIfInBounds_toArray, List.set_cons_zero, List.set_cons_succ]
  refine Script.call (i := 4) (v := ?_) rfl (by kernel_rfl) (by kernel_rfl) (fun _ _ _ h => h) (by kernel_rfl) ?_ ?_
  rotate_left
  · (intro wS hSw K hK; obtain ⟨k0, k1, -, -⟩ := two_facts (B0.out.later (After.trans (After.drew (After.refl _)) hSw)); go_simp; go_at_call 98; refine (C2.out _).mono ?_; rintro e wc ⟨rfl, rfl⟩; have hbc := Below.refl wS.heap.size wS; exact hK.out _ hbc)
  try simp only [Act.put, List.getElem_toArray, List.getElem_cons_succ, List.getElem_cons_zero, List.setIfInBounds_toArray, List.set_cons_zero, List.set_cons_succ]
  refine Script.load (i := 5) (v := ?_) rfl (by kernel_rfl) (by kernel_rfl) (fun _ _ _ h => h) (by kernel_rfl) ?_ ?_
  rotate_left
  · (intro wS hSw; obtain ⟨k0, k1, -, -⟩ := two_facts (B0.out.later (After.trans (After.drew (After.refl _)) hSw)); go_simp; try with_reducible rfl)
  try simp only [Act.put, List.getElem_toArray, List.getElem_cons_succ, List.getElem_cons_zero, List.setIfInBounds_toArray, List.set_cons_zero, List.set_cons_succ]
  refine Script.call (i := 6) (v := ?_) rfl (by kernel_rfl) (by kernel_rfl) (fun _ _ _ h => h) (by kernel_rfl) ?_ ?_
  rotate_left
  · (intro wS hSw K hK; obtain ⟨k0, k1, -, -⟩ := two_facts (B0.out.later (After.trans (After.drew (After.refl _)) hSw)); go_simp; go_at_call 97; refine (C3.out _ _ _).mono ?_; rintro e wc ⟨rfl, rfl⟩; have hbc := Below.refl wS.heap.size wS; exact hK.out _ hbc)
  try simp only [Act.put, List.getElem_toArray, List.getElem_cons_succ, List.getElem_cons_zero, List.setIfInBounds_toArray, List.set_cons_zero, List.set_cons_succ]
  refine Script.load (i := 7) (v := ?_) rfl (by kernel_rfl) (by kernel_rfl) (fun _ _ _ h => h) (by kernel_rfl) ?_ ?_
  rotate_left
  · (intro wS hSw; obtain ⟨k0, k1, -, -⟩ := two_facts (B0.out.later (After.trans (After.drew (After.refl _)) hSw)); go_simp; try with_reducible rfl)
  try simp only [Act.put, List.getElem_toArray, List.getElem_cons_succ, List.getElem_cons_zero, List.setIfInBounds_toArray, List.set_cons_zero, List.set_cons_succ]
  refine Script.done (by kernel_rfl) ?_
  intro wD hD hG
  have hb1 := Lib.hid (hb0.out.trans (Below.mono (After.trans (After.drew (After.refl _)) hD) hb0.out.size))
  clear hD hG
  go_wp2_with fail
  go_ret
  exact ⟨ret_int (by rw [← HE.out]), hb1.out⟩
theorem sign_no {a b : Int} (h : goldB a b = false) : signG a b = -2 := by simp [signG, h]
theorem sign_yes {a b : Int} (h : goldB a b = true) : signG a b = sg (2 * a - b) b := by simp [signG, h]
/-- One box in new memory. -/
def Bg1 (a b : Int) (w0 w : World) : Prop := Bg 43 w0.heap.size a b w ∧ Below w0.heap.size w0 w
theorem Bg1.later {a b : Int} {w0 w w' : World} (h : Bg1 a b w0 w) (hb : Below w.heap.size w w') : Bg1 a b w0 w' := ⟨h.1.later hb, h.2.trans (hb.mono h.2.size)⟩
theorem bg1_new (a b : Int) (w : World) : Bg1 a b w (w.alloc (.cells #[.int .i64 a, .int .i64 b] 43)) := ⟨heap_alloc_new w _, (Below.refl _ _).alloc (Nat.le_refl _) _⟩
/-- Two boxes in new memory. -/
def Bg2 (a b c d : Int) (w0 w : World) : Prop := Bg 43 w0.heap.size a b w ∧ Bg 43 (w0.heap.size + 1) c d w ∧ Below w0.heap.size w0 w
theorem Bg2.later {a b c d : Int} {w0 w w' : World} (h : Bg2 a b c d w0 w) (hb : Below w.heap.size w w') : Bg2 a b c d w0 w' := ⟨h.1.later hb, h.2.1.later hb, h.2.2.trans (hb.mono h.2.2.size)⟩
theorem bg2_new (a b c d : Int) (w : World) : Bg2 a b c d w ((w.alloc (.cells #[.int .i64 a, .int .i64 b] 43)).alloc (.cells #[.int .i64 c, .int .i64 d] 43)) := by
  refine ⟨row_alloc (heap_alloc_new w _), ?_, ((Below.refl _ _).alloc (Nat.le_refl _) _).alloc (by simp) _⟩
  have := heap_alloc_new (w.alloc (.cells #[.int .i64 a, .int .i64 b] 43)) (.cells #[.int .i64 c, .int .i64 d] 43)
  simpa [Bg] using this
set_option maxRecDepth 100000 in
theorem implSignOf (a b : Int) (w : World) : Calls Tryz.prog 22 #[.agg #[.int .i64 a, .int .i64 b]] w (GI (signG a b) w) := by
  have C := Lib.hid (fun w => implGoldOk a b w)
  cases h1 : goldB a b
  · have HG := Lib.hid (sign_no h1)
    rw [h1] at C
    go_enter Tryz.func22, Tryz.ntmps22
    go_wp2_with fail
    have B0 := Lib.hid (bg1_new a b w)
    generalize w.alloc (.cells #[.int .i64 a, .int .i64 b] 43) = W1 at *
    refine (C.out _).mono ?_
    rintro e w1 ⟨rfl, hb⟩
    have B1 := Lib.hid (B0.out.later hb)
    clear hb B0
    go_wp2_with fail
    go_ret
    exact ⟨ret_int (by rw [HG.out]), B1.out.2⟩
  · have HG := Lib.hid (sign_yes h1)
    rw [h1] at C
    obtain ⟨ka, kb⟩ := gold_yes h1
    have CS := Lib.hid (fun w => implSign a b (by omega) (by omega) w)
    clear ka kb
    go_enter Tryz.func22, Tryz.ntmps22
    go_wp2_with fail
    have B0 := Lib.hid (bg1_new a b w)
    generalize w.alloc (.cells #[.int .i64 a, .int .i64 b] 43) = W1 at *
    refine (C.out _).mono ?_
    rintro e w1 ⟨rfl, hb⟩
    have B1 := Lib.hid (B0.out.later hb)
    clear hb B0
    obtain ⟨k0, k1, -, -⟩ := two_facts B1.out.1
    go_wp2_with fail
    refine (CS.out _).mono ?_
    rintro e w2 ⟨rfl, hb⟩
    have B2 := Lib.hid (B1.out.later hb)
    clear hb B1 k0 k1
    go_wp2_with fail
    go_ret
    exact ⟨ret_int (by rw [HG.out]), B2.out.2⟩
set_option maxRecDepth 100000 in
theorem implCompareGold (a b c d : Int) (w : World) : Calls Tryz.prog 24 #[.agg #[.int .i64 a, .int .i64 b], .agg #[.int .i64 c, .int .i64 d]] w (GI (cmpG a b c d) w) := by
  have C := Lib.hid (fun a b w => implGoldOk a b w)
  cases h1 : goldB a b
  · have HG := Lib.hid (gold_no (a := a) (b := b) (c := c) (d := d) (by rw [h1]; rfl)).2.2
    go_enter Tryz.func24, Tryz.ntmps24
    go_wp2_with fail
    have B0 := Lib.hid (bg2_new a b c d w)
    generalize (w.alloc (.cells #[.int .i64 a, .int .i64 b] 43)).alloc (.cells #[.int .i64 c, .int .i64 d] 43) = W1 at *
    obtain ⟨k0, k1, -, -⟩ := two_facts B0.out.1
    go_wp2_with fail
    refine (C.out _ _ _).mono ?_
    rintro e w1 ⟨rfl, hb⟩
    rw [h1]
    have B1 := Lib.hid (B0.out.later hb)
    clear hb k0 k1 B0
    go_wp2_with fail
    go_ret
    exact ⟨ret_int (by rw [HG.out]), B1.out.2.2⟩
  · cases h2 : goldB c d
    · have HG := Lib.hid (gold_no (a := a) (b := b) (c := c) (d := d) (by rw [h1, h2]; rfl)).2.2
      go_enter Tryz.func24, Tryz.ntmps24
      go_wp2_with fail
      have B0 := Lib.hid (bg2_new a b c d w)
      generalize (w.alloc (.cells #[.int .i64 a, .int .i64 b] 43)).alloc (.cells #[.int .i64 c, .int .i64 d] 43) = W1 at *
      obtain ⟨k0, k1, -, -⟩ := two_facts B0.out.1
      go_wp2_with fail
      refine (C.out _ _ _).mono ?_
      rintro e w1 ⟨rfl, hb⟩
      rw [h1]
      have B1 := Lib.hid (B0.out.later hb)
      clear hb k0 k1 B0
      obtain ⟨k0, k1, -, -⟩ := two_facts B1.out.2.1
      go_wp2_with fail
      refine (C.out _ _ _).mono ?_
      rintro e w2 ⟨rfl, hb⟩
      rw [h2]
      have B2 := Lib.hid (B1.out.later hb)
      clear hb k0 k1 B1
      go_wp2_with fail
      go_ret
      exact ⟨ret_int (by rw [HG.out]), B2.out.2.2⟩
    · have HG := Lib.hid (gold_both h1 h2).2.2
      have CM := Lib.hid (fun w => implMinus a b c d h1 h2 w)
      have CS := Lib.hid (fun w => by obtain ⟨ka, kb⟩ := gold_yes h1; obtain ⟨kc, kd⟩ := gold_yes h2; exact implSign (a - c) (b - d) (by omega) (by omega) w)
      go_enter Tryz.func24, Tryz.ntmps24
      go_wp2_with fail
      have B0 := Lib.hid (bg2_new a b c d w)
      generalize (w.alloc (.cells #[.int .i64 a, .int .i64 b] 43)).alloc (.cells #[.int .i64 c, .int .i64 d] 43) = W1 at *
      obtain ⟨k0, k1, -, -⟩ := two_facts B0.out.1
      go_wp2_with fail
      refine (C.out _ _ _).mono ?_
      rintro e w1 ⟨rfl, hb⟩
      rw [h1]
      have B1 := Lib.hid (B0.out.later hb)
      clear hb k0 k1 B0
      obtain ⟨k0, k1, -, -⟩ := two_facts B1.out.2.1
      go_wp2_with fail
      refine (C.out _ _ _).mono ?_
      rintro e w2 ⟨rfl, hb⟩
      rw [h2]
      have B2 := Lib.hid (B1.out.later hb)
      clear hb k0 k1 B1 h1 h2 C
      obtain ⟨k0, k1, -, -⟩ := two_facts B2.out.1
      obtain ⟨l0, l1, -, -⟩ := two_facts B2.out.2.1
      go_wp2_with fail
      refine (CM.out _).mono ?_
      rintro e w3 ⟨rfl, hb⟩
      have B3 := Lib.hid (B2.out.later hb)
      clear hb k0 k1 l0 l1 B2
      generalize a - c = x at *
      generalize b - d = y at *
      go_wp2_with fail
      refine (CS.out _).mono ?_
      rintro e w4 ⟨rfl, hb⟩
      have B4 := Lib.hid (B3.out.later hb)
      clear hb B3
      go_wp2_with fail
      go_ret
      exact ⟨ret_int (by rw [HG.out]), B4.out.2.2⟩
theorem pow_no {n : Int} (h : ¬ (0 ≤ n ∧ n ≤ 20)) : powG n = (0, 0) := by simp only [powG, h, if_false]
theorem pow_yes (k : Nat) (h : k ≤ 20) : powG k = pw k := by
  rw [powG, if_pos (by omega)]; rfl
theorem pw_gold (k : Nat) (h : k ≤ 20) : (-6765 ≤ (pw k).1 ∧ (pw k).1 ≤ 6765) ∧ -6765 ≤ (pw k).2 ∧ (pw k).2 ≤ 6765 := pw_bnd ⟨k, by omega⟩
theorem row_lt2 {w : World} {b : Nat} {T : TypeId} {x y : Int} (h : Bg T b x y w) : b < w.heap.size := by
  rcases Nat.lt_or_ge b w.heap.size with h' | h'
  · exact h'
  · have h : w.heap[b]? = _ := h; rw [Array.getElem?_eq_none h'] at h; cases h
theorem bg_set {T : TypeId} {b : Nat} {x y x' y' : Int} {w : World} (h : Bg T b x y w) : Bg T b x' y' ((w.setCell ⟨b, 0, none⟩ (.int .i64 x')).setCell ⟨b, 1, none⟩ (.int .i64 y')) :=
  heap_setCell_same _ b 1 _ T _ (heap_setCell_same w b 0 _ T _ h)
theorem bg_other {T : TypeId} {b c : Nat} {x y : Int} {u v : Value} {w : World} (h : Bg T c x y w) (hne : ¬ c = b) : Bg T c x y ((w.setCell ⟨b, 0, none⟩ u).setCell ⟨b, 1, none⟩ v) :=
  (heap_setCell_other _ ⟨b, 1, none⟩ c _ hne).trans ((heap_setCell_other _ ⟨b, 0, none⟩ c _ hne).trans h)
set_option maxHeartbeats 1000000 in
set_option maxRecDepth 100000 in
theorem implPowerOf (n : Int) (w : World) : Calls Tryz.prog 70 #[.int .i64 n] w (GQ (powG n).1 (powG n).2 w) := by
  by_cases h0 : n < 0
  · have HG := Lib.hid (pow_no (n := n) (by omega))
    go_enter Tryz.func70, Tryz.ntmps70
    go_wp2_with fail
    exact bodyPost_ret (v := .agg #[.int .i64 0, .int .i64 0]) (by simp [results, Tryz.results70, go_sem]) rfl ⟨by rw [HG.out], (Below.refl _ _).alloc (Nat.le_refl _) _⟩
  by_cases h1 : 20 < n
  · have HG := Lib.hid (pow_no (n := n) (by omega))
    go_enter Tryz.func70, Tryz.ntmps70
    go_wp2_with fail
    exact bodyPost_ret (v := .agg #[.int .i64 0, .int .i64 0]) (by simp [results, Tryz.results70, go_sem]) rfl ⟨by rw [HG.out], (Below.refl _ _).alloc (Nat.le_refl _) _⟩
  obtain ⟨m, rfl⟩ := Int.eq_ofNat_of_zero_le (show 0 ≤ n by omega)
  have hm : m ≤ 20 := by omega
  have HG := Lib.hid (pow_yes m hm)
  go_enter Tryz.func70, Tryz.ntmps70
  go_wp2_with fail
  have B0 := Lib.hid (bg2_new 0 0 1 0 w)
  generalize (w.alloc (.cells #[.int .i64 0, .int .i64 0] 43)).alloc (.cells #[.int .i64 1, .int .i64 0] 43) = W1 at *
  go_loopw [13] (fun i wr => ∃ (k : Nat) (x y : Int), k ≤ m ∧ i = .int .i64 k ∧ Hid (pw k = (x, y)) ∧ Hid (Bg2 0 0 x y w wr)) (fun i _ => m - (intOf i).toNat)
  case atStart => exact ⟨0, 1, 0, by omega, rfl, rfl, B0⟩
  case round =>
    obtain ⟨k, x, y, hk, rfl, hp, hB⟩ := hrel
    clear B0
    by_cases hkm : k < m
    · have k0 : (k : Int) < (m : Int) := by omega
      have hb := pw_gold k (by omega)
      have hn : Hid (pw (k + 1) = (y, x - y)) := by unfold Hid; rw [pw, hp.out]
      rw [hp.out] at hb
      have CT := Lib.hid (fun w => implTimes x y 0 1 (gold_of (by simp only at hb; omega)) (by decide) w)
      rw [show x * 0 + y * 1 = y by omega, show x * 1 + y * 0 - y * 1 = x - y by omega] at CT
      clear hb
      obtain ⟨k0, k1, -, -⟩ := two_facts hB.out.2.1
      go_wp2_with fail
      refine (CT.out _).mono ?_
      rintro e w1 ⟨rfl, hb⟩
      have B1 := Lib.hid (hB.out.later hb)
      clear hb k0 k1 hB
      obtain ⟨g0, g1, f0, f1⟩ := two_facts B1.out.2.1
      generalize x - y = z at *
      have B2 : Hid (Bg2 0 0 y z w ((w1.setCell ⟨w.heap.size + 1, 0, none⟩ (.int .i64 y)).setCell ⟨w.heap.size + 1, 1, none⟩ (.int .i64 z))) :=
        ⟨bg_other B1.out.1 (by omega), bg_set B1.out.2.1, set_below (set_below B1.out.2.2 (by omega)) (by omega)⟩
      go_wp2_with fail
      go_roundw
      case rel => exact ⟨k + 1, y, z, by omega, by go_num, hn, B2⟩
      case measure => simp [intOf]; omega
    · obtain rfl : k = m := by omega
      obtain ⟨k0, k1, -, -⟩ := two_facts hB.out.2.1
      obtain ⟨z0, z1, f0, f1⟩ := two_facts hB.out.1
      go_wp2_with fail
      exact bodyPost_ret (v := .agg #[.int .i64 x, .int .i64 y]) (by simp [results, Tryz.results70, go_sem, z0, z1]) rfl ⟨by rw [HG.out, hp.out], set_below (set_below hB.out.2.2 (by omega)) (by omega)⟩
end Go.Proofs.YtllfgdcplbfdhaaGreat

namespace Go.Proofs.YtllfgdcplbfdhaaGreat
open Go.RowKit
set_option linter.unusedVariables false
set_option linter.unusedSimpArgs false
theorem ok_yes {x y : Int} (h : goldB x y = true) : okG x y = ((x, y), true) := by simp [okG, h]
theorem ok_no {x y : Int} (h : goldB x y = false) : okG x y = ((0, 0), false) := by simp [okG, h]
/-- Three boxes and a fourth. -/
theorem bg3_more {a b c d x y : Int} {w0 w : World} (o : Obj) (h : Bg3 a b c d x y w0 w) : Bg3 a b c d x y w0 (w.alloc o) := h.later ((Below.refl _ _).alloc (Nat.le_refl _) _)
end Go.Proofs.YtllfgdcplbfdhaaGreat

namespace Go.Proofs.YtllfgdcplbfdhaaGreat
open Go.RowKit
set_option linter.unusedVariables false
set_option linter.unusedSimpArgs false
set_option maxHeartbeats 1000000 in
set_option maxRecDepth 100000 in
theorem specPowerOf (n : Int) (w : World) : Calls Tryz.prog 30 #[.int .i64 n] w (GQ (powG n).1 (powG n).2 w) := by
  have C := Lib.hid (fun w => specIn n 0 20 w)
  by_cases h0 : 0 ≤ n ∧ n ≤ 20
  · obtain ⟨m, rfl⟩ := Int.eq_ofNat_of_zero_le h0.1
    have hm : m ≤ 20 := by omega
    have HG := Lib.hid (pow_yes m hm)
    rw [show inB (m : Int) 0 20 = true by simp [inB]; omega] at C
    clear h0
    go_enter Tryz.func30, Tryz.ntmps30
    go_wp2_with fail
    have B0 := Lib.hid (bg1_new 0 0 w)
    generalize w.alloc (.cells #[.int .i64 0, .int .i64 0] 43) = W0 at *
    refine (C.out _).mono ?_
    rintro e w1 ⟨rfl, rfl⟩
    have hsz := B0.out.2.size
    have hlt := row_lt2 B0.out.1
    go_wp2_with fail
    have B1 : Hid (Bg 43 w.heap.size 0 0 (W0.alloc (.cells #[.int .i64 1, .int .i64 0] 43)) ∧ Bg 43 W0.heap.size 1 0 (W0.alloc (.cells #[.int .i64 1, .int .i64 0] 43)) ∧ Below w.heap.size w (W0.alloc (.cells #[.int .i64 1, .int .i64 0] 43))) :=
      ⟨row_alloc B0.out.1, heap_alloc_new W0 _, B0.out.2.alloc hsz _⟩
    generalize W0.alloc (.cells #[.int .i64 1, .int .i64 0] 43) = W1 at *
    clear B0
    generalize W0.heap.size = q at *
    go_loopw [4] (fun i wr => ∃ (k : Nat) (x y : Int), k ≤ m ∧ i = .int .i64 k ∧ Hid (pw k = (x, y)) ∧ Hid (Bg 43 w.heap.size 0 0 wr ∧ Bg 43 q x y wr ∧ Below w.heap.size w wr)) (fun i _ => m - (intOf i).toNat)
    case atStart => exact ⟨0, 1, 0, by omega, rfl, rfl, B1⟩
    case round =>
      obtain ⟨k, x, y, hk, rfl, hp, hB⟩ := hrel
      clear B1
      by_cases hkm : k < m
      · have k0 : (k : Int) < (m : Int) := by omega
        have hb := pw_gold k (by omega)
        have hn : Hid (pw (k + 1) = (y, x - y)) := by unfold Hid; rw [pw, hp.out]
        rw [hp.out] at hb
        simp only at hb
        obtain ⟨⟨b0, b1⟩, b2, b3⟩ := hb
        obtain ⟨k0, k1, f0, f1⟩ := two_facts hB.out.2.1
        have B2 : Hid (Bg 43 w.heap.size 0 0 ((wr.setCell ⟨q, 0, none⟩ (.int .i64 y)).setCell ⟨q, 1, none⟩ (.int .i64 (x - y))) ∧ Bg 43 q y (x - y) ((wr.setCell ⟨q, 0, none⟩ (.int .i64 y)).setCell ⟨q, 1, none⟩ (.int .i64 (x - y))) ∧ Below w.heap.size w ((wr.setCell ⟨q, 0, none⟩ (.int .i64 y)).setCell ⟨q, 1, none⟩ (.int .i64 (x - y)))) :=
          ⟨bg_other hB.out.1 (by omega), bg_set hB.out.2.1, set_below (set_below hB.out.2.2 (by omega)) (by omega)⟩
        go_wp2_with fail
        go_roundw
        case rel => exact ⟨k + 1, y, x - y, by omega, by go_num, hn, B2⟩
        case measure => simp [intOf]; omega
      · obtain rfl : k = m := by omega
        obtain ⟨k0, k1, -, -⟩ := two_facts hB.out.2.1
        obtain ⟨z0, z1, f0, f1⟩ := two_facts hB.out.1
        go_wp2_with fail
        exact bodyPost_ret (v := .agg #[.int .i64 x, .int .i64 y]) (by simp [results, Tryz.results30, go_sem, z0, z1]) rfl ⟨by rw [HG.out, hp.out], set_below (set_below hB.out.2.2 (by omega)) (by omega)⟩
  · have HG := Lib.hid (pow_no (n := n) h0)
    rw [show inB n 0 20 = false by simp [inB]; omega] at C
    clear h0
    go_enter Tryz.func30, Tryz.ntmps30
    go_wp2_with fail
    have B0 := Lib.hid (bg1_new 0 0 w)
    generalize w.alloc (.cells #[.int .i64 0, .int .i64 0] 43) = W0 at *
    refine (C.out _).mono ?_
    rintro e w1 ⟨rfl, rfl⟩
    obtain ⟨z0, z1, f0, f1⟩ := two_facts B0.out.1
    go_wp2_with fail
    exact bodyPost_ret (v := .agg #[.int .i64 0, .int .i64 0]) (by simp [results, Tryz.results30, go_sem, z0, z1]) rfl ⟨by rw [HG.out], set_below (set_below B0.out.2 (by omega)) (by omega)⟩
end Go.Proofs.YtllfgdcplbfdhaaGreat

namespace Go.Proofs.YtllfgdcplbfdhaaGreat
set_option linter.unusedVariables false
theorem gold_small {a b M : Int} (h : (-M ≤ a ∧ a ≤ M) ∧ -M ≤ b ∧ b ≤ M) (hM : M ≤ 1000000) : goldB a b = true := gold_of (by omega)
theorem okG_fst {x y : Int} {r : Int × Int} (h : okG x y = (r, true)) : r = (x, y) ∧ goldB x y = true := by
  unfold okG at h
  split at h
  · rename_i h1; cases h; exact ⟨rfl, h1⟩
  · cases h
/-- A product that is valid has the product of the signs. -/
theorem mul_sign {a b c d : Int} {m : Int × Int} (h1 : goldB a b = true) (h2 : goldB c d = true) (h : mulG a b c d = (m, true)) : signG m.1 m.2 = signG a b * signG c d := by
  rw [mulG, if_pos (by rw [h1, h2]; rfl)] at h
  obtain ⟨rfl, hg⟩ := okG_fst h
  simp only [signG, hg, h1, h2, if_true]
  exact signs_mul a b c d
theorem sg_cases (n m : Int) : sg n m = 1 ∨ sg n m = -1 ∨ sg n m = 0 := by
  unfold sg
  (repeat' split) <;> simp
theorem sign_bnd (a b : Int) : -2 ≤ signG a b ∧ signG a b ≤ 1 := by
  unfold signG
  split
  · rcases sg_cases (2 * a - b) b with h | h | h <;> omega
  · omega
theorem cmp_bnd (a b c d : Int) : -2 ≤ cmpG a b c d ∧ cmpG a b c d ≤ 1 := by
  unfold cmpG
  split
  · rcases sg_cases (2 * (a - c) - (b - d)) (b - d) with h | h | h <;> omega
  · omega
theorem gold_add {a b c d : Int} (h1 : goldB a b = true) (h2 : goldB c d = true) (h3 : goldB (a + c) (b + d) = true) : addG a b c d = ((a + c, b + d), true) := by
  rw [addG, if_pos (by rw [h1, h2]; rfl), okG, if_pos h3]
/-- The law of distribution, where all is valid. -/
theorem mul_add {a b c d e f : Int} {y u v z : Int × Int} (h1 : mulG (a + c) (b + d) e f = (y, true)) (h2 : mulG a b e f = (u, true)) (h3 : mulG c d e f = (v, true)) (h4 : addG u.1 u.2 v.1 v.2 = (z, true)) : z = y := by
  have key : ∀ {a b c d : Int} {m : Int × Int}, mulG a b c d = (m, true) → m = (a * c + b * d, a * d + b * c - b * d) := by
    intro a b c d m h
    unfold mulG at h
    split at h
    · exact (okG_fst h).1
    · cases h
  have e1 := key h1
  have e2 := key h2
  have e3 := key h3
  have e4 : z = (u.1 + v.1, u.2 + v.2) := by
    unfold addG at h4
    split at h4
    · exact (okG_fst h4).1
    · cases h4
  rw [e4, e1, e2, e3]
  simp only [Int.add_mul]
  congr 1 <;> omega
end Go.Proofs.YtllfgdcplbfdhaaGreat
