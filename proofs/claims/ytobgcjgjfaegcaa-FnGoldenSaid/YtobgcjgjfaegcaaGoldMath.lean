/- Golden numbers as mathematics: ranges, sums, products, the sign of n + m times the square root of 5, powers; of no program. -/
namespace Go.Proofs.Ytobgcjgjfaegcaa
set_option linter.unusedVariables false
def gpB (n : Int) : Bool := decide (-1000000 ≤ n) && decide (n ≤ 1000000)
def goldB (a b : Int) : Bool := gpB a && gpB b
theorem gp_yes {n : Int} (h : gpB n = true) : -1000000 ≤ n ∧ n ≤ 1000000 := by simpa [gpB] using h
theorem gp_of {n : Int} (h0 : -1000000 ≤ n) (h1 : n ≤ 1000000) : gpB n = true := by simp [gpB, h0, h1]
theorem gold_yes {a b : Int} (h : goldB a b = true) : (-1000000 ≤ a ∧ a ≤ 1000000) ∧ -1000000 ≤ b ∧ b ≤ 1000000 := by
  rw [goldB, Bool.and_eq_true] at h
  exact ⟨gp_yes h.1, gp_yes h.2⟩
theorem gold_of {a b : Int} (h : (-1000000 ≤ a ∧ a ≤ 1000000) ∧ -1000000 ≤ b ∧ b ≤ 1000000) : goldB a b = true := by
  rw [goldB, gp_of h.1.1 h.1.2, gp_of h.2.1 h.2.2]; rfl
/-- A golden number where it is in its range, else the zero one. -/
def okG (x y : Int) : (Int × Int) × Bool := if goldB x y = true then ((x, y), true) else ((0, 0), false)
def addG (a b c d : Int) : (Int × Int) × Bool := if (goldB a b && goldB c d) = true then okG (a + c) (b + d) else ((0, 0), false)
def mulG (a b c d : Int) : (Int × Int) × Bool := if (goldB a b && goldB c d) = true then okG (a * c + b * d) (a * d + b * c - b * d) else ((0, 0), false)
/-- The product of two numbers of bounded magnitude. -/
theorem mul_bnd {a b M N : Int} (ha : -M ≤ a ∧ a ≤ M) (hb : -N ≤ b ∧ b ≤ N) (hM : 0 ≤ M) : -(M * N) ≤ a * b ∧ a * b ≤ M * N := by
  have hN : 0 ≤ N := by omega
  have key : ∀ x y : Int, 0 ≤ x → x ≤ M → 0 ≤ y → y ≤ N → 0 ≤ x * y ∧ x * y ≤ M * N := fun x y h0 h1 h2 h3 =>
    ⟨Int.mul_nonneg h0 h2, Int.mul_le_mul h1 h3 h2 hM⟩
  rcases Int.le_total 0 a with h | h <;> rcases Int.le_total 0 b with h' | h'
  · have := key a b h ha.2 h' hb.2; omega
  · have := key a (-b) h ha.2 (by omega) (by omega); rw [Int.mul_neg] at this; omega
  · have := key (-a) b (by omega) (by omega) h' hb.2; rw [Int.neg_mul] at this; omega
  · have := key (-a) (-b) (by omega) (by omega) (by omega) (by omega); rw [Int.neg_mul_neg] at this; omega
theorem mul6 {a b : Int} (ha : -1000000 ≤ a ∧ a ≤ 1000000) (hb : -1000000 ≤ b ∧ b ≤ 1000000) : -1000000000000 ≤ a * b ∧ a * b ≤ 1000000000000 := mul_bnd ha hb (by decide)
/- The sign of n + m times the square root of 5. -/
theorem sqz_pos {n : Int} (h : n ≠ 0) : 0 < n * n := by
  rcases Int.lt_or_gt_of_ne h with h | h
  · have := Int.mul_pos_of_neg_of_neg h h; exact this
  · exact Int.mul_pos h h
theorem sq_nn (n : Int) : 0 ≤ n * n := by
  by_cases h : n = 0
  · subst h; decide
  · exact Int.le_of_lt (sqz_pos h)
theorem root5_nat : ∀ (k n m : Nat), n ≤ k → n * n = 5 * (m * m) → n = 0
  | 0, n, m, h, _ => by omega
  | k + 1, n, m, h, e => by
    have h5 : n % 5 = 0 := by
      have e1 : n * n % 5 = 0 := by rw [e]; exact Nat.mul_mod_right 5 _
      rw [Nat.mul_mod] at e1
      have : n % 5 < 5 := Nat.mod_lt _ (by decide)
      generalize n % 5 = r at *
      match r, this with
      | 0, _ => rfl
      | 1, _ | 2, _ | 3, _ | 4, _ => simp at e1
    obtain ⟨i, rfl⟩ : ∃ i, n = 5 * i := ⟨n / 5, by omega⟩
    have e2 : m * m = 5 * (i * i) := by
      have : 5 * i * (5 * i) = 5 * (5 * (i * i)) := by rw [Nat.mul_assoc, Nat.mul_left_comm i 5 i]
      omega
    have m5 : m % 5 = 0 := by
      have e1 : m * m % 5 = 0 := by rw [e2]; exact Nat.mul_mod_right 5 _
      rw [Nat.mul_mod] at e1
      have : m % 5 < 5 := Nat.mod_lt _ (by decide)
      generalize m % 5 = r at *
      match r, this with
      | 0, _ => rfl
      | 1, _ | 2, _ | 3, _ | 4, _ => simp at e1
    obtain ⟨j, rfl⟩ : ∃ j, m = 5 * j := ⟨m / 5, by omega⟩
    have e3 : i * i = 5 * (j * j) := by
      have : 5 * j * (5 * j) = 5 * (5 * (j * j)) := by rw [Nat.mul_assoc, Nat.mul_left_comm j 5 j]
      omega
    rcases Nat.eq_zero_or_pos i with h0 | h0
    · omega
    · have := root5_nat k i j (by omega) e3
      omega
theorem root5 {n m : Int} (h : n * n = 5 * (m * m)) : n = 0 ∧ m = 0 := by
  have e : n.natAbs * n.natAbs = 5 * (m.natAbs * m.natAbs) := by
    have h1 := Int.natAbs_mul_self (a := n)
    have h2 := Int.natAbs_mul_self (a := m)
    omega
  have h0 := root5_nat _ _ _ (Nat.le_refl _) e
  have hn : n = 0 := Int.natAbs_eq_zero.1 h0
  subst hn
  refine ⟨rfl, ?_⟩
  by_cases hm : m = 0
  · exact hm
  · have := sqz_pos hm; omega
/-- The sign of n + m times the square root of 5. -/
def sg (n m : Int) : Int :=
  if 5 * (m * m) < n * n then (if 0 < n then 1 else -1) else if n * n < 5 * (m * m) then (if 0 < m then 1 else -1) else 0
def signG (a b : Int) : Int := if goldB a b = true then sg (2 * a - b) b else -2
def cmpG (a b c d : Int) : Int := if (goldB a b && goldB c d) = true then sg (2 * (a - c) - (b - d)) (b - d) else -2
def ssq (n : Int) : Int := if n < 0 then -(n * n) else n * n
def cmpI (n m : Int) : Int := if n < m then -1 else if m < n then 1 else 0
theorem cmp_sg (n m : Int) : cmpI (ssq n) (-5 * ssq m) = sg n m := by
  have pn := fun h : n ≠ 0 => sqz_pos h
  have pm := fun h : m ≠ 0 => sqz_pos h
  have qn := sq_nn n
  have qm := sq_nn m
  have hr := fun h => root5 (n := n) (m := m) h
  have zn : n = 0 → n * n = 0 := by rintro rfl; rfl
  have zm : m = 0 → m * m = 0 := by rintro rfl; rfl
  unfold cmpI ssq sg
  generalize n * n = N at *
  generalize m * m = M at *
  by_cases h0 : N = 5 * M
  · obtain ⟨rfl, rfl⟩ := hr h0
    have := zn rfl; have := zm rfl
    subst this; simp; omega
  · by_cases h1 : n < 0 <;> by_cases h2 : m < 0 <;> simp only [h1, h2, if_true, if_false] <;> (repeat' split) <;> omega
theorem sg_zero {n m : Int} : sg n m = 0 ↔ n = 0 ∧ m = 0 := by
  constructor
  · intro h
    refine root5 ?_
    unfold sg at h
    revert h
    (repeat' split) <;> intro h <;> omega
  · rintro ⟨rfl, rfl⟩; rfl
theorem sg_neg (n m : Int) : sg (-n) (-m) = - sg n m := by
  have hr := fun h => root5 (n := n) (m := m) h
  have zn : n = 0 → n * n = 0 := by rintro rfl; rfl
  have zm : m = 0 → m * m = 0 := by rintro rfl; rfl
  have qn := sq_nn n
  have qm := sq_nn m
  unfold sg
  rw [Int.neg_mul_neg, Int.neg_mul_neg]
  generalize n * n = N at *
  generalize m * m = M at *
  (repeat' split) <;> omega
/-- The model's way to the sign. -/
def sgM (n m : Int) : Int :=
  if 0 ≤ n ∧ 0 ≤ m then (if 0 < n ∨ 0 < m then 1 else 0) else if n ≤ 0 ∧ m ≤ 0 then -1 else if 0 < n then (if 5 * m * m < n * n then 1 else -1) else (if n * n < 5 * m * m then 1 else -1)
theorem sgM_sg (n m : Int) : sgM n m = sg n m := by
  have pn := fun h : n ≠ 0 => sqz_pos h
  have pm := fun h : m ≠ 0 => sqz_pos h
  have qn := sq_nn n
  have qm := sq_nn m
  have hr := fun h => root5 (n := n) (m := m) h
  have zn : n = 0 → n * n = 0 := by rintro rfl; rfl
  have zm : m = 0 → m * m = 0 := by rintro rfl; rfl
  unfold sgM sg
  rw [Int.mul_assoc 5 m m]
  generalize n * n = N at *
  generalize m * m = M at *
  (repeat' split) <;> omega
/- The sign of a product. -/
theorem sq_dom {x y : Int} (h : y * y < x * x) : (0 < x → 0 < x + y) ∧ (x < 0 → x + y < 0) := by
  constructor
  · intro hx
    refine Int.not_le.1 fun h' => ?_
    have : x * x ≤ -y * -y := Int.mul_le_mul (by omega) (by omega) (by omega) (by omega)
    rw [Int.neg_mul_neg] at this
    omega
  · intro hx
    refine Int.not_le.1 fun h' => ?_
    have : -x * -x ≤ y * y := Int.mul_le_mul (by omega) (by omega) (by omega) (by omega)
    rw [Int.neg_mul_neg] at this
    omega
theorem sg_big {n m : Int} (h : 5 * (m * m) < n * n) : sg n m = if 0 < n then 1 else -1 := by rw [sg, if_pos h]
theorem sg_small {n m : Int} (h : n * n < 5 * (m * m)) : sg n m = if 0 < m then 1 else -1 := by rw [sg, if_neg (by omega), if_pos h]
theorem ne_of_sq {n : Int} {k : Int} (h : k < n * n) (hk : 0 ≤ k) : n ≠ 0 := by rintro rfl; omega
/-- What the products of two signs are, by halves. -/
theorem sgn_mul {x y z : Int} (hx : x ≠ 0) (hy : y ≠ 0) (hz : (0 < x * y → 0 < z) ∧ (x * y < 0 → z < 0)) : (if 0 < z then (1 : Int) else -1) = (if 0 < x then 1 else -1) * (if 0 < y then 1 else -1) := by
  rcases Int.lt_or_gt_of_ne hx with h1 | h1 <;> rcases Int.lt_or_gt_of_ne hy with h2 | h2
  · have := hz.1 (Int.mul_pos_of_neg_of_neg h1 h2)
    rw [if_pos this, if_neg (by omega), if_neg (by omega)]; rfl
  · have := hz.2 (Int.mul_neg_of_neg_of_pos h1 h2)
    rw [if_neg (by omega), if_neg (by omega), if_pos h2]; rfl
  · have := hz.2 (Int.mul_neg_of_pos_of_neg h1 h2)
    rw [if_neg (by omega), if_pos h1, if_neg (by omega)]; rfl
  · have := hz.1 (Int.mul_pos h1 h2)
    rw [if_pos this, if_pos h1, if_pos h2]; rfl
theorem sq_mul (x y : Int) : x * y * (x * y) = x * x * (y * y) := by
  rw [Int.mul_assoc, Int.mul_left_comm y x y, ← Int.mul_assoc]
theorem lt_mul {a b c d : Int} (h1 : a < b) (h2 : c < d) (ha : 0 ≤ a) (hc : 0 ≤ c) : a * c < b * d := by
  have s1 : a * c ≤ b * c := Int.mul_le_mul_of_nonneg_right (by omega) hc
  have s2 : b * c < b * d := Int.mul_lt_mul_of_pos_left h2 (by omega)
  omega
/-- The product of n1 + m1 r and n2 + m2 r is twice n3 + m3 r: r is the square root of 5. -/
theorem sg_mul {n1 m1 n2 m2 n3 m3 : Int} (hn : 2 * n3 = n1 * n2 + 5 * (m1 * m2)) (hm : 2 * m3 = n1 * m2 + m1 * n2) : sg n3 m3 = sg n1 m1 * sg n2 m2 := by
  have norm : 4 * (n3 * n3 - 5 * (m3 * m3)) = (n1 * n1 - 5 * (m1 * m1)) * (n2 * n2 - 5 * (m2 * m2)) := by
    have e1 : 2 * n3 * (2 * n3) = (n1 * n2 + 5 * (m1 * m2)) * (n1 * n2 + 5 * (m1 * m2)) := by rw [hn]
    have e2 : 2 * m3 * (2 * m3) = (n1 * m2 + m1 * n2) * (n1 * m2 + m1 * n2) := by rw [hm]
    have e3 : 4 * (n3 * n3 - 5 * (m3 * m3)) = 2 * n3 * (2 * n3) - 5 * (2 * m3 * (2 * m3)) := by
      rw [Int.mul_assoc 2 n3, Int.mul_left_comm n3 2 n3, Int.mul_assoc 2 m3, Int.mul_left_comm m3 2 m3]; omega
    rw [e3, e1, e2]
    simp only [Int.add_mul, Int.mul_add, Int.sub_mul, Int.mul_sub]
    have a1 : n1 * n2 * (n1 * n2) = n1 * n1 * (n2 * n2) := sq_mul n1 n2
    have a2 : m1 * m2 * (m1 * m2) = m1 * m1 * (m2 * m2) := sq_mul m1 m2
    have a3 : n1 * m2 * (n1 * m2) = n1 * n1 * (m2 * m2) := sq_mul n1 m2
    have a4 : m1 * n2 * (m1 * n2) = m1 * m1 * (n2 * n2) := sq_mul m1 n2
    have a5 : n1 * n2 * (5 * (m1 * m2)) = 5 * (n1 * n2 * (m1 * m2)) := Int.mul_left_comm _ _ _
    have a6 : 5 * (m1 * m2) * (n1 * n2) = 5 * (n1 * n2 * (m1 * m2)) := by rw [Int.mul_assoc, Int.mul_comm (m1 * m2)]
    have a7 : 5 * (m1 * m2) * (5 * (m1 * m2)) = 25 * (m1 * m1 * (m2 * m2)) := by rw [Int.mul_assoc, Int.mul_left_comm (m1 * m2) 5, a2, ← Int.mul_assoc 5 5]; rfl
    have a8 : n1 * m2 * (m1 * n2) = n1 * n2 * (m1 * m2) := by
      rw [Int.mul_assoc n1 m2, Int.mul_left_comm m2 m1 n2, Int.mul_comm m2 n2, Int.mul_left_comm m1 n2 m2, ← Int.mul_assoc n1 n2]
    have a9 : m1 * n2 * (n1 * m2) = n1 * n2 * (m1 * m2) := by rw [Int.mul_comm (m1 * n2), a8]
    have b1 : n1 * n1 * (5 * (m2 * m2)) = 5 * (n1 * n1 * (m2 * m2)) := Int.mul_left_comm _ _ _
    have b2 : 5 * (m1 * m1) * (n2 * n2) = 5 * (m1 * m1 * (n2 * n2)) := Int.mul_assoc _ _ _
    have b3 : 5 * (m1 * m1) * (5 * (m2 * m2)) = 25 * (m1 * m1 * (m2 * m2)) := by rw [Int.mul_assoc, Int.mul_left_comm (m1 * m1) 5, ← Int.mul_assoc 5 5]; rfl
    rw [a1, a3, a4, a5, a6, a7, a8, a9, b1, b2, b3]
    omega
  have q1 := sq_nn n1; have q2 := sq_nn n2; have p1 := sq_nn m1; have p2 := sq_nn m2
  by_cases z1 : n1 * n1 = 5 * (m1 * m1)
  · obtain ⟨rfl, rfl⟩ := root5 z1
    have : n3 = 0 := by simp at hn; omega
    have : m3 = 0 := by simp at hm; omega
    subst_vars; simp [sg]
  by_cases z2 : n2 * n2 = 5 * (m2 * m2)
  · obtain ⟨rfl, rfl⟩ := root5 z2
    have : n3 = 0 := by simp at hn; omega
    have : m3 = 0 := by simp at hm; omega
    subst_vars; simp [sg]
  have c1 : n1 * n2 * (n1 * n2) = n1 * n1 * (n2 * n2) := sq_mul n1 n2
  have c2 : 5 * (m1 * m2) * (5 * (m1 * m2)) = 5 * (m1 * m1) * (5 * (m2 * m2)) := by
    rw [Int.mul_assoc, Int.mul_left_comm (m1 * m2) 5, sq_mul, Int.mul_assoc 5 (m1 * m1), Int.mul_left_comm (m1 * m1) 5]
  have c3 : n1 * m2 * (n1 * m2) = n1 * n1 * (m2 * m2) := sq_mul n1 m2
  have c4 : m1 * n2 * (m1 * n2) = m1 * m1 * (n2 * n2) := sq_mul m1 n2
  rcases Int.lt_or_gt_of_ne z1 with k1 | k1 <;> rcases Int.lt_or_gt_of_ne z2 with k2 | k2
  · have hk : 0 < (n1 * n1 - 5 * (m1 * m1)) * (n2 * n2 - 5 * (m2 * m2)) := Int.mul_pos_of_neg_of_neg (by omega) (by omega)
    rw [sg_big (n := n3) (by omega), sg_small k1, sg_small k2]
    have d : n1 * n2 * (n1 * n2) < 5 * (m1 * m2) * (5 * (m1 * m2)) := by rw [c1, c2]; exact lt_mul k1 k2 q1 q2
    have := sq_dom d
    exact sgn_mul (by rintro rfl; omega) (by rintro rfl; omega) ⟨fun h => by have := this.1 (by omega); omega, fun h => by have := this.2 (by omega); omega⟩
  · have hk : (n1 * n1 - 5 * (m1 * m1)) * (n2 * n2 - 5 * (m2 * m2)) < 0 := Int.mul_neg_of_neg_of_pos (by omega) (by omega)
    rw [sg_small (n := n3) (by omega), sg_small k1, sg_big k2]
    have d : n1 * m2 * (n1 * m2) < m1 * n2 * (m1 * n2) := by
      rw [c3, c4]
      have := lt_mul k1 k2 q1 (by omega)
      have e : n1 * n1 * (5 * (m2 * m2)) = 5 * (n1 * n1 * (m2 * m2)) := Int.mul_left_comm _ _ _
      have e' : 5 * (m1 * m1) * (n2 * n2) = 5 * (m1 * m1 * (n2 * n2)) := Int.mul_assoc _ _ _
      omega
    have := sq_dom d
    exact sgn_mul (by rintro rfl; omega) (by rintro rfl; omega) ⟨fun h => by have := this.1 h; omega, fun h => by have := this.2 h; omega⟩
  · have hk : (n1 * n1 - 5 * (m1 * m1)) * (n2 * n2 - 5 * (m2 * m2)) < 0 := Int.mul_neg_of_pos_of_neg (by omega) (by omega)
    rw [sg_small (n := n3) (by omega), sg_big k1, sg_small k2]
    have d : m1 * n2 * (m1 * n2) < n1 * m2 * (n1 * m2) := by
      rw [c3, c4]
      have := lt_mul k1 k2 (by omega) q2
      have e : n1 * n1 * (5 * (m2 * m2)) = 5 * (n1 * n1 * (m2 * m2)) := Int.mul_left_comm _ _ _
      have e' : 5 * (m1 * m1) * (n2 * n2) = 5 * (m1 * m1 * (n2 * n2)) := Int.mul_assoc _ _ _
      omega
    have := sq_dom d
    exact sgn_mul (by rintro rfl; omega) (by rintro rfl; omega) ⟨fun h => by have := this.1 h; omega, fun h => by have := this.2 h; omega⟩
  · have hk : 0 < (n1 * n1 - 5 * (m1 * m1)) * (n2 * n2 - 5 * (m2 * m2)) := Int.mul_pos (by omega) (by omega)
    rw [sg_big (n := n3) (by omega), sg_big k1, sg_big k2]
    have d : 5 * (m1 * m2) * (5 * (m1 * m2)) < n1 * n2 * (n1 * n2) := by rw [c1, c2]; exact lt_mul k1 k2 (by omega) (by omega)
    have := sq_dom d
    exact sgn_mul (by rintro rfl; omega) (by rintro rfl; omega) ⟨fun h => by have := this.1 h; omega, fun h => by have := this.2 h; omega⟩
theorem signs_mul (a b c d : Int) : sg (2 * (a * c + b * d) - (a * d + b * c - b * d)) (a * d + b * c - b * d) = sg (2 * a - b) b * sg (2 * c - d) d := by
  refine sg_mul ?_ ?_
  · simp only [Int.sub_mul, Int.mul_sub, Int.mul_assoc]
    rw [Int.mul_left_comm a 2 c, Int.mul_left_comm b 2 c]
    omega
  · simp only [Int.sub_mul, Int.mul_sub, Int.mul_assoc]
    rw [Int.mul_left_comm b 2 c]
    omega
/-- The powers of s. -/
def pw : Nat → Int × Int
  | 0 => (1, 0)
  | k + 1 => ((pw k).2, (pw k).1 - (pw k).2)
def powG (n : Int) : Int × Int := if 0 ≤ n ∧ n ≤ 20 then pw n.toNat else (0, 0)
theorem pw_bnd : ∀ k : Fin 21, (-6765 ≤ (pw k.val).1 ∧ (pw k.val).1 ≤ 6765) ∧ -6765 ≤ (pw k.val).2 ∧ (pw k.val).2 ≤ 6765 := by decide +kernel
theorem pw_next : ∀ k : Fin 19, addG (pw (k.val + 1)).1 (pw (k.val + 1)).2 (pw (k.val + 2)).1 (pw (k.val + 2)).2 = ((pw k.val), true) ∧ signG (pw k.val).1 (pw k.val).2 = 1 ∧ cmpG (pw (k.val + 1)).1 (pw (k.val + 1)).2 (pw k.val).1 (pw k.val).2 = -1 := by decide +kernel
theorem mulG_comm (a b c d : Int) : mulG a b c d = mulG c d a b := by
  unfold mulG
  rw [Bool.and_comm, Int.mul_comm a c, Int.mul_comm b d, Int.mul_comm a d, Int.mul_comm b c, Int.add_comm (d * a)]
theorem cmpG_neg (a b c d : Int) (h : (goldB a b && goldB c d) = true) : cmpG a b c d = - cmpG c d a b := by
  have h' : (goldB c d && goldB a b) = true := by rw [Bool.and_comm]; exact h
  unfold cmpG
  rw [if_pos h, if_pos h', ← sg_neg]
  congr 1 <;> omega
theorem cmpG_zero (a b c d : Int) (h : (goldB a b && goldB c d) = true) : cmpG a b c d = 0 ↔ a = c ∧ b = d := by
  unfold cmpG
  rw [if_pos h, sg_zero]
  omega
end Go.Proofs.Ytobgcjgjfaegcaa
