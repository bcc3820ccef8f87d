/- What FnGolden needs of golden numbers: sums, products, signs of numbers that are at most 6765 in their parts; of no program. -/
import Derived.Test.YtobgcjgjfaegcaaGoldMath
namespace Go.Proofs.Ytobgcjgjfaegcaa
set_option linter.unusedVariables false
theorem gold_small {a b M : Int} (h : (-M ≤ a ∧ a ≤ M) ∧ -M ≤ b ∧ b ≤ M) (hM : M ≤ 1000000) : goldB a b = true := gold_of (by omega)
theorem okG_fst {x y : Int} {r : Int × Int} (h : okG x y = (r, true)) : r = (x, y) ∧ goldB x y = true := by
  unfold okG at h
  split at h
  · rename_i h1; cases h; exact ⟨rfl, h1⟩
  · cases h
/-- A product that is valid has the product of the signs. -/
theorem mul_sign {a b c d : Int} {m : Int × Int} (h1 : goldB a b = true) (h2 : goldB c d = true) (h : mulG a b c d = (m, true)) : signG m.1 m.2 = signG a b * signG c d := by
  rw [mulG, if_pos (by rw [h1, h2]; rfl)] at h
  obtain ⟨rfl, hg⟩ := okG_fst h
  simp only [signG, hg, h1, h2, if_true]
  exact signs_mul a b c d
theorem sg_cases (n m : Int) : sg n m = 1 ∨ sg n m = -1 ∨ sg n m = 0 := by
  unfold sg
  (repeat' split) <;> simp
theorem sign_bnd (a b : Int) : -2 ≤ signG a b ∧ signG a b ≤ 1 := by
  unfold signG
  split
  · rcases sg_cases (2 * a - b) b with h | h | h <;> omega
  · omega
theorem cmp_bnd (a b c d : Int) : -2 ≤ cmpG a b c d ∧ cmpG a b c d ≤ 1 := by
  unfold cmpG
  split
  · rcases sg_cases (2 * (a - c) - (b - d)) (b - d) with h | h | h <;> omega
  · omega
theorem add_yes {a b c d : Int} (h1 : goldB a b = true) (h2 : goldB c d = true) (h3 : goldB (a + c) (b + d) = true) : addG a b c d = ((a + c, b + d), true) := by
  rw [addG, if_pos (by rw [h1, h2]; rfl), okG, if_pos h3]
/-- The law of distribution, where all is valid. -/
theorem mul_add {a b c d e f : Int} {y u v z : Int × Int} (h1 : mulG (a + c) (b + d) e f = (y, true)) (h2 : mulG a b e f = (u, true)) (h3 : mulG c d e f = (v, true)) (h4 : addG u.1 u.2 v.1 v.2 = (z, true)) : z = y := by
  have key : ∀ {a b c d : Int} {m : Int × Int}, mulG a b c d = (m, true) → m = (a * c + b * d, a * d + b * c - b * d) := by
    intro a b c d m h
    unfold mulG at h
    split at h
    · exact (okG_fst h).1
    · cases h
  have e1 := key h1
  have e2 := key h2
  have e3 := key h3
  have e4 : z = (u.1 + v.1, u.2 + v.2) := by
    unfold addG at h4
    split at h4
    · exact (okG_fst h4).1
    · cases h4
  rw [e4, e1, e2, e3]
  simp only [Int.add_mul]
  congr 1 <;> omega
end Go.Proofs.Ytobgcjgjfaegcaa
