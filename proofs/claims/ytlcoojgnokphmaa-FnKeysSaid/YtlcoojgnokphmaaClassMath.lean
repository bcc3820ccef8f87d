/- Classes and keys in numbers: six parities, four differences; what a jump does to them. Of no program. -/
import Derived.Test.YtlcoojgnokphmaaPegsAll
import Derived.Test.YtlcoojgnokphmaaJumps
namespace Go.Proofs.Ytlcoojgnokphmaa
/-- The two elements of a class that a peg at place k of a grid W wide changes. -/
def r1 (W k : Nat) : Nat := (k % W + k / W) % 3
def r2 (W k : Nat) : Nat := 3 + (k % W + 2 * (k / W)) % 3
def hitC (W k j : Nat) : Bool := decide (r1 W k = j) || decide (r2 W k = j)
theorem r1_lt (W k : Nat) : r1 W k < 3 := Nat.mod_lt _ (by decide)
theorem r2_lt (W k : Nat) : r2 W k < 6 := by have := Nat.mod_lt (k % W + 2 * (k / W)) (show 3 > 0 by decide); unfold r2; omega
theorem r2_le (W k : Nat) : 3 ≤ r2 W k := by unfold r2; omega
/-- Whether an odd number of the pegs of a list changes element j. -/
def parC (W : Nat) (l : List Nat) (j : Nat) : Bool := l.foldl (fun b k => b ^^ hitC W k j) false
theorem parC_snoc (W : Nat) (l : List Nat) (k j : Nat) : parC W (l ++ [k]) j = (parC W l j ^^ hitC W k j) := by simp [parC]
/-- The class of a list of pegs. -/
def clsL (W : Nat) (l : List Nat) : List Nat := (List.range 6).map fun j => (parC W l j).toNat
theorem clsL_nil (W : Nat) : clsL W [] = [0, 0, 0, 0, 0, 0] := rfl
theorem clsL_length (W : Nat) (l : List Nat) : (clsL W l).length = 6 := by simp [clsL]
theorem clsL_get (W : Nat) (l : List Nat) {j : Nat} (h : j < 6) : (clsL W l)[j]? = some (parC W l j).toNat := by simp [clsL, h]
theorem clsL_six (W : Nat) (l : List Nat) : clsL W l = [(parC W l 0).toNat, (parC W l 1).toNat, (parC W l 2).toNat, (parC W l 3).toNat, (parC W l 4).toNat, (parC W l 5).toNat] := rfl
theorem xor_true_nat (b : Bool) : (b ^^ true).toNat = 1 - b.toNat := by cases b <;> rfl
/-- One peg more. -/
theorem clsL_snoc (W : Nat) (l : List Nat) (k : Nat) : clsL W (l ++ [k]) = ((clsL W l).set (r1 W k) (1 - (parC W l (r1 W k)).toNat)).set (r2 W k) (1 - (parC W l (r2 W k)).toNat) := by
  have a1 := r1_lt W k; have a2 := r2_lt W k; have a3 := r2_le W k
  apply List.ext_getElem?
  intro j
  by_cases hj : j < 6
  · rw [clsL_get W _ hj, parC_snoc, List.getElem?_set, List.getElem?_set]
    simp only [List.length_set, clsL_length]
    by_cases h2 : r2 W k = j
    · subst h2
      rw [if_pos rfl, if_pos hj, show hitC W k (r2 W k) = true by simp [hitC], xor_true_nat]
    · rw [if_neg h2]
      by_cases h1 : r1 W k = j
      · subst h1
        rw [if_pos rfl, if_pos hj, show hitC W k (r1 W k) = true by simp [hitC], xor_true_nat]
      · rw [if_neg h1, clsL_get W _ hj, show hitC W k j = false by simp [hitC, h1, h2], Bool.xor_false]
  · rw [List.getElem?_eq_none (by rw [clsL_length]; omega), List.getElem?_eq_none (by rw [List.length_set, List.length_set, clsL_length]; omega)]
theorem clsL_snoc2 (W : Nat) (l : List Nat) (k : Nat) {i j u v : Nat} (h1 : r1 W k = i) (h2 : r2 W k = j) (hu : (parC W l i).toNat = u) (hv : (parC W l j).toNat = v) : clsL W (l ++ [k]) = ((clsL W l).set i (1 - u)).set j (1 - v) := by
  subst h1 h2 hu hv
  exact clsL_snoc W l k
/-- The class of a position: the pegs below n. -/
def clsN (W n p : Nat) : List Nat := clsL W (bitsOf n p)
theorem clsN_yes {W n p : Nat} (h : bit p n = true) {i j u v : Nat} (h1 : r1 W n = i) (h2 : r2 W n = j) (hu : (parC W (bitsOf n p) i).toNat = u) (hv : (parC W (bitsOf n p) j).toNat = v) : clsN W (n + 1) p = ((clsN W n p).set i (1 - u)).set j (1 - v) := by
  unfold clsN; rw [bitsOf_yes h]; exact clsL_snoc2 W _ n h1 h2 hu hv
theorem clsN_no {W n p : Nat} (h : bit p n = false) : clsN W (n + 1) p = clsN W n p := by unfold clsN; rw [bitsOf_no h]
theorem toNat_le (b : Bool) : b.toNat ≤ 1 := by cases b <;> decide
/-- 1 if two numbers differ, 0 if not. -/
def dif (a b : Nat) : Nat := if a = b then 0 else 1
theorem dif_le (a b : Nat) : dif a b ≤ 1 := by unfold dif; split <;> omega
theorem dif_bool (a b : Bool) : dif a.toNat b.toNat = (a ^^ b).toNat := by cases a <;> cases b <;> rfl
/-- The key of a class. -/
def keyL (c : List Nat) : List Nat := [dif (c.getD 0 0) (c.getD 1 0), dif (c.getD 1 0) (c.getD 2 0), dif (c.getD 3 0) (c.getD 4 0), dif (c.getD 4 0) (c.getD 5 0)]
theorem keyL_six (a b c d e f : Nat) : keyL [a, b, c, d, e, f] = [dif a b, dif b c, dif d e, dif e f] := rfl
def numL (k : List Nat) : Nat := k.getD 0 0 + 2 * k.getD 1 0 + 4 * k.getD 2 0 + 8 * k.getD 3 0
theorem numL_four (a b c d : Nat) : numL [a, b, c, d] = a + 2 * b + 4 * c + 8 * d := rfl
/-- Two keys have one number just if they are the same. -/
theorem num_eq {a b c d a' b' c' d' : Nat} (h1 : a ≤ 1) (h2 : b ≤ 1) (h3 : c ≤ 1) (h1' : a' ≤ 1) (h2' : b' ≤ 1) (h3' : c' ≤ 1) :
    (a + 2 * b + 4 * c + 8 * d = a' + 2 * b' + 4 * c' + 8 * d') ↔ (a = a' ∧ b = b' ∧ c = c' ∧ d = d') := by omega

/-! what a jump does to a class -/
/-- The parity over all bits below n, by a sum that is linear in the position. -/
def parN (W : Nat) (f : Nat → Bool) (j : Nat) : Nat → Bool
  | 0 => false
  | n + 1 => parN W f j n ^^ (f n && hitC W n j)
theorem parN_bits (W p j : Nat) : ∀ n, parC W (bitsOf n p) j = parN W (bit p) j n
  | 0 => rfl
  | n + 1 => by
    cases h : bit p n
    · rw [bitsOf_no h, parN_bits W p j n, parN, h]; simp
    · rw [bitsOf_yes h, parC_snoc, parN_bits W p j n, parN, h]; simp
theorem parN_xor (W : Nat) (f g : Nat → Bool) (j : Nat) : ∀ n, parN W (fun k => f k ^^ g k) j n = (parN W f j n ^^ parN W g j n)
  | 0 => rfl
  | n + 1 => by
    rw [parN, parN, parN, parN_xor W f g j n]
    cases parN W f j n <;> cases parN W g j n <;> cases f n <;> cases g n <;> cases hitC W n j <;> rfl
theorem parN_same (W : Nat) {f g : Nat → Bool} (h : ∀ k, f k = g k) (j n : Nat) : parN W f j n = parN W g j n := by rw [show f = g from funext h]
theorem parN_one (W a j : Nat) : ∀ n, parN W (fun k => decide (a = k)) j n = (decide (a < n) && hitC W a j)
  | 0 => by simp [parN]
  | n + 1 => by
    rw [parN, parN_one W a j n]
    by_cases h : a = n
    · subst h; simp
    · rw [decide_eq_false h, show decide (a < n + 1) = decide (a < n) by rw [decide_eq_decide]; omega]; simp
/-- Each element of the class turns at a jump whose three holes have three remainders. -/
theorem parC_flip {W n p f o t : Nat} (h1 : f ≠ o) (h2 : f ≠ t) (h3 : o ≠ t) (hf : f < n) (ho : o < n) (ht : t < n) (j : Nat)
    (hj : (hitC W f j ^^ hitC W o j ^^ hitC W t j) = true) : parC W (bitsOf n (flipN p f o t)) j = !parC W (bitsOf n p) j := by
  rw [parN_bits, parN_bits]
  have e : ∀ k, bit (flipN p f o t) k = (bit p k ^^ (decide (f = k) ^^ (decide (o = k) ^^ decide (t = k)))) := fun k => by
    rw [bit_flip]
    by_cases k1 : f = k
    · subst k1; simp [h1.symm, h2.symm]
    · by_cases k2 : o = k
      · subst k2; simp [k1, h3.symm]
      · simp [k1, k2]
  rw [parN_same W e, parN_xor W (bit p), parN_xor W (fun k => decide (f = k)), parN_xor W (fun k => decide (o = k)), parN_one, parN_one, parN_one]
  simp only [hf, ho, ht, decide_true, Bool.true_and]
  rw [← Bool.xor_assoc (hitC W f j), hj, Bool.xor_true]
/-- Three places in a row have three remainders. -/
theorem hit_line {W f o t j : Nat} (hj : j < 6)
    (h : (∃ x y, (f % W = x ∧ f / W = y) ∧ ((o % W = x + 1 ∧ o / W = y) ∧ (t % W = x + 2 ∧ t / W = y) ∨ (o % W = x ∧ o / W = y + 1) ∧ (t % W = x ∧ t / W = y + 2))) ∨
         (∃ x y, (t % W = x ∧ t / W = y) ∧ ((o % W = x + 1 ∧ o / W = y) ∧ (f % W = x + 2 ∧ f / W = y) ∨ (o % W = x ∧ o / W = y + 1) ∧ (f % W = x ∧ f / W = y + 2)))) :
    (hitC W f j ^^ hitC W o j ^^ hitC W t j) = true := by
  have key : ∀ a b c a' b' c' : Nat, a < 3 → b < 3 → c < 3 → a' < 6 → b' < 6 → c' < 6 → 3 ≤ a' → 3 ≤ b' → 3 ≤ c' → a ≠ b → b ≠ c → a ≠ c → a' ≠ b' → b' ≠ c' → a' ≠ c' →
      ((decide (a = j) || decide (a' = j)) ^^ (decide (b = j) || decide (b' = j)) ^^ (decide (c = j) || decide (c' = j))) = true := by
    intro a b c a' b' c' _ _ _ _ _ _ _ _ _ _ _ _ _ _ _
    by_cases x1 : a = j <;> by_cases x2 : b = j <;> by_cases x3 : c = j <;> by_cases y1 : a' = j <;> by_cases y2 : b' = j <;> by_cases y3 : c' = j <;> simp only [x1, x2, x3, y1, y2, y3, decide_true, decide_false, Bool.or_true, Bool.or_false] <;> first | rfl | (exfalso; omega)
  unfold hitC
  refine key _ _ _ _ _ _ (r1_lt W f) (r1_lt W o) (r1_lt W t) (r2_lt W f) (r2_lt W o) (r2_lt W t) (r2_le W f) (r2_le W o) (r2_le W t) ?_ ?_ ?_ ?_ ?_ ?_ <;>
  · simp only [r1, r2]
    rcases h with ⟨x, y, ⟨e1, e2⟩, ⟨⟨e3, e4⟩, e5, e6⟩ | ⟨⟨e3, e4⟩, e5, e6⟩⟩ | ⟨x, y, ⟨e1, e2⟩, ⟨⟨e3, e4⟩, e5, e6⟩ | ⟨⟨e3, e4⟩, e5, e6⟩⟩ <;> simp only [e1, e2, e3, e4, e5, e6] <;> omega
end Go.Proofs.Ytlcoojgnokphmaa
