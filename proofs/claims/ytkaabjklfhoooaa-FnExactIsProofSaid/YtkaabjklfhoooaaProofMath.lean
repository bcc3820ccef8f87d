/- Proofs by weights as lists: the numbers of Fibonacci, lists over a grid, which weights prove that no game leads from one position to another, the first such list. Of no program. -/
import Derived.Test.YtkaabjklfhoooaaWeights
namespace Go.Proofs.Ytkaabjklfhoooaa
open Go.RowKit
set_option linter.unusedVariables false
set_option linter.unusedSimpArgs false
/-- Two neighboring numbers of Fibonacci. -/
def fibP : Nat → Int × Int
  | 0 => (0, 1)
  | k + 1 => ((fibP k).2, (fibP k).1 + (fibP k).2)
def fibN (n : Nat) : Int := (fibP n).1
theorem fibP_le : ∀ k : Fin 9, 0 ≤ (fibP k.val).1 ∧ (fibP k.val).1 ≤ 34 ∧ 0 ≤ (fibP k.val).2 ∧ (fibP k.val).2 ≤ 34 := by decide
theorem fib_le {k : Nat} (h : k ≤ 8) : 0 ≤ (fibP k).1 ∧ (fibP k).1 ≤ 34 ∧ 0 ≤ (fibP k).2 ∧ (fibP k).2 ≤ 34 := fibP_le ⟨k, by omega⟩
/-- The weight at x of the column or row p. -/
def nearW (x p : Nat) : Int := fibN (7 - max (x - p) (p - x))
/-- A list over a grid of N places in rows of a: for each index a number of its column and row. -/
def gridL (a N : Nat) (f : Nat → Nat → Int) : List Int := (List.range N).map fun k => f (k % a) (k / a)
theorem gridL_len (a N : Nat) (f : Nat → Nat → Int) : (gridL a N f).length = N := by simp [gridL]
theorem gridL_get {a N k : Nat} (f : Nat → Nat → Int) (hk : k < N) : (gridL a N f)[k]? = some (f (k % a) (k / a)) := by simp [gridL, hk]
def clsW (r x y : Nat) : Int := if (x + y) % 3 = r then 0 else 1
def colW (p x y : Nat) : Int := nearW x p
def rowW (p x y : Nat) : Int := nearW y p
/-- The list over the grid of a valid board by a number from 0 to m; else none. -/
def overL (W H Z R : Int) (m : Nat) (f : Nat → Nat → Nat → Int) : List Int := if okB W H Z && inB R 0 m then gridL W.toNat (W * H).toNat (f R.toNat) else []
theorem overL_no1 {W H Z R : Int} {m : Nat} {f : Nat → Nat → Nat → Int} (h : okB W H Z = false) : overL W H Z R m f = [] := by simp [overL, h]
theorem overL_no2 {W H Z R : Int} {m : Nat} {f : Nat → Nat → Nat → Int} (h : inB R 0 m = false) : overL W H Z R m f = [] := by simp [overL, h]
theorem overL_yes {a b N z r m : Nat} {f : Nat → Nat → Nat → Int} (h : Ok (a : Int) (b : Int) N z) (hr : r ≤ m) : overL a b z r m f = gridL a N (f r) := by
  have h1 : inB (r : Int) 0 m = true := by simp [inB]; omega
  have h2 := h.wh
  simp [overL, h.ok, h1, h2]
theorem overL_le (W H Z R : Int) (m : Nat) (f : Nat → Nat → Nat → Int) : (overL W H Z R m f).length ≤ 49 := by
  unfold overL
  cases h : okB W H Z
  · simp
  · obtain ⟨N, z, rfl, ho⟩ := ok_of h
    have h1 := ho.wh
    have h2 := ho.n49
    rw [h1]
    split
    · rw [gridL_len]; simpa using h2
    · simp
/-- The list at place j among those that are tried. -/
def tryL (W H Z : Int) (j : Nat) : List Int :=
  if j < 3 then overL W H Z j 2 clsW else if j < 10 then overL W H Z ((j - 3 : Nat) : Int) 6 colW else overL W H Z ((j - 10 : Nat) : Int) 6 rowW
theorem tryL_cls {W H Z : Int} {j : Nat} (h : j < 3) : tryL W H Z j = overL W H Z j 2 clsW := by simp [tryL, h]
theorem tryL_col {W H Z : Int} {j : Nat} (h : j < 7) : tryL W H Z (j + 3) = overL W H Z j 6 colW := by
  unfold tryL
  rw [if_neg (by omega), if_pos (by omega), show j + 3 - 3 = j by omega]
theorem tryL_row {W H Z : Int} {j : Nat} (h : j < 7) : tryL W H Z (j + 10) = overL W H Z j 6 rowW := by
  unfold tryL
  rw [if_neg (by omega), if_neg (by omega), show j + 10 - 10 = j by omega]
theorem tryL_le (W H Z : Int) (j : Nat) : (tryL W H Z j).length ≤ 49 := by
  unfold tryL
  split
  · exact overL_le ..
  · split <;> exact overL_le ..
/-- Weights that show that no game leads from P to G. -/
def proofB (W H Z : Int) (xs : List Int) (P G : Int) : Bool := fallB W H Z xs && posB W H Z P && posB W H Z G && decide (sumB W H Z xs P < sumB W H Z xs G)
/-- The first list that proves it, and true; else none, and false. -/
def findB (W H Z P G : Int) : List Int × Bool :=
  match (List.range 17).find? (fun j => proofB W H Z (tryL W H Z j) P G) with
  | some j => (tryL W H Z j, true)
  | none => ([], false)
theorem first_upto {n j : Nat} {f : Nat → Bool} (hj : j < n) (h : ∀ i, i < j → f i = false) (ht : f j = true) : (List.range n).find? f = some j := by
  rw [List.find?_eq_some_iff_getElem]
  refine ⟨ht, j, by simpa using hj, by simp, fun i hi => ?_⟩
  simp [h i hi]
theorem first_not {n : Nat} {f : Nat → Bool} (h : ∀ i, i < n → f i = false) : (List.range n).find? f = none := by
  rw [List.find?_eq_none]
  intro i hi
  simp [h i (List.mem_range.1 hi)]
theorem first_at {W H Z P G : Int} {j : Nat} (hj : j < 17) (h : ∀ i, i < j → proofB W H Z (tryL W H Z i) P G = false) (ht : proofB W H Z (tryL W H Z j) P G = true) : findB W H Z P G = (tryL W H Z j, true) := by
  unfold findB
  rw [first_upto hj h ht]
theorem first_no {W H Z P G : Int} (h : ∀ i, i < 17 → proofB W H Z (tryL W H Z i) P G = false) : findB W H Z P G = ([], false) := by
  unfold findB
  rw [first_not h]
theorem first_le (W H Z P G : Int) : (findB W H Z P G).1.length ≤ 49 := by
  unfold findB
  split
  · exact tryL_le ..
  · simp
end Go.Proofs.Ytkaabjklfhoooaa
