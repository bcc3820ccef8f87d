/- What the law of weights needs: sums over one or two pegs, over no peg, of the doubled weights; falling weights and their broken line. Of no program. -/
import Derived.Test.YtllfgdcplbfdhaaGreatWeights
namespace Go.Proofs.YtllfgdcplbfdhaaGreat
open Go.RowKit
theorem bnd_ok {W H : Int} {N z : Nat} (ho : Ok W H N z) {xs : List Int} (h : Bnd N 1000 xs) : wOkB W H z xs = true := by
  have h1 : xs.all inW = true := all_of fun k x hk => inW_iff.2 (h.2 k x hk)
  simp [wOkB, wtsB, ho.ok, ho.wh, h.1, h1]
theorem sumTo_next (xs : List Int) (p k : Nat) : sumTo xs p (k + 1) = sumTo xs p k + (if bit p k then wAt xs k else 0) := rfl
theorem sumTo_put (xs : List Int) (p j : Nat) (hj : bit p j = false) : ∀ k, sumTo xs (putB p j) k = sumTo xs p k + (if j < k then wAt xs j else 0)
  | 0 => by simp [sumTo]
  | k + 1 => by
    rw [sumTo_next, sumTo_next, sumTo_put xs p j hj k, bit_put]
    by_cases e : j = k
    · subst e
      rw [hj]
      simp
    · by_cases h : j < k
      · rw [if_pos h, if_pos (show j < k + 1 by omega), decide_eq_false e, Bool.or_false]; omega
      · rw [if_neg h, if_neg (show ¬ j < k + 1 by omega), decide_eq_false e, Bool.or_false]; omega
theorem bit_zero' (k : Nat) : bit 0 k = false := by simp [bit]
theorem sumTo_zero (xs : List Int) : ∀ k, sumTo xs 0 k = 0
  | 0 => rfl
  | k + 1 => by rw [sumTo_next, sumTo_zero xs k, bit_zero']; rfl
theorem put_zero (j : Nat) : putB 0 j = 2 ^ j := by rw [put_no (bit_zero' j), Nat.zero_add]
theorem sumTo_one (xs : List Int) {j k : Nat} (h : j < k) : sumTo xs (2 ^ j) k = wAt xs j := by
  rw [← put_zero, sumTo_put xs 0 j (bit_zero' j), sumTo_zero, if_pos h, Int.zero_add]
theorem bit_pow_ne {i j : Nat} (h : i ≠ j) : bit (2 ^ i) j = false := by rw [bit_pow, decide_eq_false h]
theorem sumTo_two (xs : List Int) {i j k : Nat} (hi : i < k) (hj : j < k) (h : i ≠ j) : sumTo xs (2 ^ i + 2 ^ j) k = wAt xs i + wAt xs j := by
  rw [← put_no (bit_pow_ne h), sumTo_put xs _ j (bit_pow_ne h), sumTo_one xs hi, if_pos hj]
theorem part_two {z i j : Nat} (hi : bit z i = true) (hj : bit z j = true) (h : i ≠ j) : Part (2 ^ i + 2 ^ j) z := by
  rw [← put_no (bit_pow_ne h)]
  exact part_put (part_pow hi) hj
theorem wAt_add {xs : List Int} (k : Nat) : wAt (addL xs xs) k = 2 * wAt xs k := by
  unfold wAt addL
  simp only [List.getD, List.getElem?_zipWith]
  cases xs[k]? with
  | none => rfl
  | some x => show x + x = 2 * x; omega
theorem sumTo_double (xs : List Int) (p : Nat) : ∀ k, sumTo (addL xs xs) p k = 2 * sumTo xs p k
  | 0 => rfl
  | k + 1 => by
    rw [sumTo_next, sumTo_next, sumTo_double xs p k, wAt_add]
    split <;> omega
theorem loss_double (xs : List Int) (l : Ln) : lossL (addL xs xs) l = 2 * lossL xs l := by
  unfold lossL
  rw [wAt_add, wAt_add, wAt_add]
  omega
theorem bad_double (xs : List Int) : badL (addL xs xs) = badL xs := by
  funext l
  unfold badL
  rw [loss_double]
  by_cases h : lossL xs l < 0
  · rw [decide_eq_true h, decide_eq_true (by omega)]
  · rw [decide_eq_false h, decide_eq_false (by omega)]
theorem fall_double {W H Z : Int} {xs : List Int} (h : wOkB W H Z xs = true) (h2 : wOkB W H Z (addL xs xs) = true) : fallB W H Z (addL xs xs) = fallB W H Z xs := by
  unfold fallB brkL
  rw [h, h2, bad_double]
/-- What the model's list tells of a line at an index. -/
theorem loss_is {W H Z : Int} {xs : List Int} (h : wOkB W H Z xs = true) {l : Ln} (hl : l ∈ lnsOf W H Z) : lossB W H Z xs l = lossL xs l := by
  unfold lossB
  rw [h, List.contains_iff_mem.2 hl]; rfl
theorem fall_loss {W H Z : Int} {xs : List Int} (h : fallB W H Z xs = true) {l : Ln} (hl : l ∈ lnsOf W H Z) : 0 ≤ lossL xs l := by
  unfold fallB at h
  rw [Bool.and_eq_true] at h
  unfold brkL at h
  rw [h.1, if_pos rfl, Option.isNone_iff_eq_none, List.find?_eq_none] at h
  have := h.2 l hl
  unfold badL at this
  simpa using this
theorem brk_loss {W H Z : Int} {xs : List Int} {l : Ln} (h : brkL W H Z xs = some l) : lossB W H Z xs l < 0 := by
  unfold brkL at h
  split at h
  · rename_i hw
    rw [loss_is hw (List.mem_of_find?_eq_some h)]
    have := List.find?_some h
    unfold badL at this
    simpa using this
  · cases h
theorem fall_brk {W H Z : Int} {xs : List Int} (h : wOkB W H Z xs = true) : fallB W H Z xs = (brkL W H Z xs).isNone := by unfold fallB; rw [h]; rfl
theorem sum_nat {W H : Int} {N z p : Nat} (ho : Ok W H N z) {xs : List Int} (h : Bnd N 1000 xs) (hp : Part p z) : sumB W H z xs p = sumTo xs p N := by
  unfold sumB
  rw [bnd_ok ho h, pos_of ho hp, h.1]
  rfl
end Go.Proofs.YtllfgdcplbfdhaaGreat
