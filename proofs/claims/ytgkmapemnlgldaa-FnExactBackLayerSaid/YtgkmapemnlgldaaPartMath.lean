/- How many positions there are: the parts of a number, by its bits; a list in order; of no program. -/
import Derived.Test.YtgkmapemnlgldaaReachMath
namespace Go.Proofs.Ytgkmapemnlgldaa
set_option linter.unusedVariables false
/-- All parts of z below 2^n. -/
def partsL : Nat → Nat → List Nat
  | 0, _ => [0]
  | n + 1, z => if bit z n = true then partsL n z ++ (partsL n z).map (· + 2 ^ n) else partsL n z
theorem parts_len (z : Nat) : ∀ n, (partsL n z).length = 2 ^ pc n z
  | 0 => rfl
  | n + 1 => by
    rw [pc_next]
    unfold partsL
    cases h : bit z n
    · simp [parts_len z n]
    · simp only [if_true, List.length_append, List.length_map, parts_len z n, Bool.toNat_true, Nat.pow_succ]; omega
theorem low_bit {q n : Nat} (h : q < 2 ^ (n + 1)) (hb : bit q n = false) : q < 2 ^ n := by
  unfold bit at hb
  have h1 : q / 2 ^ n < 2 := Nat.div_lt_of_lt_mul (by rw [Nat.pow_succ] at h; omega)
  have h2 : q / 2 ^ n % 2 ≠ 1 := of_decide_eq_false hb
  have h3 : q / 2 ^ n = 0 := by
    generalize q / 2 ^ n = x at h1 h2
    omega
  rcases Nat.div_eq_zero_iff.1 h3 with h4 | h4
  · have := Nat.two_pow_pos n; omega
  · exact h4
theorem mem_parts {z : Nat} : ∀ n q, Part q z → q < 2 ^ n → q ∈ partsL n z
  | 0, q, _, hl => by
    have : q = 0 := by simpa using hl
    subst this; simp [partsL]
  | n + 1, q, hp, hl => by
    unfold partsL
    cases hq : bit q n
    · have := mem_parts n q hp (low_bit hl hq)
      split
      · exact List.mem_append_left _ this
      · exact this
    · rw [if_pos (hp.bit hq)]
      have hd := drop_yes hq
      refine List.mem_append_right _ (List.mem_map.2 ⟨dropB q n, mem_parts n _ (part_drop hp) ?_, hd⟩)
      rw [Nat.pow_succ] at hl; omega
theorem parts_fit {z N : Nat} {T : List Nat} (hn : T.Nodup) (hz : z < 2 ^ N) (hN : N ≤ 49) (hp : ∀ q ∈ T, Part q z) : T.length ≤ 2 ^ pc 49 z := by
  rw [← parts_len]
  refine nodup_len T _ hn fun q hq => mem_parts 49 q (hp q hq) (part_lt (hp q hq) (Nat.lt_of_lt_of_le hz (Nat.pow_le_pow_right (by decide) hN)))
/-- The ints of a list of numbers in order are those of the numbers in order. -/
theorem sort_nats {T L : List Nat} (hT : T.Nodup) (hL : L.Pairwise (· < ·)) (hm : ∀ q, q ∈ T ↔ q ∈ L) : (List.map (fun (q : Nat) => (q : Int)) T).mergeSort (fun x y => decide (x ≤ y)) = List.map (fun (q : Nat) => (q : Int)) L := by
  have hLn : L.Nodup := hL.imp (fun h => Nat.ne_of_lt h)
  have hp : T.Perm L := (List.perm_ext_iff_of_nodup hT hLn).2 hm
  have h1 : ((List.map (fun (q : Nat) => (q : Int)) T).mergeSort (fun x y => decide (x ≤ y))).Perm (List.map (fun (q : Nat) => (q : Int)) L) := (List.mergeSort_perm _ _).trans (hp.map _)
  refine h1.eq_of_pairwise (le := fun x y => x ≤ y) (fun a b _ _ h h' => by omega) ?_ ?_
  · have := List.pairwise_mergeSort (le := fun (x y : Int) => decide (x ≤ y)) (fun a b c h h' => by simp only [decide_eq_true_eq] at *; omega) (fun a b => by simp only [Bool.or_eq_true, decide_eq_true_eq]; omega) (List.map (fun (q : Nat) => (q : Int)) T)
    exact this.imp (fun h => of_decide_eq_true h)
  · exact List.Pairwise.map _ (fun a b h => by omega) hL
end Go.Proofs.Ytgkmapemnlgldaa
