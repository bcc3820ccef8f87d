/- Complements in numbers: the holes of a board that a position leaves open; a game turned leads from the complement of its end to that of its start. Of no program. -/
import Derived.Test.YtkenlighpelhiaaGreatGames
namespace Go.Proofs.YtkenlighpelhiaaGreat
set_option linter.unusedVariables false
set_option linter.unusedSimpArgs false
/-- The holes of z that are not in p, as a sum. -/
def compN (z p : Nat) : Nat := z ^^^ (z &&& p)
theorem bit_comp (z p k : Nat) : bit (compN z p) k = (bit z k && !bit p k) := by
  rw [compN, bit_xor, bit_and]
  cases bit z k <;> cases bit p k <;> rfl
theorem part_comp (z p : Nat) : Part (compN z p) z := part_of fun k h => by
  rw [bit_comp] at h
  simp only [Bool.and_eq_true] at h
  exact h.1
theorem comp_comp {p z : Nat} (h : Part p z) : compN z (compN z p) = p := eq_of_bits fun k => by
  rw [bit_comp, bit_comp]
  cases hp : bit p k
  · simp
  · rw [h.bit hp]; rfl
theorem comp_add {p z : Nat} (h : Part p z) : compN z p + p = z := by
  have key : ∀ n, powSum (bitsOf n (compN z p)) + powSum (bitsOf n p) = powSum (bitsOf n z) := by
    intro n
    induction n with
    | zero => rfl
    | succ n ih =>
      rw [bitsOf_succ, bitsOf_succ, bitsOf_succ, powSum_append, powSum_append, powSum_append, bit_comp]
      cases hp : bit p n
      · cases hz : bit z n
        · simp [powSum]; simp [powSum] at ih; omega
        · simp [powSum]; simp [powSum] at ih; omega
      · rw [h.bit hp]; simp [powSum]; simp [powSum] at ih; omega
  have h1 := (part_comp z p).le
  have h2 := h.le
  have hz : z < 2 ^ z := Nat.lt_two_pow_self
  have := key z
  rwa [powSum_all (Nat.lt_of_le_of_lt h1 hz), powSum_all (Nat.lt_of_le_of_lt h2 hz), powSum_all hz] at this
theorem pc_comp {p z : Nat} (h : Part p z) : ∀ n, pc n (compN z p) + pc n p = pc n z
  | 0 => rfl
  | n + 1 => by
    rw [pc_next, pc_next, pc_next, bit_comp]
    have ih := pc_comp h n
    cases hp : bit p n
    · cases hz : bit z n
      · simp; omega
      · simp; omega
    · rw [h.bit hp]; simp; omega
theorem flip_comp {z p f o t : Nat} (hf : bit z f = true) (ho : bit z o = true) (ht : bit z t = true) : flipN (compN z (flipN p f o t)) f o t = compN z p := eq_of_bits fun j => by
  rw [bit_flip, bit_comp, bit_comp, bit_flip]
  by_cases j1 : f = j
  · subst j1; simp [hf]
  · by_cases j2 : o = j
    · subst j2; simp [ho]
    · by_cases j3 : t = j
      · subst j3; simp [ht]
      · simp [j1, j2, j3]
theorem bef_comp {z p f o t : Nat} (hf : bit z f = true) (ho : bit z o = true) (ht : bit z t = true) (h : befN p f o t = true) : befN (compN z (flipN p f o t)) f o t = true := by
  simp only [befN, Bool.and_eq_true, Bool.not_eq_true'] at h
  simp [befN, bit_comp, bit_flip, hf, ho, ht, h.1.1, h.1.2, h.2]
/-- The complement of a position; -1 if it is none. -/
def otherB (W H Z P : Int) : Int := if posB W H Z P = true then Z - P else -1
theorem other_no {W H Z P : Int} (h : posB W H Z P = false) : otherB W H Z P = -1 := by simp [otherB, h]
theorem other_nat {W H : Int} {N z p : Nat} (ho : Ok W H N z) (hp : Part p z) : otherB W H z p = (compN z p : Nat) := by
  have := comp_add hp
  unfold otherB
  rw [if_pos (pos_of ho hp)]
  omega
theorem other_big (W H Z P : Int) : otherB W H Z P ≤ 9223372036854775807 := by
  cases h : posB W H Z P
  · rw [other_no h]; omega
  · obtain ⟨N, z, p, rfl, rfl, ho, hp⟩ := pos_yes h
    rw [other_nat ho hp]
    have := (part_comp z p).le
    have := ho.big
    omega
theorem other_pos {W H Z P : Int} (h : posB W H Z P = true) : posB W H Z (otherB W H Z P) = true := by
  obtain ⟨N, z, p, rfl, rfl, ho, hp⟩ := pos_yes h
  rw [other_nat ho hp]
  exact pos_of ho (part_comp z p)
theorem other_other {W H Z P : Int} (h : posB W H Z P = true) : otherB W H Z (otherB W H Z P) = P := by
  obtain ⟨N, z, p, rfl, rfl, ho, hp⟩ := pos_yes h
  rw [other_nat ho hp, other_nat ho (part_comp z p), comp_comp hp]
/-- A jump backwards leads from the complement behind it to the complement before it. -/
theorem turn_step {W H Z P x : Int} {l : Ln} (h : jumpB W H Z P l = true) (hx : flipL P l = x) : doB W H Z (otherB W H Z x) l = (otherB W H Z P, true) := by
  subst hx
  obtain ⟨a, b, N, z, p, f, o, t, S, hbef⟩ := jump_set h
  obtain ⟨h1, h2, h3⟩ := jump_parts h
  have L := S.at'
  have hq := part_flip S.part L.bf L.bo L.bt
  have e1 : otherB W H Z (flipL P l) = (compN z (flipN p f o t) : Nat) := by rw [S.flip, S.eW, S.eH, S.eZ, other_nat S.ok hq]
  have e2 : otherB W H Z P = (compN z p : Nat) := by rw [S.eP, S.eW, S.eH, S.eZ, other_nat S.ok S.part]
  have S' : Set5 W H Z (compN z (flipN p f o t) : Nat) l a b N z (compN z (flipN p f o t)) f o t := ⟨S.eW, S.eH, S.eZ, rfl, S.ok, part_comp _ _, L⟩
  have hj : jumpB W H Z (compN z (flipN p f o t) : Nat) l = true := by
    have hp : posB W H Z (compN z (flipN p f o t) : Nat) = true := by rw [S.eW, S.eH, S.eZ]; exact pos_of S.ok (part_comp _ _)
    simp only [jumpB, hp, h2, S'.bef, bef_comp L.bf L.bo L.bt hbef]; rfl
  rw [e1, e2, do_yes hj, S'.flip, flip_comp L.bf L.bo L.bt]
theorem turn_run {W H Z P q : Int} {xs : List Ln} (h : runO (doB W H Z) P xs = some q) : runO (doB W H Z) (otherB W H Z q) xs.reverse = some (otherB W H Z P) := by
  induction xs generalizing P with
  | nil =>
    obtain rfl := Option.some.inj ((runO_nil _ P).symm.trans h)
    rfl
  | cons l xs ih =>
    obtain ⟨hj, h2⟩ := run_step h
    rw [List.reverse_cons, runO_snoc, ih h2]
    simp [stO, turn_step hj rfl]
/-- Whether a game of a position is one from the complement of its end, turned. -/
def canB (W H Z P : Int) (xs : List Ln) : Bool := (playB W H Z P xs).2 && solB W H Z (otherB W H Z (playB W H Z P xs).1) (otherB W H Z P) xs.reverse
theorem turn_sol {W H Z P q : Int} {xs : List Ln} (hp : posB W H Z q = true) (hn : xs.length ≤ 60) (h : runO (doB W H Z) P xs = some q) : solB W H Z (otherB W H Z q) (otherB W H Z P) xs.reverse = true := by
  have h2 : playB W H Z (otherB W H Z q) xs.reverse = (otherB W H Z P, true) := allB_yes (other_pos hp) (by rw [List.length_reverse]; exact hn) (turn_run h)
  simp [solB, h2]
theorem can_yes {W H Z P q : Int} {xs : List Ln} (hp : posB W H Z P = true) (hn : xs.length ≤ 60) (h : runO (doB W H Z) P xs = some q) : canB W H Z P xs = true := by
  have h1 : playB W H Z P xs = (q, true) := allB_yes hp hn h
  simp [canB, h1, turn_sol (run_back hp h).1 hn h]
/-- Whether Q is the complement of P. -/
def complB (W H Z P Q : Int) : Bool := posB W H Z P && (Q == otherB W H Z P)
end Go.Proofs.YtkenlighpelhiaaGreat
