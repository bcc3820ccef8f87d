/- Jumps in numbers: the holes of a line as a sum, what a jump needs, what it makes. Of no program. -/
import Derived.Test.YtdlpfpeblaapdaaPegMath
import Derived.Test.YtdlpfpeblaapdaaLinesMath
namespace Go.Proofs.Ytdlpfpeblaapdaa
/-- The holes of a line as a sum. -/
def lineM (f o t : Nat) : Nat := 2 ^ f ||| 2 ^ o ||| 2 ^ t
def befN (p f o t : Nat) : Bool := bit p f && bit p o && !bit p t
def aftN (p f o t : Nat) : Bool := bit p t && !bit p f && !bit p o
/-- The position with each hole of a line changed. -/
def flipN (p f o t : Nat) : Nat := p ^^^ lineM f o t
theorem bit_line (f o t j : Nat) : bit (lineM f o t) j = (decide (f = j) || decide (o = j) || decide (t = j)) := by rw [lineM, bit_or, bit_or, bit_pow, bit_pow, bit_pow]
theorem bit_flip (p f o t j : Nat) : bit (flipN p f o t) j = (bit p j ^^ (decide (f = j) || decide (o = j) || decide (t = j))) := by rw [flipN, bit_xor, bit_line]
theorem and_bef {p f o t : Nat} (h1 : f ≠ o) (h2 : f ≠ t) (h3 : o ≠ t) : (p &&& lineM f o t == 2 ^ f ||| 2 ^ o) = befN p f o t := by
  have hb : ∀ j, bit (p &&& lineM f o t) j = (bit p j && (decide (f = j) || decide (o = j) || decide (t = j))) := fun j => by rw [bit_and, bit_line]
  have hc : ∀ j, bit (2 ^ f ||| 2 ^ o) j = (decide (f = j) || decide (o = j)) := fun j => by rw [bit_or, bit_pow, bit_pow]
  rw [Bool.eq_iff_iff, beq_iff_eq]
  constructor
  · intro e
    have ef := hb f; have eo := hb o; have et := hb t
    rw [e, hc] at ef eo et
    simp [h1, h2, h3, h1.symm, h2.symm, h3.symm] at ef eo et
    simp [befN, ef, eo, et]
  · intro e
    simp only [befN, Bool.and_eq_true, Bool.not_eq_true'] at e
    refine eq_of_bits fun j => ?_
    rw [hb, hc]
    by_cases j1 : f = j
    · subst j1; simp [e.1.1]
    · by_cases j2 : o = j
      · subst j2; simp [e.1.2]
      · by_cases j3 : t = j
        · subst j3; simp [e.2, h2, h3]
        · simp [j1, j2, j3]
theorem and_aft {p f o t : Nat} (h1 : f ≠ o) (h2 : f ≠ t) (h3 : o ≠ t) : (p &&& lineM f o t == 2 ^ t) = aftN p f o t := by
  have hb : ∀ j, bit (p &&& lineM f o t) j = (bit p j && (decide (f = j) || decide (o = j) || decide (t = j))) := fun j => by rw [bit_and, bit_line]
  rw [Bool.eq_iff_iff, beq_iff_eq]
  constructor
  · intro e
    have ef := hb f; have eo := hb o; have et := hb t
    rw [e, bit_pow] at ef eo et
    simp [h1, h2, h3, h1.symm, h2.symm, h3.symm] at ef eo et
    simp [aftN, ef, eo, ← et]
  · intro e
    simp only [aftN, Bool.and_eq_true, Bool.not_eq_true'] at e
    refine eq_of_bits fun j => ?_
    rw [hb, bit_pow]
    by_cases j1 : f = j
    · subst j1; simp [e.1.2, h2.symm]
    · by_cases j2 : o = j
      · subst j2; simp [e.2, h3.symm]
      · by_cases j3 : t = j
        · subst j3; simp [e.1.1]
        · simp [j1, j2, j3]
theorem flip_flip (p f o t : Nat) : flipN (flipN p f o t) f o t = p := eq_of_bits fun j => by
  rw [bit_flip, bit_flip]
  cases bit p j <;> cases (decide (f = j) || decide (o = j) || decide (t = j)) <;> rfl
theorem part_flip {p z f o t : Nat} (h : Part p z) (hf : bit z f = true) (ho : bit z o = true) (ht : bit z t = true) : Part (flipN p f o t) z := part_of fun j hj => by
  rw [bit_flip] at hj
  by_cases j1 : f = j
  · subst j1; exact hf
  · by_cases j2 : o = j
    · subst j2; exact ho
    · by_cases j3 : t = j
      · subst j3; exact ht
      · simp [j1, j2, j3] at hj; exact h.bit hj
theorem aft_flip {p f o t : Nat} (h : befN p f o t = true) : aftN (flipN p f o t) f o t = true := by
  simp only [befN, Bool.and_eq_true, Bool.not_eq_true'] at h
  simp [aftN, bit_flip, h.1.1, h.1.2, h.2]
theorem bef_flip {p f o t : Nat} (h : aftN p f o t = true) : befN (flipN p f o t) f o t = true := by
  simp only [aftN, Bool.and_eq_true, Bool.not_eq_true'] at h
  simp [befN, bit_flip, h.1.1, h.1.2, h.2]
theorem not_aft {p f o t : Nat} (h : befN p f o t = true) : aftN p f o t = false := by
  simp only [befN, Bool.and_eq_true, Bool.not_eq_true'] at h
  simp [aftN, h.2]
theorem pc_put {p k : Nat} (hb : bit p k = false) : ∀ n, k < n → pc n (putB p k) = pc n p + 1 := by
  have low : ∀ n, n ≤ k → pc n (putB p k) = pc n p := by
    intro n
    induction n with
    | zero => intro _; rfl
    | succ n ih =>
      intro hn
      rw [pc_next, pc_next, ih (by omega), bit_put]
      simp [show ¬ k = n by omega]
  intro n
  induction n with
  | zero => intro h; omega
  | succ n ih =>
    intro hn
    rw [pc_next, pc_next, bit_put]
    by_cases e : k = n
    · subst e; rw [low k (Nat.le_refl _), hb]; simp
    · rw [ih (by omega)]; simp [e]; omega
theorem pc_drop {p k n : Nat} (hb : bit p k = true) (hn : k < n) : pc n (dropB p k) + 1 = pc n p := by
  have h := pc_put (p := dropB p k) (k := k) (by rw [bit_drop]; simp) n hn
  rw [put_drop, put_yes hb] at h
  exact h.symm
/-- A jump removes one peg. -/
theorem pc_flip {p f o t n : Nat} (h1 : f ≠ o) (h2 : f ≠ t) (h3 : o ≠ t) (hf : f < n) (ho : o < n) (ht : t < n) (h : befN p f o t = true) : pc n (flipN p f o t) + 1 = pc n p := by
  simp only [befN, Bool.and_eq_true, Bool.not_eq_true'] at h
  have e : flipN p f o t = putB (dropB (dropB p f) o) t := eq_of_bits fun j => by
    rw [bit_flip, bit_put, bit_drop, bit_drop]
    by_cases j1 : f = j
    · subst j1; simp [h.1.1, h2.symm]
    · by_cases j2 : o = j
      · subst j2; simp [h.1.2, h3.symm]
      · by_cases j3 : t = j
        · subst j3; simp [h.2]
        · simp [j1, j2, j3]
  have a1 := pc_drop h.1.1 hf
  have a2 := pc_drop (p := dropB p f) (k := o) (n := n) (by rw [bit_drop]; simp [h.1.2, h1]) ho
  have a3 := pc_put (p := dropB (dropB p f) o) (k := t) (by rw [bit_drop, bit_drop]; simp [h.2]) n ht
  rw [e]
  omega

/-! lines as triples of integers -/
def befL (P : Int) (l : Ln) : Bool := befN P.toNat l.1.toNat l.2.1.toNat l.2.2.toNat
def aftL (P : Int) (l : Ln) : Bool := aftN P.toNat l.1.toNat l.2.1.toNat l.2.2.toNat
def flipL (P : Int) (l : Ln) : Int := (flipN P.toNat l.1.toNat l.2.1.toNat l.2.2.toNat : Nat)
/-- What is told of a line of a board. -/
structure LnAt (a b z : Nat) (l : Ln) (f o t : Nat) : Prop where
  eq : l = ((f : Int), (o : Int), (t : Int))
  fN : f < a * b
  oN : o < a * b
  tN : t < a * b
  fo : f ≠ o
  ft : f ≠ t
  ot : o ≠ t
  bf : bit z f = true
  bo : bit z o = true
  bt : bit z t = true
theorem isLine.at {a b z : Nat} {l : Ln} (ha : 0 < a) (h : isLine a b z l) : ∃ f o t, LnAt a b z l f o t := by
  obtain ⟨-, m1, m2, m3⟩ := h.mid ha
  obtain ⟨k, o, t, d, hd, hk, hz, h1, h2, rfl⟩ := h
  have ho := stepN_lt ha hk h1
  simp only at m1 m2 m3
  exact ⟨k, o, t, rfl, hk, ho, stepN_lt ha ho h2, by omega, by omega, by omega, hz, (stepN_some h1).2, (stepN_some h2).2⟩
theorem mem_at {a b N z : Nat} (hN : a * b = N) (ha : 0 < a) {l : Ln} (h : l ∈ linesOf a b z (bitsOf N z)) : ∃ f o t, LnAt a b z l f o t := ((mem_lines hN).1 h).at ha
/-- A line is that between its ends. -/
theorem betw_is {a b N z : Nat} (hN : a * b = N) (ha : 0 < a) (l : Ln) : (betwL (linesOf a b z (bitsOf N z)) l.1 l.2.2 == some l) = (linesOf a b z (bitsOf N z)).contains l := by
  cases hc : (linesOf a b z (bitsOf N z)).contains l
  · rw [beq_eq_false_iff_ne]
    intro e
    have := List.mem_of_find?_eq_some e
    rw [← List.contains_iff_mem] at this
    rw [this] at hc; cases hc
  · rw [List.contains_iff_mem] at hc
    rw [betw_self hN ha hc]; simp
end Go.Proofs.Ytdlpfpeblaapdaa
