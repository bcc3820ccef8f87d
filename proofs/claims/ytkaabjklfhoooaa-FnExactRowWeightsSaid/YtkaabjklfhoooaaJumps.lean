/- Jumps in numbers: the holes of a line as a sum, what a jump needs, what it makes. Of no program. A line of a board and its pegs: hasLine, isBeforeJump, isAfterJump, flipLine of the program, l05Is and l05Bits of the model. Whether a line is one of a board: hasLine of the program, l05Is of the model. -/
import Derived.Test.YtkaabjklfhoooaaPegsAll
import Derived.Test.YtkaabjklfhoooaaLinesAll
namespace Go.Proofs.Ytkaabjklfhoooaa
/-- The holes of a line as a sum. -/
def lineM (f o t : Nat) : Nat := 2 ^ f ||| 2 ^ o ||| 2 ^ t
def befN (p f o t : Nat) : Bool := bit p f && bit p o && !bit p t
def aftN (p f o t : Nat) : Bool := bit p t && !bit p f && !bit p o
/-- The position with each hole of a line changed. -/
def flipN (p f o t : Nat) : Nat := p ^^^ lineM f o t
theorem bit_line (f o t j : Nat) : bit (lineM f o t) j = (decide (f = j) || decide (o = j) || decide (t = j)) := by rw [lineM, bit_or, bit_or, bit_pow, bit_pow, bit_pow]
theorem bit_flip (p f o t j : Nat) : bit (flipN p f o t) j = (bit p j ^^ (decide (f = j) || decide (o = j) || decide (t = j))) := by rw [flipN, bit_xor, bit_line]
theorem and_bef {p f o t : Nat} (h1 : f ≠ o) (h2 : f ≠ t) (h3 : o ≠ t) : (p &&& lineM f o t == 2 ^ f ||| 2 ^ o) = befN p f o t := by
  have hb : ∀ j, bit (p &&& lineM f o t) j = (bit p j && (decide (f = j) || decide (o = j) || decide (t = j))) := fun j => by rw [bit_and, bit_line]
  have hc : ∀ j, bit (2 ^ f ||| 2 ^ o) j = (decide (f = j) || decide (o = j)) := fun j => by rw [bit_or, bit_pow, bit_pow]
  rw [Bool.eq_iff_iff, beq_iff_eq]
  constructor
  · intro e
    have ef := hb f; have eo := hb o; have et := hb t
    rw [e, hc] at ef eo et
    simp [h1, h2, h3, h1.symm, h2.symm, h3.symm] at ef eo et
    simp [befN, ef, eo, et]
  · intro e
    simp only [befN, Bool.and_eq_true, Bool.not_eq_true'] at e
    refine eq_of_bits fun j => ?_
    rw [hb, hc]
    by_cases j1 : f = j
    · subst j1; simp [e.1.1]
    · by_cases j2 : o = j
      · subst j2; simp [e.1.2]
      · by_cases j3 : t = j
        · subst j3; simp [e.2, h2, h3]
        · simp [j1, j2, j3]
theorem and_aft {p f o t : Nat} (h1 : f ≠ o) (h2 : f ≠ t) (h3 : o ≠ t) : (p &&& lineM f o t == 2 ^ t) = aftN p f o t := by
  have hb : ∀ j, bit (p &&& lineM f o t) j = (bit p j && (decide (f = j) || decide (o = j) || decide (t = j))) := fun j => by rw [bit_and, bit_line]
  rw [Bool.eq_iff_iff, beq_iff_eq]
  constructor
  · intro e
    have ef := hb f; have eo := hb o; have et := hb t
    rw [e, bit_pow] at ef eo et
    simp [h1, h2, h3, h1.symm, h2.symm, h3.symm] at ef eo et
    simp [aftN, ef, eo, ← et]
  · intro e
    simp only [aftN, Bool.and_eq_true, Bool.not_eq_true'] at e
    refine eq_of_bits fun j => ?_
    rw [hb, bit_pow]
    by_cases j1 : f = j
    · subst j1; simp [e.1.2, h2.symm]
    · by_cases j2 : o = j
      · subst j2; simp [e.2, h3.symm]
      · by_cases j3 : t = j
        · subst j3; simp [e.1.1]
        · simp [j1, j2, j3]
theorem flip_flip (p f o t : Nat) : flipN (flipN p f o t) f o t = p := eq_of_bits fun j => by
  rw [bit_flip, bit_flip]
  cases bit p j <;> cases (decide (f = j) || decide (o = j) || decide (t = j)) <;> rfl
theorem part_flip {p z f o t : Nat} (h : Part p z) (hf : bit z f = true) (ho : bit z o = true) (ht : bit z t = true) : Part (flipN p f o t) z := part_of fun j hj => by
  rw [bit_flip] at hj
  by_cases j1 : f = j
  · subst j1; exact hf
  · by_cases j2 : o = j
    · subst j2; exact ho
    · by_cases j3 : t = j
      · subst j3; exact ht
      · simp [j1, j2, j3] at hj; exact h.bit hj
theorem aft_flip {p f o t : Nat} (h : befN p f o t = true) : aftN (flipN p f o t) f o t = true := by
  simp only [befN, Bool.and_eq_true, Bool.not_eq_true'] at h
  simp [aftN, bit_flip, h.1.1, h.1.2, h.2]
theorem bef_flip {p f o t : Nat} (h : aftN p f o t = true) : befN (flipN p f o t) f o t = true := by
  simp only [aftN, Bool.and_eq_true, Bool.not_eq_true'] at h
  simp [befN, bit_flip, h.1.1, h.1.2, h.2]
theorem not_aft {p f o t : Nat} (h : befN p f o t = true) : aftN p f o t = false := by
  simp only [befN, Bool.and_eq_true, Bool.not_eq_true'] at h
  simp [aftN, h.2]
theorem pc_put {p k : Nat} (hb : bit p k = false) : ∀ n, k < n → pc n (putB p k) = pc n p + 1 := by
  have low : ∀ n, n ≤ k → pc n (putB p k) = pc n p := by
    intro n
    induction n with
    | zero => intro _; rfl
    | succ n ih =>
      intro hn
      rw [pc_next, pc_next, ih (by omega), bit_put]
      simp [show ¬ k = n by omega]
  intro n
  induction n with
  | zero => intro h; omega
  | succ n ih =>
    intro hn
    rw [pc_next, pc_next, bit_put]
    by_cases e : k = n
    · subst e; rw [low k (Nat.le_refl _), hb]; simp
    · rw [ih (by omega)]; simp [e]; omega
theorem pc_drop {p k n : Nat} (hb : bit p k = true) (hn : k < n) : pc n (dropB p k) + 1 = pc n p := by
  have h := pc_put (p := dropB p k) (k := k) (by rw [bit_drop]; simp) n hn
  rw [put_drop, put_yes hb] at h
  exact h.symm
/-- A jump removes one peg. -/
theorem pc_flip {p f o t n : Nat} (h1 : f ≠ o) (h2 : f ≠ t) (h3 : o ≠ t) (hf : f < n) (ho : o < n) (ht : t < n) (h : befN p f o t = true) : pc n (flipN p f o t) + 1 = pc n p := by
  simp only [befN, Bool.and_eq_true, Bool.not_eq_true'] at h
  have e : flipN p f o t = putB (dropB (dropB p f) o) t := eq_of_bits fun j => by
    rw [bit_flip, bit_put, bit_drop, bit_drop]
    by_cases j1 : f = j
    · subst j1; simp [h.1.1, h2.symm]
    · by_cases j2 : o = j
      · subst j2; simp [h.1.2, h3.symm]
      · by_cases j3 : t = j
        · subst j3; simp [h.2]
        · simp [j1, j2, j3]
  have a1 := pc_drop h.1.1 hf
  have a2 := pc_drop (p := dropB p f) (k := o) (n := n) (by rw [bit_drop]; simp [h.1.2, h1]) ho
  have a3 := pc_put (p := dropB (dropB p f) o) (k := t) (by rw [bit_drop, bit_drop]; simp [h.2]) n ht
  rw [e]
  omega

/-! lines as triples of integers -/
def befL (P : Int) (l : Ln) : Bool := befN P.toNat l.1.toNat l.2.1.toNat l.2.2.toNat
def aftL (P : Int) (l : Ln) : Bool := aftN P.toNat l.1.toNat l.2.1.toNat l.2.2.toNat
def flipL (P : Int) (l : Ln) : Int := (flipN P.toNat l.1.toNat l.2.1.toNat l.2.2.toNat : Nat)
/-- What is told of a line of a board. -/
structure LnAt (a b z : Nat) (l : Ln) (f o t : Nat) : Prop where
  eq : l = ((f : Int), (o : Int), (t : Int))
  fN : f < a * b
  oN : o < a * b
  tN : t < a * b
  fo : f ≠ o
  ft : f ≠ t
  ot : o ≠ t
  bf : bit z f = true
  bo : bit z o = true
  bt : bit z t = true
theorem isLine.at {a b z : Nat} {l : Ln} (ha : 0 < a) (h : isLine a b z l) : ∃ f o t, LnAt a b z l f o t := by
  obtain ⟨-, m1, m2, m3⟩ := h.mid ha
  obtain ⟨k, o, t, d, hd, hk, hz, h1, h2, rfl⟩ := h
  have ho := stepN_lt ha hk h1
  simp only at m1 m2 m3
  exact ⟨k, o, t, rfl, hk, ho, stepN_lt ha ho h2, by omega, by omega, by omega, hz, (stepN_some h1).2, (stepN_some h2).2⟩
theorem mem_at {a b N z : Nat} (hN : a * b = N) (ha : 0 < a) {l : Ln} (h : l ∈ linesOf a b z (bitsOf N z)) : ∃ f o t, LnAt a b z l f o t := ((mem_lines hN).1 h).at ha
/-- A line is that between its ends. -/
theorem betw_is {a b N z : Nat} (hN : a * b = N) (ha : 0 < a) (l : Ln) : (betwL (linesOf a b z (bitsOf N z)) l.1 l.2.2 == some l) = (linesOf a b z (bitsOf N z)).contains l := by
  cases hc : (linesOf a b z (bitsOf N z)).contains l
  · rw [beq_eq_false_iff_ne]
    intro e
    have := List.mem_of_find?_eq_some e
    rw [← List.contains_iff_mem] at this
    rw [this] at hc; cases hc
  · rw [List.contains_iff_mem] at hc
    rw [betw_self hN ha hc]; simp
end Go.Proofs.Ytkaabjklfhoooaa

namespace Go.Proofs.Ytkaabjklfhoooaa
open Go.RowKit
set_option linter.unusedVariables false
set_option linter.unusedSimpArgs false
theorem lineM_lt {f o t : Nat} (hf : f < 49) (ho : o < 49) (ht : t < 49) : lineM f o t < 562949953421312 := by
  have p := fun {k : Nat} (h : k < 49) => (Nat.pow_lt_pow_right (by decide : 1 < 2) h : 2 ^ k < 2 ^ 49)
  exact Nat.or_lt_two_pow (Nat.or_lt_two_pow (p hf) (p ho)) (p ht)
theorem flipN_lt {p f o t : Nat} (hp : p < 562949953421312) (hf : f < 49) (ho : o < 49) (ht : t < 49) : flipN p f o t < 562949953421312 :=
  Nat.xor_lt_two_pow (n := 49) hp (lineM_lt hf ho ht)
theorem xor63 {a b : Nat} (ha : a < 9223372036854775808) (hb : b < 9223372036854775808) : bits .xor .i64 a b = ((a ^^^ b : Nat) : Int) := by
  show IntKind.i64.wrap ((BitVec.ofInt 64 a ^^^ BitVec.ofInt 64 b).toNat : Nat) = _
  rw [BitVec.ofInt_natCast, BitVec.ofInt_natCast, BitVec.toNat_xor, BitVec.toNat_ofNat, BitVec.toNat_ofNat, Nat.mod_eq_of_lt (show a < 2 ^ 64 by omega), Nat.mod_eq_of_lt (show b < 2 ^ 64 by omega)]
  have h2 : a ^^^ b < 2 ^ 63 := Nat.xor_lt_two_pow ha hb
  exact wrap63 _ (by omega) (by omega)
/-- A board and a line in the first two blocks. -/
def Bx2 (W H Z f o t : Int) (w0 w : World) : Prop := Box w0.heap.size W H Z w0 w ∧ Box (w0.heap.size + 1) f o t w0 w
theorem Bx2.later {W H Z f o t : Int} {w0 w w' : World} (h : Bx2 W H Z f o t w0 w) (hb : Below w.heap.size w w') : Bx2 W H Z f o t w0 w' := ⟨h.1.later hb, h.2.later hb⟩
theorem bx2_new (W H Z f o t : Int) (T T' : TypeId) (w : World) : Bx2 W H Z f o t w ((w.alloc (.cells #[.int .i64 W, .int .i64 H, .int .i64 Z] T)).alloc (.cells #[.int .i64 f, .int .i64 o, .int .i64 t] T')) := by
  have h1 := box_newT T W H Z w
  have h2 := box_newT T' f o t (w.alloc (.cells #[.int .i64 W, .int .i64 H, .int .i64 Z] T))
  have hs : (w.alloc (.cells #[.int .i64 W, .int .i64 H, .int .i64 Z] T)).heap.size = w.heap.size + 1 := by simp
  have h3 := h1.later ((Below.refl _ _).alloc (Nat.le_refl _) (.cells #[.int .i64 f, .int .i64 o, .int .i64 t] T'))
  rw [hs] at h2
  exact ⟨h3, h2.1, h2.2.1, h2.2.2.1, h2.2.2.2.1, h3.2.2.2.2⟩
end Go.Proofs.Ytkaabjklfhoooaa

namespace Go.Proofs.Ytkaabjklfhoooaa
open Go.RowKit
set_option linter.unusedVariables false
set_option linter.unusedSimpArgs false
theorem line_hole {a b N z : Nat} (h : Ok (a : Int) (b : Int) N z) {f o t : Int} (hl : (linesOf a b z (bitsOf N z)).contains (f, o, t) = true) : holeB a b z f = true := by
  obtain ⟨hN, ha, -⟩ := h.nat
  rw [List.contains_iff_mem] at hl
  obtain ⟨f', o', t', L⟩ := mem_at hN ha hl
  have e := L.eq
  simp only [Prod.mk.injEq] at e
  rw [e.1, holeB_in h (by rw [← hN]; exact L.fN)]
  exact L.bf
theorem line_yes {a b N z k d : Nat} (hN : a * b = N) (hd : d < 4) (hk : k < N) (hb : bit z k = true) {o t : Int} (h : lineN a b z k d = some ((k : Int), o, t)) : (linesOf a b z (bitsOf N z)).contains ((k : Int), o, t) = true := by
  rw [List.contains_iff_mem, mem_lines hN]
  obtain ⟨o', t', h1, h2, h3⟩ := lineN_some h
  exact ⟨k, o', t', d, hd, by rw [hN]; exact hk, hb, h1, h2, h3⟩
theorem line_no {a b N z k : Nat} (hN : a * b = N) {o t : Int} (h : ∀ d, d < 4 → lineN a b z k d ≠ some ((k : Int), o, t)) : (linesOf a b z (bitsOf N z)).contains ((k : Int), o, t) = false := by
  rw [← Bool.not_eq_true, List.contains_iff_mem, mem_lines hN]
  rintro ⟨k', o', t', d, hd, hk, hb, h1, h2, h3⟩
  simp only [Prod.mk.injEq] at h3
  have e : k = k' := by omega
  subst e
  refine h d hd ?_
  rw [h3.2.1, h3.2.2]
  exact lineN_yes h1 h2
theorem betw_lns (W H Z : Int) (l : Ln) : (betwL (lnsOf W H Z) l.1 l.2.2 == some l) = (lnsOf W H Z).contains l := by
  cases h : okB W H Z
  · rw [lnsOf_no h]; rfl
  · obtain ⟨a, b, N, z, rfl, rfl, rfl, ho⟩ := okNat h
    obtain ⟨hN, ha, -⟩ := ho.nat
    rw [lnsOf_ok ho]; exact betw_is hN ha l
end Go.Proofs.Ytkaabjklfhoooaa
