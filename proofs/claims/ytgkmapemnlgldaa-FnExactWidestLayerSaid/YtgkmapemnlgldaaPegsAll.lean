/- Sums of holes in numbers: a bit put in, a bit taken away, how many bits there are. Of no program. Positions: PositionOk, CountPegs, HasPeg, SetPeg, FullBut, SinglePeg of the program and of the model give the same values (posB, countB, hasB, setB, butB, oneB), for every board, every position of 64 bits and every index. CountPegs, HasPeg, SetPeg, FullBut, SinglePeg of the program and of the model give the same values (countB, hasB, setB, butB, oneB), for every board, every position of 64 bits and every index. -/
import Derived.Test.YtgkmapemnlgldaaBoards
import Derived.Laws.BitsLemmas
namespace Go.Proofs.Ytgkmapemnlgldaa
theorem bit_test (z k : Nat) : bit z k = z.testBit k := by unfold bit; rw [Nat.testBit_eq_decide_div_mod_eq]
theorem eq_of_bits {a b : Nat} (h : ∀ k, bit a k = bit b k) : a = b := Nat.eq_of_testBit_eq fun k => by rw [← bit_test, ← bit_test, h]
theorem bit_and (a b k : Nat) : bit (a &&& b) k = (bit a k && bit b k) := by simp only [bit_test, Nat.testBit_and]
theorem bit_or (a b k : Nat) : bit (a ||| b) k = (bit a k || bit b k) := by simp only [bit_test, Nat.testBit_or]
theorem bit_xor (a b k : Nat) : bit (a ^^^ b) k = (bit a k ^^ bit b k) := by simp only [bit_test, Nat.testBit_xor]
theorem bit_pow (k j : Nat) : bit (2 ^ k) j = decide (k = j) := by rw [bit_test, Nat.testBit_two_pow]
/-- p is a sum of holes of z. -/
def Part (p z : Nat) : Prop := p &&& z = p
theorem Part.bit {p z k : Nat} (h : Part p z) (hb : bit p k = true) : bit z k = true := by
  have := bit_and p z k
  rw [show p &&& z = p from h, hb] at this
  simpa using this.symm
theorem part_of {p z : Nat} (h : ∀ k, bit p k = true → bit z k = true) : Part p z := eq_of_bits fun k => by
  rw [bit_and]
  cases hp : Go.Proofs.Ytgkmapemnlgldaa.bit p k
  · rfl
  · rw [h k hp]; rfl
theorem Part.le {p z : Nat} (h : Part p z) : p ≤ z := by rw [← show p &&& z = p from h]; exact Nat.and_le_right
theorem part_zero (z : Nat) : Part 0 z := Nat.zero_and z
theorem part_self (z : Nat) : Part z z := Nat.and_self z
def putB (p k : Nat) : Nat := p ||| 2 ^ k
def dropB (p k : Nat) : Nat := p ^^^ (p &&& 2 ^ k)
theorem bit_put (p k j : Nat) : bit (putB p k) j = (bit p j || decide (k = j)) := by rw [putB, bit_or, bit_pow]
theorem bit_drop (p k j : Nat) : bit (dropB p k) j = (bit p j && !decide (k = j)) := by
  rw [dropB, bit_xor, bit_and, bit_pow]
  cases bit p j <;> cases decide (k = j) <;> rfl
theorem part_put {p z k : Nat} (h : Part p z) (hk : bit z k = true) : Part (putB p k) z := part_of fun j hj => by
  rw [bit_put] at hj
  by_cases e : k = j
  · subst e; exact hk
  · simp [e] at hj; exact h.bit hj
theorem part_drop {p z k : Nat} (h : Part p z) : Part (dropB p k) z := part_of fun j hj => by
  rw [bit_drop] at hj
  simp at hj; exact h.bit hj.1
theorem part_pow {z k : Nat} (hk : bit z k = true) : Part (2 ^ k) z := part_of fun j hj => by
  rw [bit_pow] at hj
  simp at hj; subst hj; exact hk
theorem or_pow : ∀ k p : Nat, bit p k = false → p ||| 2 ^ k = p + 2 ^ k
  | 0, p, h => by
    have h0 : p % 2 = 0 := by unfold bit at h; simp at h; exact h
    have e1 : (p ||| 2 ^ 0) / 2 = p / 2 := by rw [Nat.or_div_two]; simp
    have e2 : (p ||| 2 ^ 0) % 2 ^ 1 = 1 := by rw [Nat.or_mod_two_pow]; simp [h0]
    omega
  | k + 1, p, h => by
    have ih := or_pow k (p / 2) (by
      rw [bit_test] at h ⊢
      rw [← h, Nat.testBit_succ])
    have hp : 2 ^ (k + 1) = 2 * 2 ^ k := by rw [Nat.pow_succ, Nat.mul_comm]
    have e1 : (p ||| 2 ^ (k + 1)) / 2 = p / 2 ||| 2 ^ k := by rw [Nat.or_div_two, hp]; simp
    have e2 : (p ||| 2 ^ (k + 1)) % 2 ^ 1 = p % 2 := by rw [Nat.or_mod_two_pow, hp]; simp
    omega
theorem put_no {p k : Nat} (h : bit p k = false) : putB p k = p + 2 ^ k := or_pow k p h
theorem put_yes {p k : Nat} (h : bit p k = true) : putB p k = p := eq_of_bits fun j => by
  rw [bit_put]
  by_cases e : k = j
  · subst e; simp [h]
  · simp [e]
theorem drop_no {p k : Nat} (h : bit p k = false) : dropB p k = p := eq_of_bits fun j => by
  rw [bit_drop]
  by_cases e : k = j
  · subst e; simp [h]
  · simp [e]
theorem put_drop (p k : Nat) : putB (dropB p k) k = putB p k := eq_of_bits fun j => by
  rw [bit_put, bit_drop, bit_put]
  by_cases e : k = j <;> simp [e]
theorem put_eq (p k : Nat) : putB p k = dropB p k + 2 ^ k := by rw [← put_drop, put_no (by rw [bit_drop]; simp)]
theorem drop_yes {p k : Nat} (h : bit p k = true) : dropB p k + 2 ^ k = p := by rw [← put_eq, put_yes h]
theorem xor_zero {p q : Nat} (h : p ^^^ q = 0) : p = q := eq_of_bits fun j => by
  have := bit_xor p q j
  rw [h] at this
  have hz : bit 0 j = false := by simp [bit]
  rw [hz] at this
  cases ha : bit p j <;> cases hb : bit q j <;> simp [ha, hb] at this ⊢
theorem pc_next (n z : Nat) : pc (n + 1) z = pc n z + (bit z n).toNat := by
  rw [pc_snoc]
  unfold bit
  have : z / 2 ^ n % 2 < 2 := Nat.mod_lt _ (by decide)
  by_cases h : z / 2 ^ n % 2 = 1
  · simp [h]
  · have : z / 2 ^ n % 2 = 0 := by omega
    simp [this]
theorem pc_one {n k : Nat} (h : k < n) : pc n (2 ^ k) = 1 := by
  induction n with
  | zero => omega
  | succ n ih =>
    rw [pc_next, bit_pow]
    by_cases e : k = n
    · subst e
      rw [← bitsOf_length, List.length_eq_zero_iff.2]
      · simp
      · apply List.filter_eq_nil_iff.2
        intro j hj
        rw [bit_pow]
        have : j < k := by simpa using hj
        simp; omega
    · rw [ih (by omega)]; simp [e]

/-! the machine's operators on naturals -/
theorem wrap63 (n : Int) (h0 : 0 ≤ n) (h1 : n < 2 ^ 63) : IntKind.i64.wrap n = n := by rw [IntKind.wrap_i64]; omega
theorem and63 {a b : Nat} (ha : a < 9223372036854775808) (hb : b < 9223372036854775808) : bits .and .i64 a b = ((a &&& b : Nat) : Int) := (bits_nat .i64 63 (by decide) wrap63 a b ha hb).1
theorem or63 {a b : Nat} (ha : a < 9223372036854775808) (hb : b < 9223372036854775808) : bits .or .i64 a b = ((a ||| b : Nat) : Int) := (bits_nat .i64 63 (by decide) wrap63 a b ha hb).2
theorem not63 {a b : Nat} (ha : a < 9223372036854775808) (hb : b < 9223372036854775808) : bits .andNot .i64 a b = ((a ^^^ (a &&& b) : Nat) : Int) := by
  have e : ∀ x y : BitVec 64, x &&& ~~~y = x ^^^ (x &&& y) := fun x y => by
    apply BitVec.eq_of_getElem_eq
    intro i hi
    simp
    cases x[i] <;> cases y[i] <;> rfl
  show IntKind.i64.wrap ((BitVec.ofInt 64 a &&& ~~~(BitVec.ofInt 64 b)).toNat : Nat) = _
  rw [e, BitVec.ofInt_natCast, BitVec.ofInt_natCast, BitVec.toNat_xor, BitVec.toNat_and, BitVec.toNat_ofNat, BitVec.toNat_ofNat, Nat.mod_eq_of_lt (show a < 2 ^ 64 by omega), Nat.mod_eq_of_lt (show b < 2 ^ 64 by omega)]
  have h1 : a &&& b < 2 ^ 63 := Nat.and_lt_two_pow _ hb
  have h2 : a ^^^ (a &&& b) < 2 ^ 63 := Nat.xor_lt_two_pow ha h1
  exact wrap63 _ (by omega) (by omega)
theorem not_zero {p z : Nat} : (p ^^^ (p &&& z) = 0) ↔ Part p z :=
  ⟨fun h => (xor_zero h).symm, fun h => by rw [show p &&& z = p from h]; exact Nat.xor_self p⟩

/-! the rows of a position's text -/
/-- The character at an index of the grid: 32 no hole, 111 a peg, 46 an empty hole. -/
def sign (z p k : Nat) : UInt8 := if bit z k = true then (if bit p k = true then 111 else 46) else 32
def signs (z p o n : Nat) : List UInt8 := (List.range n).map fun x => sign z p (o + x)
theorem signs_length (z p o n : Nat) : (signs z p o n).length = n := by simp [signs]
theorem signs_succ (z p o n : Nat) : signs z p o (n + 1) = signs z p o n ++ [sign z p (o + n)] := by simp [signs, List.range_succ]
theorem signs_get {z p o n x : Nat} (h : x < n) : (signs z p o n)[x]? = some (sign z p (o + x)) := by simp [signs, h]
theorem sign_peg {z p : Nat} (h : Part p z) (k : Nat) : (sign z p k = 111) ↔ bit p k = true := by
  unfold sign
  cases hz : bit z k <;> cases hp : bit p k
  · simp
  · rw [h.bit hp] at hz; cases hz
  · simp
  · simp
theorem sign_hole (z p k : Nat) : (sign z p k = 32) ↔ bit z k = false := by
  unfold sign
  cases hz : bit z k <;> cases hp : bit p k <;> simp
end Go.Proofs.Ytgkmapemnlgldaa

namespace Go.Proofs.Ytgkmapemnlgldaa
open Go.RowKit
def partB (p z : Nat) : Bool := p &&& z == p
theorem partB_iff {p z : Nat} : partB p z = true ↔ Part p z := by simp [partB, Part]
/-- Whether P is a position of the board. -/
def posB (W H Z P : Int) : Bool := okB W H Z && decide (0 ≤ P) && partB P.toNat Z.toNat
theorem posB_no {W H Z P : Int} (h : okB W H Z = false) : posB W H Z P = false := by simp [posB, h]
theorem posB_neg {W H Z P : Int} (h : P < 0) : posB W H Z P = false := by simp [posB, show ¬ 0 ≤ P by omega]
theorem posB_nat {W H : Int} {N z : Nat} (h : Ok W H N z) (p : Nat) : posB W H z p = partB p z := by simp [posB, h.ok]
theorem posCases (W H Z P : Int) : okB W H Z = false ∨ ∃ N z : Nat, Z = z ∧ Ok W H N z ∧ (P < 0 ∨ ∃ p : Nat, P = p) := by
  cases h : okB W H Z
  · exact .inl rfl
  · right
    obtain ⟨N, z, rfl, ho⟩ := ok_of h
    refine ⟨N, z, rfl, ho, ?_⟩
    rcases Int.lt_or_le P 0 with h0 | h0
    · exact .inl h0
    · exact .inr (Int.eq_ofNat_of_zero_le h0)
/-- What is told of a position that is valid. -/
theorem pos_yes {W H Z P : Int} (h : posB W H Z P = true) : ∃ N z p : Nat, Z = z ∧ P = p ∧ Ok W H N z ∧ Part p z := by
  rcases posCases W H Z P with h0 | ⟨N, z, rfl, ho, h0 | ⟨p, rfl⟩⟩
  · rw [posB_no h0] at h; cases h
  · rw [posB_neg h0] at h; cases h
  · rw [posB_nat ho] at h; exact ⟨N, z, p, rfl, rfl, ho, partB_iff.1 h⟩
theorem pos_of {W H : Int} {N z p : Nat} (h : Ok W H N z) (hp : Part p z) : posB W H z p = true := by rw [posB_nat h]; exact partB_iff.2 hp
theorem hole_yes {W H K : Int} {N z : Nat} (ho : Ok W H N z) (h : holeB W H z K = true) : ∃ k : Nat, K = k ∧ k < N ∧ bit z k = true := by
  rcases Int.lt_or_le K 0 with h0 | h0
  · rw [holeB_out ho (.inl h0)] at h; cases h
  · obtain ⟨k, rfl⟩ := Int.eq_ofNat_of_zero_le h0
    rcases Nat.lt_or_ge k N with h1 | h1
    · rw [holeB_in ho h1] at h; exact ⟨k, rfl, h1, h⟩
    · rw [holeB_out ho (.inr (by omega))] at h; cases h
theorem Ok.big {W H : Int} {N z : Nat} (h : Ok W H N z) : z < 9223372036854775808 := by have := h.zbig; omega
/-- A bool with the memory that was there left as it was. -/
def QB (b : Bool) (w : World) (e : Ending) (w' : World) : Prop := e = .returned (.bool b) ∧ Below w.heap.size w w'
def QI (n : Int) (w : World) (e : Ending) (w' : World) : Prop := e = .returned (.int .i64 n) ∧ Below w.heap.size w w'
theorem QB.of {a b : Bool} {w w' : World} (h : a = b) (hb : Below w.heap.size w w') : QB b w (.returned (.bool a)) w' := ⟨ret_bool h, hb⟩
theorem QI.of {a b : Int} {w w' : World} (h : a = b) (hb : Below w.heap.size w w') : QI b w (.returned (.int .i64 a)) w' := ⟨ret_int h, hb⟩
set_option maxRecDepth 100000 in
theorem specPos_no {W H Z : Int} (h : okB W H Z = false) (P : Int) (w : World) : Calls Try.prog 32 #[.agg #[.int .i64 W, .int .i64 H, .int .i64 Z], .int .i64 P] w (QB false w) := by
  have C1 := Lib.hid (specOk_no h)
  clear h
  go_enter Try.func32, Try.ntmps32
  go_wp2_with fail
  have B0 := Lib.hid (box_new W H Z w)
  generalize w.alloc (.cells #[.int .i64 W, .int .i64 H, .int .i64 Z] 25) = W1 at *
  refine (C1.out _).mono ?_
  rintro e w1 ⟨rfl, hb⟩
  have B1 := Lib.hid (B0.out.later hb)
  clear hb
  go_wp2_with fail
  go_ret
  exact ⟨rfl, B1.out.2.2.2.2⟩
set_option maxRecDepth 100000 in
theorem implPos_no {W H Z : Int} (h : okB W H Z = false) (P : Int) (w : World) : Calls Try.prog 37 #[.agg #[.int .i64 W, .int .i64 H, .int .i64 Z], .int .i64 P] w (QB false w) := by
  have C1 := Lib.hid (implOk_no h)
  clear h
  go_enter Try.func37, Try.ntmps37
  go_wp2_with fail
  have B0 := Lib.hid (box_new W H Z w)
  generalize w.alloc (.cells #[.int .i64 W, .int .i64 H, .int .i64 Z] 25) = W1 at *
  refine (C1.out _).mono ?_
  rintro e w1 ⟨rfl, hb⟩
  have B1 := Lib.hid (B0.out.later hb)
  clear hb
  go_wp2_with fail
  go_ret
  exact ⟨rfl, B1.out.2.2.2.2⟩
set_option maxRecDepth 100000 in
theorem specPos_neg {W H P : Int} {N z : Nat} (h : Ok W H N z) (hP : P < 0) (w : World) : Calls Try.prog 32 #[.agg #[.int .i64 W, .int .i64 H, .int .i64 z], .int .i64 P] w (QB false w) := by
  have C1 := Lib.hid (specOk_yes h)
  clear h
  have h0 : ¬ 0 ≤ P := by omega
  go_enter Try.func32, Try.ntmps32
  go_wp2_with fail
  have B0 := Lib.hid (box_new W H z w)
  generalize w.alloc (.cells #[.int .i64 W, .int .i64 H, .int .i64 z] 25) = W1 at *
  refine (C1.out _).mono ?_
  rintro e w1 ⟨rfl, hb⟩
  have B1 := Lib.hid (B0.out.later hb)
  clear hb
  go_wp2_with fail
  go_ret
  exact ⟨rfl, B1.out.2.2.2.2⟩
set_option maxRecDepth 100000 in
theorem implPos_neg {W H P : Int} {N z : Nat} (h : Ok W H N z) (hP : P < 0) (w : World) : Calls Try.prog 37 #[.agg #[.int .i64 W, .int .i64 H, .int .i64 z], .int .i64 P] w (QB false w) := by
  have C1 := Lib.hid (implOk_yes h)
  clear h
  have h0 : ¬ 0 ≤ P := by omega
  go_enter Try.func37, Try.ntmps37
  go_wp2_with fail
  have B0 := Lib.hid (box_new W H z w)
  generalize w.alloc (.cells #[.int .i64 W, .int .i64 H, .int .i64 z] 25) = W1 at *
  refine (C1.out _).mono ?_
  rintro e w1 ⟨rfl, hb⟩
  have B1 := Lib.hid (B0.out.later hb)
  clear hb
  go_wp2_with fail
  go_ret
  exact ⟨rfl, B1.out.2.2.2.2⟩
theorem and_part (p z : Nat) : (((p &&& z : Nat) : Int) == (p : Int)) = partB p z := by
  rw [Bool.eq_iff_iff]; simp [partB]; omega
theorem not_part (p z : Nat) : (((p ^^^ (p &&& z) : Nat) : Int) == 0) = partB p z := by
  rw [Bool.eq_iff_iff, partB_iff, ← not_zero]; simp
set_option maxRecDepth 100000 in
theorem specPos_nat {W H : Int} {N z : Nat} (h : Ok W H N z) (p : Nat) (hp : p < 9223372036854775808) (w : World) : Calls Try.prog 32 #[.agg #[.int .i64 W, .int .i64 H, .int .i64 z], .int .i64 p] w (QB (partB p z) w) := by
  have C1 := Lib.hid (specOk_yes h)
  have hand := and63 hp h.big
  have E := Lib.hid (and_part p z)
  have h0 : (0 : Int) ≤ (p : Int) := by omega
  generalize p &&& z = q at *
  clear h
  go_enter Try.func32, Try.ntmps32
  go_wp2_with fail
  have B0 := Lib.hid (box_new W H z w)
  generalize w.alloc (.cells #[.int .i64 W, .int .i64 H, .int .i64 z] 25) = W1 at *
  refine (C1.out _).mono ?_
  rintro e w1 ⟨rfl, hb⟩
  obtain ⟨c0, c1, c2, hlt, hb1⟩ := B0.out.later hb
  clear hb B0
  go_wp2_with fail
  go_ret
  exact QB.of E.out hb1
set_option maxRecDepth 100000 in
theorem implPos_nat {W H : Int} {N z : Nat} (h : Ok W H N z) (p : Nat) (hp : p < 9223372036854775808) (w : World) : Calls Try.prog 37 #[.agg #[.int .i64 W, .int .i64 H, .int .i64 z], .int .i64 p] w (QB (partB p z) w) := by
  have C1 := Lib.hid (implOk_yes h)
  have hand := not63 hp h.big
  have E := Lib.hid (not_part p z)
  have h0 : (0 : Int) ≤ (p : Int) := by omega
  generalize p ^^^ (p &&& z) = q at *
  clear h
  go_enter Try.func37, Try.ntmps37
  go_wp2_with fail
  have B0 := Lib.hid (box_new W H z w)
  generalize w.alloc (.cells #[.int .i64 W, .int .i64 H, .int .i64 z] 25) = W1 at *
  refine (C1.out _).mono ?_
  rintro e w1 ⟨rfl, hb⟩
  obtain ⟨c0, c1, c2, hlt, hb1⟩ := B0.out.later hb
  clear hb B0
  go_wp2_with fail
  go_ret
  exact QB.of E.out hb1
theorem specPos (W H Z P : Int) (hP : P ≤ 9223372036854775807) (w : World) : Calls Try.prog 32 #[.agg #[.int .i64 W, .int .i64 H, .int .i64 Z], .int .i64 P] w (QB (posB W H Z P) w) := by
  rcases posCases W H Z P with h | ⟨N, z, rfl, ho, h | ⟨p, rfl⟩⟩
  · rw [posB_no h]; exact specPos_no h P w
  · rw [posB_neg h]; exact specPos_neg ho h w
  · rw [posB_nat ho]; exact specPos_nat ho p (by omega) w
theorem implPos (W H Z P : Int) (hP : P ≤ 9223372036854775807) (w : World) : Calls Try.prog 37 #[.agg #[.int .i64 W, .int .i64 H, .int .i64 Z], .int .i64 P] w (QB (posB W H Z P) w) := by
  rcases posCases W H Z P with h | ⟨N, z, rfl, ho, h | ⟨p, rfl⟩⟩
  · rw [posB_no h]; exact implPos_no h P w
  · rw [posB_neg h]; exact implPos_neg ho h w
  · rw [posB_nat ho]; exact implPos_nat ho p (by omega) w
end Go.Proofs.Ytgkmapemnlgldaa

namespace Go.Proofs.Ytgkmapemnlgldaa
open Go.RowKit
def countB (W H Z P : Int) : Int := if posB W H Z P = true then (pc 49 P.toNat : Nat) else -1
def hasB (W H Z P K : Int) : Bool := posB W H Z P && holeB W H Z K && bit P.toNat K.toNat
def setB (W H Z P K : Int) (on : Bool) : Int × Bool := if (posB W H Z P && holeB W H Z K) = true then ((if on = true then (putB P.toNat K.toNat : Nat) else (dropB P.toNat K.toNat : Nat)), true) else (P, false)
def butB (W H Z K : Int) : Int := if holeB W H Z K = true then (dropB Z.toNat K.toNat : Nat) else -1
def oneB (W H Z K : Int) : Int := if holeB W H Z K = true then 2 ^ K.toNat else -1
/-- The pair that SetPeg returns. -/
def QP (r : Int × Bool) (w : World) (e : Ending) (w' : World) : Prop := e = .returned (.tuple #[.int .i64 r.1, .bool r.2]) ∧ Below w.heap.size w w'
theorem specPos_is {b : Bool} {W H Z P : Int} (hP : P ≤ 9223372036854775807) (h : posB W H Z P = b) (w : World) : Calls Try.prog 32 #[.agg #[.int .i64 W, .int .i64 H, .int .i64 Z], .int .i64 P] w (QB b w) := by rw [← h]; exact specPos W H Z P hP w
theorem implPos_is {b : Bool} {W H Z P : Int} (hP : P ≤ 9223372036854775807) (h : posB W H Z P = b) (w : World) : Calls Try.prog 37 #[.agg #[.int .i64 W, .int .i64 H, .int .i64 Z], .int .i64 P] w (QB b w) := by rw [← h]; exact implPos W H Z P hP w
theorem hole_of {W H Z K : Int} (h : holeB W H Z K = true) : ∃ N z k : Nat, Z = z ∧ K = k ∧ Ok W H N z ∧ k < N ∧ bit z k = true := by
  cases h0 : okB W H Z
  · rw [holeB_no h0] at h; cases h
  · obtain ⟨N, z, rfl, ho⟩ := ok_of h0
    obtain ⟨k, rfl, hk, hb⟩ := hole_yes ho h
    exact ⟨N, z, k, rfl, rfl, ho, hk, hb⟩
theorem Part.big {W H : Int} {N z p : Nat} (ho : Ok W H N z) (h : Part p z) : p < 562949953421312 := Nat.lt_of_le_of_lt h.le ho.zbig
theorem pow_nat (k : Nat) (hk : k < 49) : ∃ q : Nat, (2 : Int) ^ k = q ∧ 2 ^ k = q ∧ 1 ≤ q ∧ q ≤ 562949953421312 := by
  have := pow_le49 (show k ≤ 49 by omega)
  exact ⟨2 ^ k, by simp, rfl, Nat.two_pow_pos k, by rw [pow_cast] at this; omega⟩

set_option maxRecDepth 100000 in
theorem specPegs_no {W H Z P : Int} (hP : P ≤ 9223372036854775807) (h : posB W H Z P = false) (w : World) : Calls Try.prog 11 #[.agg #[.int .i64 W, .int .i64 H, .int .i64 Z], .int .i64 P] w (QI (-1) w) := by
  have C1 := Lib.hid (specPos_is hP h)
  clear h hP
  go_enter Try.func11, Try.ntmps11
  go_wp2_with fail
  have B0 := Lib.hid (box_new W H Z w)
  generalize w.alloc (.cells #[.int .i64 W, .int .i64 H, .int .i64 Z] 25) = W1 at *
  refine (C1.out _).mono ?_
  rintro e w1 ⟨rfl, hb⟩
  have B1 := Lib.hid (B0.out.later hb)
  clear hb B0
  obtain ⟨c0, c1, c2, hlt, hb1⟩ := B1.out
  go_wp2_with fail
  go_ret
  exact ⟨rfl, hb1⟩
set_option maxRecDepth 100000 in
theorem implPegs_no {W H Z P : Int} (hP : P ≤ 9223372036854775807) (h : posB W H Z P = false) (w : World) : Calls Try.prog 38 #[.agg #[.int .i64 W, .int .i64 H, .int .i64 Z], .int .i64 P] w (QI (-1) w) := by
  have C1 := Lib.hid (implPos_is hP h)
  clear h hP
  go_enter Try.func38, Try.ntmps38
  go_wp2_with fail
  have B0 := Lib.hid (box_new W H Z w)
  generalize w.alloc (.cells #[.int .i64 W, .int .i64 H, .int .i64 Z] 25) = W1 at *
  refine (C1.out _).mono ?_
  rintro e w1 ⟨rfl, hb⟩
  have B1 := Lib.hid (B0.out.later hb)
  clear hb B0
  obtain ⟨c0, c1, c2, hlt, hb1⟩ := B1.out
  go_wp2_with fail
  go_ret
  exact ⟨rfl, hb1⟩
set_option maxRecDepth 100000 in
theorem specPegs_yes {W H : Int} {N z p : Nat} (ho : Ok W H N z) (h : Part p z) (w : World) : Calls Try.prog 11 #[.agg #[.int .i64 W, .int .i64 H, .int .i64 z], .int .i64 p] w (QI (pc 49 p : Nat) w) := by
  have hp := h.big ho
  have C1 := Lib.hid (specPos_is (b := true) (P := p) (by omega) (pos_of ho h))
  have C2 := Lib.hid (fun w => specList p w)
  have E := Lib.hid (bitsOf_length p 49)
  clear h ho
  go_enter Try.func11, Try.ntmps11
  go_wp2_with fail
  have B0 := Lib.hid (box_new W H z w)
  generalize w.alloc (.cells #[.int .i64 W, .int .i64 H, .int .i64 z] 25) = W1 at *
  refine (C1.out _).mono ?_
  rintro e w1 ⟨rfl, hb⟩
  have B1 := Lib.hid (B0.out.later hb)
  clear hb B0
  obtain ⟨c0, c1, c2, hlt, hb1⟩ := B1.out
  go_wp2_with fail
  refine (C2.out _).mono ?_
  rintro e w2 ⟨v, rfl, ho, hb2⟩
  obtain ⟨a, c, rfl⟩ : ∃ a c, v = .slice a (bitsOf 49 p).length c := by rcases Go.Joins.ownsRow_forms ho with ⟨rfl, h⟩ | ⟨g, cap, rfl⟩ <;> first | exact ⟨_, _, rfl⟩ | exact ⟨none, 0, by rw [h]⟩
  have B2 := Lib.hid (B1.out.later hb2)
  clear ho hb2 B1 c0 c1 c2 hlt hb1
  go_wp2_with fail
  go_ret
  exact QI.of (by rw [E.out]) B2.out.2.2.2.2
set_option maxRecDepth 100000 in
theorem implPegs_yes {W H : Int} {N z p : Nat} (ho : Ok W H N z) (h : Part p z) (w : World) : Calls Try.prog 38 #[.agg #[.int .i64 W, .int .i64 H, .int .i64 z], .int .i64 p] w (QI (pc 49 p : Nat) w) := by
  have hp := h.big ho
  have C1 := Lib.hid (implPos_is (b := true) (P := p) (by omega) (pos_of ho h))
  have C2 := Lib.hid (fun w => ones64 p w (by omega))
  have E := Lib.hid (pc_more (show p < 2 ^ 49 by omega) 64 (by decide))
  clear h ho
  go_enter Try.func38, Try.ntmps38
  go_wp2_with fail
  have B0 := Lib.hid (box_new W H z w)
  generalize w.alloc (.cells #[.int .i64 W, .int .i64 H, .int .i64 z] 25) = W1 at *
  refine (C1.out _).mono ?_
  rintro e w1 ⟨rfl, hb⟩
  have B1 := Lib.hid (B0.out.later hb)
  clear hb B0
  obtain ⟨c0, c1, c2, hlt, hb1⟩ := B1.out
  go_wp2_with fail
  refine (C2.out _).mono ?_
  rintro e w2 ⟨rfl, rfl⟩
  go_wp2_with fail
  go_ret
  exact QI.of (by rw [E.out]) hb1
theorem specPegs (W H Z P : Int) (hP : P ≤ 9223372036854775807) (w : World) : Calls Try.prog 11 #[.agg #[.int .i64 W, .int .i64 H, .int .i64 Z], .int .i64 P] w (QI (countB W H Z P) w) := by
  cases h : posB W H Z P
  · rw [show countB W H Z P = -1 by simp [countB, h]]; exact specPegs_no hP h w
  · rw [show countB W H Z P = (pc 49 P.toNat : Nat) by simp [countB, h]]
    obtain ⟨N, z, p, rfl, rfl, ho, hp⟩ := pos_yes h
    exact specPegs_yes ho hp w
theorem implPegs (W H Z P : Int) (hP : P ≤ 9223372036854775807) (w : World) : Calls Try.prog 38 #[.agg #[.int .i64 W, .int .i64 H, .int .i64 Z], .int .i64 P] w (QI (countB W H Z P) w) := by
  cases h : posB W H Z P
  · rw [show countB W H Z P = -1 by simp [countB, h]]; exact implPegs_no hP h w
  · rw [show countB W H Z P = (pc 49 P.toNat : Nat) by simp [countB, h]]
    obtain ⟨N, z, p, rfl, rfl, ho, hp⟩ := pos_yes h
    exact implPegs_yes ho hp w
set_option maxRecDepth 100000 in
theorem isPeg (p k : Nat) (hk : k < 49) (w : World) : Calls Try.prog 67 #[.int .i64 p, .int .i64 k] w fun e w' => e = .returned (.bool (bit p k)) ∧ w = w' := by
  have hand := hand1
  have hb : Hid (∀ b, ((p : Int) / 2 ^ k % 2 == 1) = b → b = bit p k) := fun b h => by rw [← h, bit_int]
  go_enter Try.func67, Try.ntmps67
  go_wp2_with fail
  go_ret
  exact ⟨ret_bool (hb.out _ rfl), rfl⟩
end Go.Proofs.Ytgkmapemnlgldaa
