/- Bits of numbers: the indices of the bits, their sum and their number; the sums of OnesCount64, byte by byte. Of no program. -/
import Derived.WalkKit
import Derived.Laws.Bits64b
import Derived.Laws.BitsAllLaws
namespace Go.Proofs.YtpdhdogllejdbaaDoor
/-- Bit k of z. -/
def bit (z k : Nat) : Bool := decide (z / 2 ^ k % 2 = 1)
/-- The indices of the bits of z below n, in ascending order. -/
def bitsOf (n z : Nat) : List Nat := (List.range n).filter (bit z)
theorem bitsOf_zero (z : Nat) : bitsOf 0 z = [] := rfl
theorem bitsOf_succ (n z : Nat) : bitsOf (n + 1) z = bitsOf n z ++ (if bit z n then [n] else []) := by
  unfold bitsOf
  rw [List.range_succ, List.filter_append]
  cases h : bit z n <;> simp [h]
theorem bitsOf_yes {n z : Nat} (h : bit z n = true) : bitsOf (n + 1) z = bitsOf n z ++ [n] := by rw [bitsOf_succ, h]; rfl
theorem bitsOf_no {n z : Nat} (h : bit z n = false) : bitsOf (n + 1) z = bitsOf n z := by rw [bitsOf_succ, h]; simp
theorem bit_high {z n k : Nat} (h : z < 2 ^ n) (hk : n ≤ k) : bit z k = false := by
  unfold bit
  rw [Nat.div_eq_of_lt (Nat.lt_of_lt_of_le h (Nat.pow_le_pow_right (by decide) hk))]
  simp
theorem bitsOf_more {n z : Nat} (h : z < 2 ^ n) : ∀ m, n ≤ m → bitsOf m z = bitsOf n z
  | 0, hm => by obtain rfl : n = 0 := by omega
                rfl
  | m + 1, hm => by
    by_cases e : n = m + 1
    · rw [e]
    · rw [bitsOf_no (bit_high h (by omega)), bitsOf_more h m (by omega)]
theorem mem_bitsOf {n z k : Nat} : k ∈ bitsOf n z ↔ k < n ∧ bit z k = true := by simp [bitsOf]
theorem bitsOf_le (n z : Nat) : (bitsOf n z).length ≤ n := by
  have := List.length_filter_le (bit z) (List.range n)
  simpa [bitsOf] using this
theorem bitsOf_up (n z : Nat) : (bitsOf n z).Pairwise (· < ·) := List.Pairwise.filter _ List.pairwise_lt_range
/-- The numbers of a list as powers of two, summed. -/
def powSum (l : List Nat) : Nat := (l.map fun k => 2 ^ k).foldr (· + ·) 0
theorem powSum_append (a b : List Nat) : powSum (a ++ b) = powSum a + powSum b := by
  induction a with
  | nil => simp [powSum]
  | cons x l ih => simp only [powSum, List.cons_append, List.map_cons, List.foldr_cons] at *; omega
theorem powSum_bitsOf (z : Nat) : ∀ n, powSum (bitsOf n z) = z % 2 ^ n
  | 0 => by simp [bitsOf, powSum, Nat.mod_one]
  | n + 1 => by
    have e : z % 2 ^ (n + 1) = z % 2 ^ n + 2 ^ n * (z / 2 ^ n % 2) := by rw [Nat.pow_succ, Nat.mod_mul]
    cases h : bit z n
    · rw [bitsOf_no h, powSum_bitsOf z n, e]
      have : z / 2 ^ n % 2 = 0 := by unfold bit at h; simp at h; omega
      rw [this]; simp
    · rw [bitsOf_yes h, powSum_append, powSum_bitsOf z n, e]
      have : z / 2 ^ n % 2 = 1 := by unfold bit at h; simpa using h
      rw [this]; simp [powSum]
theorem powSum_all {z n : Nat} (h : z < 2 ^ n) : powSum (bitsOf n z) = z := by rw [powSum_bitsOf, Nat.mod_eq_of_lt h]
/-- How many of the n lowest bits are set. -/
def pc : Nat → Nat → Nat
  | 0, _ => 0
  | n + 1, x => x % 2 + pc n (x / 2)
theorem pc_snoc : ∀ n x, pc (n + 1) x = pc n x + x / 2 ^ n % 2
  | 0, x => by simp [pc]
  | n + 1, x => by
    have h := pc_snoc n (x / 2)
    have e : x / 2 / 2 ^ n = x / 2 ^ (n + 1) := by rw [Nat.div_div_eq_div_mul, Nat.pow_succ, Nat.mul_comm]
    rw [e] at h
    show x % 2 + pc (n + 1) (x / 2) = (x % 2 + pc n (x / 2)) + _
    omega
theorem bitsOf_length (z : Nat) : ∀ n, (bitsOf n z).length = pc n z
  | 0 => rfl
  | n + 1 => by
    rw [pc_snoc, ← bitsOf_length z n]
    cases h : bit z n
    · rw [bitsOf_no h]; unfold bit at h; simp at h; omega
    · rw [bitsOf_yes h]; unfold bit at h; simp at h; simp [h]
theorem pc_le (n x : Nat) : pc n x ≤ n := by rw [← bitsOf_length]; exact bitsOf_le n x
theorem pc_add : ∀ a b x, pc (a + b) x = pc a x + pc b (x / 2 ^ a)
  | 0, b, x => by simp [pc]
  | a + 1, b, x => by
    have h := pc_add a b (x / 2)
    have e : x / 2 / 2 ^ a = x / 2 ^ (a + 1) := by rw [Nat.div_div_eq_div_mul, Nat.pow_succ, Nat.mul_comm]
    rw [e] at h
    rw [show a + 1 + b = (a + b) + 1 by omega]
    show x % 2 + pc (a + b) (x / 2) = (x % 2 + pc a (x / 2)) + _
    omega
theorem pc_zero : ∀ n, pc n 0 = 0
  | 0 => rfl
  | n + 1 => by show 0 % 2 + pc n (0 / 2) = 0; rw [show 0 / 2 = 0 from rfl, pc_zero n]
theorem bit_ones {n k : Nat} (h : k < n) : bit (2 ^ n - 1) k = true := by
  have := Nat.testBit_two_pow_sub_one n k
  unfold bit
  rw [← Nat.testBit_eq_decide_div_mod_eq, this]; simp [h]
theorem bitsOf_ones (n : Nat) : bitsOf n (2 ^ n - 1) = List.range n := by
  unfold bitsOf
  apply List.filter_eq_self.2
  intro k hk
  exact bit_ones (by simpa using hk)
theorem pc_ones (n : Nat) : pc n (2 ^ n - 1) = n := by rw [← bitsOf_length, bitsOf_ones]; simp
theorem pc_more {n z : Nat} (h : z < 2 ^ n) (m : Nat) (hm : n ≤ m) : pc m z = pc n z := by rw [← bitsOf_length, ← bitsOf_length, bitsOf_more h m hm]

/-! bits.OnesCount64's sums, byte by byte -/
theorem and_split (b y c m : Nat) (hb : b < 256) (hc : c < 256) : (b + 256 * y) &&& (c + 256 * m) = (b &&& c) + 256 * (y &&& m) := by
  have h1 : ((b + 256 * y) &&& (c + 256 * m)) % 2 ^ 8 = b &&& c := by
    rw [Nat.and_mod_two_pow]
    congr 1 <;> omega
  have h2 : ((b + 256 * y) &&& (c + 256 * m)) / 2 ^ 8 = y &&& m := by
    rw [Nat.and_div_two_pow]
    congr 1 <;> omega
  have := Nat.div_add_mod ((b + 256 * y) &&& (c + 256 * m)) (2 ^ 8)
  omega
def M (c : Nat) : Nat → Nat
  | 0 => 0
  | n + 1 => c + 256 * M c n
def S1 (n x : Nat) : Nat := (x / 2 &&& M 85 n) + (x &&& M 85 n)
def S2 (n x : Nat) : Nat := (x / 4 &&& M 51 n) + (x &&& M 51 n)
def S3 (n x : Nat) : Nat := (x / 16 + x) &&& M 15 n
def P1 (b : Nat) : Nat := (b / 2 &&& 85) + (b &&& 85)
def P2 (b : Nat) : Nat := (b / 4 &&& 51) + (b &&& 51)
theorem m1 : ∀ b : Fin 256, ∀ c : Fin 2, (b.val / 2 + 128 * c.val) &&& 85 = b.val / 2 &&& 85 := by decide +kernel
theorem m2 : ∀ b : Fin 256, ∀ c : Fin 4, (b.val / 4 + 64 * c.val) &&& 51 = b.val / 4 &&& 51 := by decide +kernel
theorem p1 : ∀ b : Fin 256, P1 b.val < 256 ∧ P2 (P1 b.val) < 69 ∧ P2 (P1 b.val) % 16 ≤ 4 ∧ (P2 (P1 b.val) / 16 + P2 (P1 b.val)) % 16 = pc 8 b.val := by decide +kernel
theorem S1_step (n b y : Nat) (hb : b < 256) : S1 (n + 1) (b + 256 * y) = P1 b + 256 * S1 n y := by
  unfold S1 P1
  have e : (b + 256 * y) / 2 = (b / 2 + 128 * (y % 2)) + 256 * (y / 2) := by omega
  have hm := m1 ⟨b, hb⟩ ⟨y % 2, by omega⟩
  simp only at hm
  rw [e, M, and_split _ _ _ _ (by omega) (by decide), and_split _ _ _ _ hb (by decide), hm]
  show _ + 256 * _ + (_ + 256 * _) = _
  omega
theorem S2_step (n b y : Nat) (hb : b < 256) : S2 (n + 1) (b + 256 * y) = P2 b + 256 * S2 n y := by
  unfold S2 P2
  have e : (b + 256 * y) / 4 = (b / 4 + 64 * (y % 4)) + 256 * (y / 4) := by omega
  have hm := m2 ⟨b, hb⟩ ⟨y % 4, by omega⟩
  simp only at hm
  rw [e, M, and_split _ _ _ _ (by omega) (by decide), and_split _ _ _ _ hb (by decide), hm]
  show _ + 256 * _ + (_ + 256 * _) = _
  omega
theorem S3_step (n a v : Nat) (ha : a < 69) (hv : v % 16 ≤ 4) : S3 (n + 1) (a + 256 * v) = (a / 16 + a) % 16 + 256 * S3 n v := by
  unfold S3
  have e : (a + 256 * v) / 16 + (a + 256 * v) = (a / 16 + 16 * (v % 16) + a) + 256 * (v / 16 + v) := by omega
  rw [e, M, and_split _ _ _ _ (by omega) (by decide), show (15 : Nat) = 2 ^ 4 - 1 from rfl, Nat.and_two_pow_sub_one_eq_mod]
  omega
def low (n x : Nat) : Nat := S2 n (S1 n x)
theorem low_step (n b y : Nat) (hb : b < 256) : low (n + 1) (b + 256 * y) = P2 (P1 b) + 256 * low n y := by
  unfold low
  rw [S1_step _ _ _ hb, S2_step _ _ _ (p1 ⟨b, hb⟩).1]
theorem low_mod : ∀ n x, low n x % 16 ≤ 4
  | 0, x => by simp [low, S1, S2, M]
  | n + 1, x => by
    rw [show x = x % 256 + 256 * (x / 256) by omega, low_step _ _ _ (by omega)]
    have := (p1 ⟨x % 256, by omega⟩).2.2.1
    simp only at this
    omega
/-- The counts of the bytes, byte by byte. -/
def cnt : Nat → Nat → Nat
  | 0, _ => 0
  | n + 1, x => pc 8 (x % 256) + 256 * cnt n (x / 256)
theorem S3_low : ∀ n x, S3 n (low n x) = cnt n x
  | 0, x => by simp [S3, M, cnt]
  | n + 1, x => by
    have hx : x = x % 256 + 256 * (x / 256) := by omega
    have hp := p1 ⟨x % 256, by omega⟩
    simp only at hp
    conv => lhs; rw [hx]
    rw [low_step _ _ _ (by omega), S3_step _ _ _ hp.2.1 (low_mod _ _), hp.2.2.2, S3_low n (x / 256)]
    rfl
theorem pc8_mod (x : Nat) : pc 8 (x % 256) = pc 8 x := by
  simp only [pc]
  omega
theorem cnt8 (x : Nat) : ∃ p0 p1 p2 p3 p4 p5 p6 p7 : Nat, p0 ≤ 8 ∧ p1 ≤ 8 ∧ p2 ≤ 8 ∧ p3 ≤ 8 ∧ p4 ≤ 8 ∧ p5 ≤ 8 ∧ p6 ≤ 8 ∧ p7 ≤ 8 ∧
    cnt 8 x = p0 + 256 * (p1 + 256 * (p2 + 256 * (p3 + 256 * (p4 + 256 * (p5 + 256 * (p6 + 256 * p7)))))) ∧ pc 64 x = p0 + p1 + p2 + p3 + p4 + p5 + p6 + p7 := by
  refine ⟨_, _, _, _, _, _, _, _, pc_le 8 (x % 256), pc_le 8 (x / 256 % 256), pc_le 8 (x / 256 / 256 % 256), pc_le 8 (x / 256 / 256 / 256 % 256), pc_le 8 (x / 256 / 256 / 256 / 256 % 256), pc_le 8 (x / 256 / 256 / 256 / 256 / 256 % 256), pc_le 8 (x / 256 / 256 / 256 / 256 / 256 / 256 % 256), pc_le 8 (x / 256 / 256 / 256 / 256 / 256 / 256 / 256 % 256), by simp only [cnt, Nat.mul_zero, Nat.add_zero], ?_⟩
  simp only [pc8_mod]
  rw [show 64 = 8 + (8 + (8 + (8 + (8 + (8 + (8 + (8 + 0))))))) from rfl]
  simp only [pc_add, show (2 : Nat) ^ 8 = 256 from rfl]
  simp only [show ∀ y, pc 0 y = 0 from fun _ => rfl, Nat.add_zero, Nat.add_assoc]
theorem low_lt (x : Nat) (_hx : x < 18446744073709551616) : S1 8 x < 18446744073709551616 ∧ low 8 x ≤ 4919131752989213764 := by
  have h1 : ∀ c n z, z &&& M c n ≤ M c n := fun c n z => Nat.and_le_right
  have e1 : M 85 8 = 6148914691236517205 := by decide
  have a1 := h1 85 8 (x / 2)
  have a2 := h1 85 8 x
  refine ⟨by unfold S1; omega, ?_⟩
  have key : ∀ n x, low n x ≤ M 68 n := by
    intro n
    induction n with
    | zero => intro x; simp [low, S1, S2, M]
    | succ n ih =>
      intro x
      rw [show x = x % 256 + 256 * (x / 256) by omega, low_step _ _ _ (by omega), M]
      have := (p1 ⟨x % 256, by omega⟩).2.1
      simp only at this
      have := ih (x / 256)
      omega
  have := key 8 x
  have e2 : M 68 8 = 4919131752989213764 := by decide
  omega
theorem div_of (a R n : Nat) (h : a < n) : (a + n * R) / n = R := by
  rw [Nat.add_mul_div_left _ _ (by omega), Nat.div_eq_of_lt h, Nat.zero_add]
theorem fin_sum (x : Nat) (X : Nat) (h : X = cnt 8 x) :
    (((X + X / 256) % 18446744073709551616 + (X + X / 256) % 18446744073709551616 / 65536) % 18446744073709551616 + ((X + X / 256) % 18446744073709551616 + (X + X / 256) % 18446744073709551616 / 65536) % 18446744073709551616 / 4294967296) % 18446744073709551616 % 128 = pc 64 x := by
  obtain ⟨p0, p1, p2, p3, p4, p5, p6, p7, h0, h1, h2, h3, h4, h5, h6, h7, hX, hp⟩ := cnt8 x
  rw [← h] at hX
  rw [hp]
  clear h hp
  have a1 : X / 256 = p1 + 256 * (p2 + 256 * (p3 + 256 * (p4 + 256 * (p5 + 256 * (p6 + 256 * p7))))) := by rw [hX]; exact div_of _ _ _ (by omega)
  have b1 : (X + X / 256) % 18446744073709551616 = (p0 + p1) + 256 * ((p1 + p2) + 256 * ((p2 + p3) + 256 * ((p3 + p4) + 256 * ((p4 + p5) + 256 * ((p5 + p6) + 256 * ((p6 + p7) + 256 * p7)))))) := by
    rw [a1, hX, Nat.mod_eq_of_lt (by omega)]; omega
  rw [b1]
  have c1 : ((p0 + p1) + 256 * ((p1 + p2) + 256 * ((p2 + p3) + 256 * ((p3 + p4) + 256 * ((p4 + p5) + 256 * ((p5 + p6) + 256 * ((p6 + p7) + 256 * p7))))))) / 65536 = (p2 + p3) + 256 * ((p3 + p4) + 256 * ((p4 + p5) + 256 * ((p5 + p6) + 256 * ((p6 + p7) + 256 * p7)))) := by
    rw [show (p0 + p1) + 256 * ((p1 + p2) + 256 * ((p2 + p3) + 256 * ((p3 + p4) + 256 * ((p4 + p5) + 256 * ((p5 + p6) + 256 * ((p6 + p7) + 256 * p7)))))) = ((p0 + p1) + 256 * (p1 + p2)) + 65536 * ((p2 + p3) + 256 * ((p3 + p4) + 256 * ((p4 + p5) + 256 * ((p5 + p6) + 256 * ((p6 + p7) + 256 * p7))))) by omega]
    exact div_of _ _ _ (by omega)
  rw [c1]
  have d1 : ((p0 + p1) + 256 * ((p1 + p2) + 256 * ((p2 + p3) + 256 * ((p3 + p4) + 256 * ((p4 + p5) + 256 * ((p5 + p6) + 256 * ((p6 + p7) + 256 * p7)))))) + ((p2 + p3) + 256 * ((p3 + p4) + 256 * ((p4 + p5) + 256 * ((p5 + p6) + 256 * ((p6 + p7) + 256 * p7)))))) % 18446744073709551616
      = ((p0 + p1 + p2 + p3) + 256 * ((p1 + p2 + p3 + p4) + 256 * ((p2 + p3 + p4 + p5) + 256 * (p3 + p4 + p5 + p6)))) + 4294967296 * ((p4 + p5 + p6 + p7) + 256 * ((p5 + p6 + p7) + 256 * ((p6 + p7) + 256 * p7))) := by
    rw [Nat.mod_eq_of_lt (by omega)]; omega
  rw [d1]
  generalize hA : (p0 + p1 + p2 + p3) + 256 * ((p1 + p2 + p3 + p4) + 256 * ((p2 + p3 + p4 + p5) + 256 * (p3 + p4 + p5 + p6))) = A
  generalize hB : (p4 + p5 + p6 + p7) + 256 * ((p5 + p6 + p7) + 256 * ((p6 + p7) + 256 * p7)) = B
  have hA1 : A < 4294967296 := by rw [← hA]; clear hA hB hX a1 b1 c1 d1; omega
  have hB1 : B < 4294967295 := by rw [← hB]; clear hA hB hX a1 b1 c1 d1 hA1; omega
  clear hX a1 b1 c1 d1
  have e0 : (A + 4294967296 * B) / 4294967296 = B := by clear hA hB; omega
  rw [e0]
  have hlt : A + 4294967296 * B + B < 18446744073709551616 := by clear hA hB e0; omega
  rw [Nat.mod_eq_of_lt hlt]
  clear e0 hlt hA1 hB1
  have e : (A + 4294967296 * B + B) = (p0 + p1 + p2 + p3 + p4 + p5 + p6 + p7) + 128 * (2 * ((p1 + p2 + p3 + p4) + 256 * ((p2 + p3 + p4 + p5) + 256 * (p3 + p4 + p5 + p6))) + 33554432 * B + 2 * ((p5 + p6 + p7) + 256 * ((p6 + p7) + 256 * p7))) := by
    generalize p0 + p1 + p2 + p3 = a at *
    omega
  rw [e, Nat.add_mul_mod_self_left]
  exact Nat.mod_eq_of_lt (by clear e hA hB; omega)
end Go.Proofs.YtpdhdogllejdbaaDoor
