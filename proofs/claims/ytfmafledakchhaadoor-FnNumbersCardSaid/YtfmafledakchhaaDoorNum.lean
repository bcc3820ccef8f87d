/- Decimal numerals: the digits of a number spell it again, and only it. -/
import Derived.Test.YtfmafledakchhaaDoorBase
import Derived.Lib.ItoaLen
import Derived.Lib.AtoiTie
namespace Go.Proofs.YtfmafledakchhaaDoor
theorem digits_ok : ∀ (n : Nat), ∀ c ∈ Lib.decDigits n, 48 ≤ c.toNat ∧ c.toNat ≤ 57 := by
  intro n
  induction n using Nat.strongRecOn with
  | ind n ih =>
    intro c hc
    rw [Lib.decDigits] at hc
    have hd : ∀ d, d < 10 → (UInt8.ofNat (48 + d)).toNat = 48 + d := by
      intro d hd
      rw [UInt8.toNat_ofNat']
      omega
    split at hc
    · simp only [List.mem_singleton] at hc
      rw [hc, hd n (by omega)]; omega
    · rw [List.mem_append, List.mem_singleton] at hc
      rcases hc with hc | hc
      · exact ih (n / 10) (by omega) c hc
      · rw [hc, hd (n % 10) (by omega)]; omega
def valF (a : Nat) (l : List UInt8) : Nat := l.foldl (fun a c => 10 * a + (c.toNat - 48)) a
theorem valF_snoc (a : Nat) (l : List UInt8) (c : UInt8) : valF a (l ++ [c]) = 10 * valF a l + (c.toNat - 48) := by simp [valF, List.foldl_append]
theorem val_digits : ∀ (n : Nat), valF 0 (Lib.decDigits n) = n := by
  intro n
  induction n using Nat.strongRecOn with
  | ind n ih =>
    have hd : ∀ d, d < 10 → (UInt8.ofNat (48 + d)).toNat = 48 + d := by
      intro d hd
      rw [UInt8.toNat_ofNat']
      omega
    rw [Lib.decDigits]
    split
    · simp only [valF, List.foldl_cons, List.foldl_nil]
      rw [hd n (by omega)]; omega
    · rw [valF_snoc, ih (n / 10) (by omega), hd (n % 10) (by omega)]
      omega
theorem digits_len (n k : Nat) (hk : 1 ≤ k) (h : n < 10 ^ k) : (Lib.decDigits n).length ≤ k := by
  induction k generalizing n with
  | zero => omega
  | succ k ih =>
    rw [Lib.decDigits]
    split
    · simp
    · rw [List.length_append]
      have hk1 : 1 ≤ k := by
        rcases Nat.eq_zero_or_pos k with h0 | h0
        · subst h0; simp at h; omega
        · exact h0
      have := ih (n / 10) hk1 (by rw [Nat.pow_succ] at h; omega)
      simp; omega
theorem decFrom_val : ∀ (l : List UInt8) (a : Nat), (∀ c ∈ l, 48 ≤ c.toNat ∧ c.toNat ≤ 57) → Lib.decFrom a l = some (valF a l) := by
  intro l
  induction l with
  | nil => intro a _; rfl
  | cons c r ih =>
    intro a h
    have hc := h c (by simp)
    simp only [Lib.decFrom, Lib.digitVal, hc, and_self, if_true]
    rw [ih _ (fun x hx => h x (by simp [hx]))]
    simp [valF, Nat.mul_comm]
theorem digits_ne (n : Nat) : Lib.decDigits n ≠ [] := by
  rw [Lib.decDigits]
  split <;> simp
theorem atoi_digits (n : Nat) (h : n ≤ 1000000000) : Lib.atoiAll (Lib.decDigits n) = .ok (n : Int) := by
  have hl := digits_len n 10 (by omega) (by omega)
  rw [Lib.atoiAll_short _ (by omega)]
  have hd := digits_ok n
  have hv := decFrom_val (Lib.decDigits n) 0 hd
  rw [val_digits] at hv
  have hne := digits_ne n
  cases hD : Lib.decDigits n with
  | nil => exact absurd hD hne
  | cons c r =>
    rw [hD] at hv hd
    have hc := hd c (by simp)
    have h45 : (c == 45) = false := by
      rw [beq_eq_false_iff_ne]; intro e; subst e; exact absurd hc.1 (by decide)
    have h43 : (c == 43) = false := by
      rw [beq_eq_false_iff_ne]; intro e; subst e; exact absurd hc.1 (by decide)
    simp only [Lib.atoi, h45, h43, Lib.decNat, List.isEmpty_cons, if_false, Bool.false_eq_true, hv, Option.map]
    rfl
/-- s is the numeral of n, and n is at most MaxUint. -/
def IsNum (s : ByteArray) (n : Nat) : Prop := n ≤ 1000000000 ∧ bs (Lib.itoa (n : Int)) = s
theorem IsNum.data {s : ByteArray} {n : Nat} (h : IsNum s n) : s.data.toList = Lib.decDigits n := by
  rw [← h.2, Lib.itoa_nonneg]; simp [bs]
theorem IsNum.one {s : ByteArray} {n m : Nat} (h : IsNum s n) (k : IsNum s m) : n = m := by
  have a := val_digits n
  have b := val_digits m
  rw [← h.data] at a
  rw [← k.data] at b
  omega
theorem IsNum.size {s : ByteArray} {n : Nat} (h : IsNum s n) : s.size ≤ 10 := by
  have := digits_len n 10 (by omega) (by have := h.1; omega)
  rw [← h.data] at this
  simpa using this
end Go.Proofs.YtfmafledakchhaaDoor
