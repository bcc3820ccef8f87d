/- Weights as lists of integers: when a list is one of weights, its sum over the bits of a number, what a jump on a line loses, the first broken line, the sum of two lists. Of no program. -/
import Derived.Test.YtdeciglcfabgpaaJumps
import Derived.Test.YtdeciglcfabgpaaPegsAll
import Derived.Test.YtdeciglcfabgpaaLinesAll
namespace Go.Proofs.Ytdeciglcfabgpaa
open Go.RowKit
set_option linter.unusedVariables false
set_option linter.unusedSimpArgs false
/-- A number that can be a weight. -/
def inW (x : Int) : Bool := inB x (-1000) 1000
theorem inW_iff {x : Int} : inW x = true ↔ -1000 ≤ x ∧ x ≤ 1000 := by simp [inW, inB]
theorem inW_no {x : Int} (h : inW x = false) : x < -1000 ∨ 1000 < x := by
  have : ¬ (-1000 ≤ x ∧ x ≤ 1000) := fun hh => by rw [inW_iff.2 hh] at h; cases h
  omega
/-- A list of weights of a grid of n places. -/
def wtsB (n : Int) (xs : List Int) : Bool := decide ((xs.length : Int) = n) && xs.all inW
def wOkB (W H Z : Int) (xs : List Int) : Bool := okB W H Z && wtsB (W * H) xs
/-- The weight of an index. -/
def wAt (xs : List Int) (k : Nat) : Int := xs.getD k 0
def lossL (xs : List Int) (l : Ln) : Int := wAt xs l.1.toNat + wAt xs l.2.1.toNat - wAt xs l.2.2.toNat
def badL (xs : List Int) (l : Ln) : Bool := decide (lossL xs l < 0)
def brkL (W H Z : Int) (xs : List Int) : Option Ln := if wOkB W H Z xs then (lnsOf W H Z).find? (badL xs) else none
def fallB (W H Z : Int) (xs : List Int) : Bool := wOkB W H Z xs && (brkL W H Z xs).isNone
def sumTo (xs : List Int) (p : Nat) : Nat → Int
  | 0 => 0
  | k + 1 => sumTo xs p k + (if bit p k then wAt xs k else 0)
def sumB (W H Z : Int) (xs : List Int) (P : Int) : Int := if wOkB W H Z xs && posB W H Z P then sumTo xs P.toNat xs.length else 0
def addL (xs ys : List Int) : List Int := List.zipWith (· + ·) xs ys
def addB (W H Z : Int) (xs ys : List Int) : List Int × Bool := if wOkB W H Z xs && wOkB W H Z ys && wOkB W H Z (addL xs ys) then (addL xs ys, true) else ([], false)
def lossB (W H Z : Int) (xs : List Int) (l : Ln) : Int := if wOkB W H Z xs && (lnsOf W H Z).contains l then lossL xs l else 0
theorem wOkB_no {W H Z : Int} {xs : List Int} (h : okB W H Z = false) : wOkB W H Z xs = false := by simp [wOkB, h]
/-- What is told of weights. -/
theorem wOk_yes {W H Z : Int} {xs : List Int} (h : wOkB W H Z xs = true) : okB W H Z = true ∧ (xs.length : Int) = W * H ∧ xs.all inW = true := by
  simp only [wOkB, wtsB, Bool.and_eq_true, decide_eq_true_eq] at h
  exact h
theorem wAt_get {xs : List Int} {k : Nat} {x : Int} (h : xs[k]? = some x) : wAt xs k = x := by simp [wAt, List.getD, h]
theorem get_wAt {xs : List Int} {k : Nat} (h : k < xs.length) : xs[k]? = some (wAt xs k) := by simp [wAt, List.getD, h]
theorem all_get {xs : List Int} (h : xs.all inW = true) {k : Nat} {x : Int} (hk : xs[k]? = some x) : -1000 ≤ x ∧ x ≤ 1000 := by
  rw [List.all_eq_true] at h
  exact inW_iff.1 (h x (List.mem_of_getElem? hk))
theorem all_wAt {xs : List Int} (h : xs.all inW = true) (k : Nat) : -1000 ≤ wAt xs k ∧ wAt xs k ≤ 1000 := by
  rcases Nat.lt_or_ge k xs.length with hk | hk
  · exact all_get h (get_wAt hk)
  · simp [wAt, List.getD, List.getElem?_eq_none hk]
theorem all_of {xs : List Int} (h : ∀ (k : Nat) x, xs[k]? = some x → inW x = true) : xs.all inW = true := by
  rw [List.all_eq_true]
  intro x hx
  obtain ⟨k, hk⟩ := List.mem_iff_getElem?.1 hx
  exact h k x hk
theorem all_not {xs : List Int} {k : Nat} {x : Int} (hk : xs[k]? = some x) (h : inW x = false) : xs.all inW = false := by
  rw [← Bool.not_eq_true]
  intro hh
  rw [List.all_eq_true] at hh
  rw [hh x (List.mem_of_getElem? hk)] at h
  cases h
theorem sumTo_le {xs : List Int} (h : xs.all inW = true) (p : Nat) : ∀ k : Nat, -1000 * (k : Int) ≤ sumTo xs p k ∧ sumTo xs p k ≤ 1000 * (k : Int)
  | 0 => by simp [sumTo]
  | k + 1 => by
    have h1 := sumTo_le h p k
    have h2 := all_wAt h k
    have e : sumTo xs p (k + 1) = sumTo xs p k + (if bit p k then wAt xs k else 0) := rfl
    rw [e]
    split <;> omega
theorem loss_le {xs : List Int} (h : xs.all inW = true) (l : Ln) : -3000 ≤ lossL xs l ∧ lossL xs l ≤ 3000 := by
  have h1 := all_wAt h l.1.toNat
  have h2 := all_wAt h l.2.1.toNat
  have h3 := all_wAt h l.2.2.toNat
  unfold lossL
  omega
/-- The sum over a list of indices. -/
def sumOn (xs : List Int) (ks : List Nat) : Int := (ks.map (wAt xs)).sum
theorem sumOn_snoc (xs : List Int) (ks : List Nat) (k : Nat) : sumOn xs (ks ++ [k]) = sumOn xs ks + wAt xs k := by simp [sumOn]
theorem sumOn_bits (xs : List Int) (p : Nat) : ∀ n, sumOn xs (bitsOf n p) = sumTo xs p n
  | 0 => rfl
  | n + 1 => by
    have e : sumTo xs p (n + 1) = sumTo xs p n + (if bit p n then wAt xs n else 0) := rfl
    rw [e]
    cases h : bit p n
    · rw [bitsOf_no h, sumOn_bits xs p n]; simp
    · rw [bitsOf_yes h, sumOn_snoc, sumOn_bits xs p n]; simp
theorem sumOn_le {xs : List Int} (h : xs.all inW = true) : ∀ ks : List Nat, -1000 * (ks.length : Int) ≤ sumOn xs ks ∧ sumOn xs ks ≤ 1000 * (ks.length : Int)
  | [] => by simp [sumOn]
  | k :: ks => by
    have h1 := sumOn_le h ks
    have h2 := all_wAt h k
    have e : sumOn xs (k :: ks) = wAt xs k + sumOn xs ks := by simp [sumOn]
    rw [e, List.length_cons]
    omega
/-- A line of a board in the list of weights. -/
theorem line_wts {a b N z : Nat} {xs : List Int} (h : Ok (a : Int) (b : Int) N z) (hn : (xs.length : Int) = (a : Int) * (b : Int)) {l : Ln} (hl : l ∈ linesOf a b z (bitsOf N z)) :
    ∃ f o t : Nat, l = ((f : Int), (o : Int), (t : Int)) ∧ f < xs.length ∧ o < xs.length ∧ t < xs.length ∧ bit z f = true ∧ bit z o = true ∧ bit z t = true ∧ f ≠ o ∧ f ≠ t ∧ o ≠ t := by
  obtain ⟨hN, ha, -⟩ := h.nat
  obtain ⟨f, o, t, L⟩ := mem_at hN ha hl
  have e : xs.length = a * b := by
    have : ((xs.length : Nat) : Int) = ((a * b : Nat) : Int) := by rw [hn]; simp
    exact Int.ofNat.inj this
  exact ⟨f, o, t, L.eq, by rw [e]; exact L.fN, by rw [e]; exact L.oN, by rw [e]; exact L.tN, L.bf, L.bo, L.bt, L.fo, L.ft, L.ot⟩
/-- Lists of n numbers of magnitude at most c. -/
def Bnd (n : Nat) (c : Int) (l : List Int) : Prop := l.length = n ∧ ∀ (k : Nat) x, l[k]? = some x → -c ≤ x ∧ x ≤ c
theorem wts_bnd {N : Nat} {xs : List Int} (h : wtsB N xs = true) : Bnd N 1000 xs := by
  simp only [wtsB, Bool.and_eq_true, decide_eq_true_eq] at h
  exact ⟨by omega, fun k x hk => all_get h.2 hk⟩
theorem addL_get {a b : List Int} {k : Nat} {x : Int} (h : (addL a b)[k]? = some x) : ∃ u v, a[k]? = some u ∧ b[k]? = some v ∧ x = u + v := by
  unfold addL at h
  rw [List.getElem?_zipWith] at h
  cases hu : a[k]? with
  | none => rw [hu] at h; cases h
  | some u => cases hv : b[k]? with
    | none => rw [hu, hv] at h; cases h
    | some v => rw [hu, hv] at h; exact ⟨u, v, rfl, rfl, (Option.some.inj h).symm⟩
theorem get_addL {a b : List Int} {k : Nat} {u v : Int} (ha : a[k]? = some u) (hb : b[k]? = some v) : (addL a b)[k]? = some (u + v) := by
  unfold addL
  rw [List.getElem?_zipWith, ha, hb]
theorem Bnd.add {n : Nat} {c d : Int} {a b : List Int} (ha : Bnd n c a) (hb : Bnd n d b) : Bnd n (c + d) (addL a b) := by
  refine ⟨by rw [addL, List.length_zipWith, ha.1, hb.1]; omega, fun k x hk => ?_⟩
  obtain ⟨u, v, h1, h2, rfl⟩ := addL_get hk
  have := ha.2 k u h1
  have := hb.2 k v h2
  omega
theorem Bnd.zero (n : Nat) : Bnd n 0 (List.replicate n 0) := by
  refine ⟨by simp, fun k x hk => ?_⟩
  rw [List.getElem?_replicate] at hk
  split at hk
  · cases hk; omega
  · cases hk
theorem addL_zero {n : Nat} {b : List Int} (h : b.length = n) : addL (List.replicate n 0) b = b := by
  apply List.ext_getElem?
  intro k
  unfold addL
  rw [List.getElem?_zipWith, List.getElem?_replicate]
  by_cases hk : k < n
  · rw [if_pos hk]
    cases hb : b[k]? with
    | none => rfl
    | some v => simp
  · rw [if_neg hk, List.getElem?_eq_none (show b.length ≤ k by omega)]
/-- A list whose first j numbers are those of another. -/
theorem put_int (ys l : List Int) {j n : Nat} {x : Int} (hl : l.length = n) (ha : ys.length = n) (hj : ys[j]? = some x) : (iv (ys.take j ++ l.drop j)).set j (.int .i64 x) = iv (ys.take (j + 1) ++ l.drop (j + 1)) := by
  have hjn : j < n := by rw [← ha]; exact (List.getElem?_eq_some_iff.1 hj).1
  rw [take_one hj, List.drop_eq_getElem_cons (show j < l.length by omega)]
  have hL : (ys.take j).length = j := by rw [List.length_take]; omega
  generalize ys.take j = L at *
  generalize l.drop (j + 1) = r
  subst hL
  simp [iv, List.set_append_right]
end Go.Proofs.Ytdeciglcfabgpaa
