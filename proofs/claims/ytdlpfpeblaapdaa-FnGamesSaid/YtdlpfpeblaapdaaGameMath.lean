/- Games in numbers: what a run of steps makes of a position; the positions on the way; the sweeps. Of no program. -/
import Derived.Test.YtdlpfpeblaapdaaJumpsD
import Derived.Test.YtdlpfpeblaapdaaUndosD
namespace Go.Proofs.Ytdlpfpeblaapdaa
set_option linter.unusedVariables false
set_option linter.unusedSimpArgs false
/-- One step; none if it fails. -/
def stO (st : Int → Ln → Int × Bool) : Option Int → Ln → Option Int
  | none, _ => none
  | some q, l => if (st q l).2 = true then some (st q l).1 else none
def runO (st : Int → Ln → Int × Bool) (P : Int) (xs : List Ln) : Option Int := xs.foldl (stO st) (some P)
theorem runO_nil (st : Int → Ln → Int × Bool) (P : Int) : runO st P [] = some P := rfl
theorem runO_snoc (st : Int → Ln → Int × Bool) (P : Int) (xs : List Ln) (l : Ln) : runO st P (xs ++ [l]) = stO st (runO st P xs) l := by simp [runO, List.foldl_append]
theorem foldl_none (st : Int → Ln → Int × Bool) (xs : List Ln) : xs.foldl (stO st) none = none := by
  induction xs with
  | nil => rfl
  | cons x xs ih => exact ih
theorem runO_cut {st : Int → Ln → Int × Bool} {P : Int} {xs : List Ln} {k : Nat} (h : runO st P (xs.take k) = none) : runO st P xs = none := by
  rw [← List.take_append_drop k xs, runO, List.foldl_append]
  rw [runO] at h
  rw [h]; exact foldl_none st _
theorem runO_yes {st : Int → Ln → Int × Bool} {P q : Int} {xs : List Ln} {k : Nat} {l : Ln} (hk : xs[k]? = some l) (h : runO st P (xs.take k) = some q) (hs : (st q l).2 = true) : runO st P (xs.take (k + 1)) = some (st q l).1 := by
  rw [take_one hk, runO_snoc, h]; simp [stO, hs]
theorem runO_no {st : Int → Ln → Int × Bool} {P q : Int} {xs : List Ln} {k : Nat} {l : Ln} (hk : xs[k]? = some l) (h : runO st P (xs.take k) = some q) (hs : (st q l).2 = false) : runO st P xs = none := by
  refine runO_cut (k := k + 1) ?_
  rw [take_one hk, runO_snoc, h]; simp [stO, hs]
/-- A run that ends well goes well at each step. -/
theorem runO_at {st : Int → Ln → Int × Bool} {P q : Int} {xs : List Ln} {k : Nat} {l : Ln} (h : runO st P xs = some q) (hk : xs[k]? = some l) : ∃ r, runO st P (xs.take k) = some r ∧ (st r l).2 = true := by
  cases hr : runO st P (xs.take k) with
  | none => rw [runO_cut hr] at h; cases h
  | some r =>
    cases hs : (st r l).2
    · rw [runO_no hk hr hs] at h; cases h
    · exact ⟨r, rfl, hs⟩
/-- All the steps of a game, from a valid position, at most 60 of them. -/
def allB (st : Int → Ln → Int × Bool) (W H Z P : Int) (xs : List Ln) : Int × Bool :=
  if posB W H Z P = true ∧ xs.length ≤ 60 then (match runO st P xs with | some q => (q, true) | none => (P, false)) else (P, false)
theorem allB_pos {st : Int → Ln → Int × Bool} {W H Z P : Int} {xs : List Ln} (h : posB W H Z P = false) : allB st W H Z P xs = (P, false) := by simp [allB, h]
theorem allB_long {st : Int → Ln → Int × Bool} {W H Z P : Int} {xs : List Ln} (h : 60 < xs.length) : allB st W H Z P xs = (P, false) := by
  unfold allB; rw [if_neg (by rintro ⟨-, h2⟩; omega)]
theorem allB_no {st : Int → Ln → Int × Bool} {W H Z P : Int} {xs : List Ln} (h : runO st P xs = none) : allB st W H Z P xs = (P, false) := by
  unfold allB; rw [h]; split <;> rfl
theorem allB_yes {st : Int → Ln → Int × Bool} {W H Z P q : Int} {xs : List Ln} (hp : posB W H Z P = true) (hn : xs.length ≤ 60) (h : runO st P xs = some q) : allB st W H Z P xs = (q, true) := by
  unfold allB; rw [h, if_pos ⟨hp, hn⟩]
theorem allB_ok {st : Int → Ln → Int × Bool} {W H Z P : Int} {xs : List Ln} (h : (allB st W H Z P xs).2 = true) : posB W H Z P = true ∧ xs.length ≤ 60 ∧ ∃ q, runO st P xs = some q ∧ allB st W H Z P xs = (q, true) := by
  cases hp : posB W H Z P
  · rw [allB_pos hp] at h; cases h
  · rcases Nat.lt_or_ge 60 xs.length with h1 | h1
    · rw [allB_long h1] at h; cases h
    · cases hr : runO st P xs with
      | none => rw [allB_no hr] at h; cases h
      | some q => exact ⟨rfl, h1, q, rfl, allB_yes hp h1 hr⟩
theorem allB_fst {st : Int → Ln → Int × Bool} {W H Z P : Int} {xs : List Ln} (h : (allB st W H Z P xs).2 = false) : allB st W H Z P xs = (P, false) := by
  cases hp : posB W H Z P
  · exact allB_pos hp
  · rcases Nat.lt_or_ge 60 xs.length with h1 | h1
    · exact allB_long h1
    · cases hr : runO st P xs with
      | none => exact allB_no hr
      | some q => rw [allB_yes hp h1 hr] at h; cases h
def playB (W H Z P : Int) (xs : List Ln) : Int × Bool := allB (doB W H Z) W H Z P xs
def unplayB (W H Z P : Int) (xs : List Ln) : Int × Bool := allB (backB W H Z) W H Z P xs.reverse
theorem do_ok {W H Z P : Int} {l : Ln} : (doB W H Z P l).2 = jumpB W H Z P l := by cases h : jumpB W H Z P l <;> simp [doB, h]
theorem back_ok {W H Z P : Int} {l : Ln} : (backB W H Z P l).2 = undoB W H Z P l := by cases h : undoB W H Z P l <;> simp [backB, h]
/-- The first step of a run asks for a valid position. -/
theorem do_pos {W H Z P : Int} {l : Ln} (h : (doB W H Z P l).2 = true) : posB W H Z P = true := by
  rw [do_ok] at h; simp only [jumpB, Bool.and_eq_true] at h; exact h.1.1
theorem back_pos {W H Z P : Int} {l : Ln} (h : (backB W H Z P l).2 = true) : posB W H Z P = true := by
  rw [back_ok] at h; simp only [undoB, Bool.and_eq_true] at h; exact h.1.1
theorem do_big {W H Z P : Int} {l : Ln} (h : (doB W H Z P l).2 = true) : ∃ x : Nat, (doB W H Z P l).1 = (x : Int) ∧ x < 562949953421312 := by
  rw [do_ok] at h
  obtain ⟨a, b, N, z, p, f, o, t, S, -⟩ := jump_set h
  exact ⟨flipN p f o t, by rw [do_yes h, S.flip], flip_big S⟩
theorem back_big {W H Z P : Int} {l : Ln} (h : (backB W H Z P l).2 = true) : ∃ x : Nat, (backB W H Z P l).1 = (x : Int) ∧ x < 562949953421312 := by
  rw [back_ok] at h
  obtain ⟨a, b, N, z, p, f, o, t, S, -⟩ := undo_set h
  exact ⟨flipN p f o t, by rw [back_yes h, S.flip], flip_big S⟩
/-- The position behind a game whose jumps can be played. -/
def endL (P : Int) (xs : List Ln) : Int := xs.foldl flipL P
theorem endL_snoc (P : Int) (xs : List Ln) (l : Ln) : endL P (xs ++ [l]) = flipL (endL P xs) l := by simp [endL]
/-- The positions of a game. -/
def walkL : Int → List Ln → List Int
  | P, [] => [P]
  | P, l :: ls => P :: walkL (flipL P l) ls
theorem walkL_length (P : Int) (xs : List Ln) : (walkL P xs).length = xs.length + 1 := by
  induction xs generalizing P with
  | nil => rfl
  | cons x xs ih => simp [walkL, ih]
theorem walkL_snoc (P : Int) (xs : List Ln) (l : Ln) : walkL P (xs ++ [l]) = walkL P xs ++ [flipL (endL P xs) l] := by
  induction xs generalizing P with
  | nil => rfl
  | cons x xs ih => show P :: walkL (flipL P x) (xs ++ [l]) = _; rw [ih]; rfl
theorem walkL_get (P : Int) (xs : List Ln) (k : Nat) (hk : k ≤ xs.length) : (walkL P xs)[k]? = some (endL P (xs.take k)) := by
  induction xs generalizing P k with
  | nil => obtain rfl : k = 0 := by simpa using hk
           rfl
  | cons x xs ih =>
    cases k with
    | zero => rfl
    | succ k => simp only [walkL, List.getElem?_cons_succ]; rw [ih _ k (by simpa using hk)]; rfl
theorem run_end {W H Z P q : Int} {xs : List Ln} (h : runO (doB W H Z) P xs = some q) : q = endL P xs := by
  induction xs generalizing P with
  | nil => rw [runO_nil] at h; exact (Option.some.inj h).symm
  | cons x xs ih =>
    have h' : xs.foldl (stO (doB W H Z)) (stO (doB W H Z) (some P) x) = some q := h
    cases hj : jumpB W H Z P x
    · rw [show stO (doB W H Z) (some P) x = none by simp [stO, do_ok, hj], foldl_none] at h'; cases h'
    · rw [show stO (doB W H Z) (some P) x = some (flipL P x) by simp [stO, do_ok, hj, do_yes hj]] at h'
      exact ih h'
/-- What is told of the step k of a game that can be played. -/
theorem run_at {W H Z P q : Int} {xs : List Ln} {k : Nat} {l : Ln} (h : runO (doB W H Z) P xs = some q) (hk : xs[k]? = some l) : jumpB W H Z (endL P (xs.take k)) l = true ∧ flipL (endL P (xs.take k)) l = endL P (xs.take (k + 1)) := by
  obtain ⟨r, hr, hs⟩ := runO_at h hk
  rw [do_ok] at hs
  rw [← run_end hr]
  refine ⟨hs, ?_⟩
  rw [take_one hk, endL_snoc, ← run_end hr]
def posL (W H Z P : Int) (xs : List Ln) : List Int := if (playB W H Z P xs).2 = true then walkL P xs else []
theorem posL_le (W H Z P : Int) (xs : List Ln) : (posL W H Z P xs).length ≤ 61 := by
  unfold posL
  split
  · rename_i h
    have := (allB_ok h).2.1
    rw [walkL_length]; omega
  · simp
def solB (W H Z P G : Int) (xs : List Ln) : Bool := (playB W H Z P xs).2 && ((playB W H Z P xs).1 == G)
/-- Whether the jump k goes on the sweep of the one before it. -/
def goesB (xs : List Ln) (k : Nat) : Bool := decide (0 < k) && ((xs.getD k (0, 0, 0)).1 == (xs.getD (k - 1) (0, 0, 0)).2.2)
def sweepsN (xs : List Ln) : Nat → Nat
  | 0 => 0
  | k + 1 => sweepsN xs k + (if goesB xs k = true then 0 else 1)
theorem sweeps_go {xs : List Ln} {k : Nat} (h : goesB xs k = true) : sweepsN xs (k + 1) = sweepsN xs k := by simp [sweepsN, h]
theorem sweeps_new {xs : List Ln} {k : Nat} (h : goesB xs k = false) : sweepsN xs (k + 1) = sweepsN xs k + 1 := by simp [sweepsN, h]
theorem goes_zero (xs : List Ln) : goesB xs 0 = false := rfl
theorem sweeps_le (xs : List Ln) (k : Nat) : sweepsN xs k ≤ k := by
  induction k with
  | zero => exact Nat.le_refl _
  | succ k ih => unfold sweepsN; split <;> omega
theorem sweeps_pos (xs : List Ln) {k : Nat} (hk : 0 < k) : 0 < sweepsN xs k := by
  induction k with
  | zero => omega
  | succ k ih =>
    rcases Nat.eq_zero_or_pos k with rfl | h
    · rw [sweeps_new (goes_zero xs)]; omega
    · have := ih h; unfold sweepsN; omega
end Go.Proofs.Ytdlpfpeblaapdaa
