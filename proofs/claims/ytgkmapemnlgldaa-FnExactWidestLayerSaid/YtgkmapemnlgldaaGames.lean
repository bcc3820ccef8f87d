/- Games in numbers: what a run of steps makes of a position; the positions on the way; the sweeps. Of no program. What is told of jumps and games of a valid position: a game can be undone as a whole, each jump removes one peg. Of no program. Slices of lines that come in as arguments: what the frame tells of them; szLineS and toLineS of the exact laws; a line stored into an owned list. Of at most 1048576 lines. Games: performAll, PlayAll of the program and PlayAll, UndoAll of the model over a list of lines. Of lists of at most 1048576 lines. slices.Clone and slices.Reverse at lists of lines, UndoAll of the program. Of lists of at most 1048576 lines. PositionsOf, IsSolution, CountSweeps of both over a list of lines. Of lists of at most 1048576 lines. -/
import Derived.Test.YtgkmapemnlgldaaJumps
import Derived.Test.YtgkmapemnlgldaaLinesAll
import Derived.Test.YtgkmapemnlgldaaBoards
import Derived.OwnWalk
import Derived.Deep.Slices
import Derived.Deep.Fields
import Derived.BigRegion
import Derived.Lib.SliceRun
namespace Go.Proofs.Ytgkmapemnlgldaa
set_option linter.unusedVariables false
set_option linter.unusedSimpArgs false
/-- One step; none if it fails. -/
def stO (st : Int → Ln → Int × Bool) : Option Int → Ln → Option Int
  | none, _ => none
  | some q, l => if (st q l).2 = true then some (st q l).1 else none
def runO (st : Int → Ln → Int × Bool) (P : Int) (xs : List Ln) : Option Int := xs.foldl (stO st) (some P)
theorem runO_nil (st : Int → Ln → Int × Bool) (P : Int) : runO st P [] = some P := rfl
theorem runO_snoc (st : Int → Ln → Int × Bool) (P : Int) (xs : List Ln) (l : Ln) : runO st P (xs ++ [l]) = stO st (runO st P xs) l := by simp [runO, List.foldl_append]
theorem foldl_none (st : Int → Ln → Int × Bool) (xs : List Ln) : xs.foldl (stO st) none = none := by
  induction xs with
  | nil => rfl
  | cons x xs ih => exact ih
theorem runO_cut {st : Int → Ln → Int × Bool} {P : Int} {xs : List Ln} {k : Nat} (h : runO st P (xs.take k) = none) : runO st P xs = none := by
  rw [← List.take_append_drop k xs, runO, List.foldl_append]
  rw [runO] at h
  rw [h]; exact foldl_none st _
theorem runO_yes {st : Int → Ln → Int × Bool} {P q : Int} {xs : List Ln} {k : Nat} {l : Ln} (hk : xs[k]? = some l) (h : runO st P (xs.take k) = some q) (hs : (st q l).2 = true) : runO st P (xs.take (k + 1)) = some (st q l).1 := by
  rw [take_one hk, runO_snoc, h]; simp [stO, hs]
theorem runO_no {st : Int → Ln → Int × Bool} {P q : Int} {xs : List Ln} {k : Nat} {l : Ln} (hk : xs[k]? = some l) (h : runO st P (xs.take k) = some q) (hs : (st q l).2 = false) : runO st P xs = none := by
  refine runO_cut (k := k + 1) ?_
  rw [take_one hk, runO_snoc, h]; simp [stO, hs]
/-- A run that ends well goes well at each step. -/
theorem runO_at {st : Int → Ln → Int × Bool} {P q : Int} {xs : List Ln} {k : Nat} {l : Ln} (h : runO st P xs = some q) (hk : xs[k]? = some l) : ∃ r, runO st P (xs.take k) = some r ∧ (st r l).2 = true := by
  cases hr : runO st P (xs.take k) with
  | none => rw [runO_cut hr] at h; cases h
  | some r =>
    cases hs : (st r l).2
    · rw [runO_no hk hr hs] at h; cases h
    · exact ⟨r, rfl, hs⟩
/-- All the steps of a game, from a valid position, at most 60 of them. -/
def allB (st : Int → Ln → Int × Bool) (W H Z P : Int) (xs : List Ln) : Int × Bool :=
  if posB W H Z P = true ∧ xs.length ≤ 60 then (match runO st P xs with | some q => (q, true) | none => (P, false)) else (P, false)
theorem allB_pos {st : Int → Ln → Int × Bool} {W H Z P : Int} {xs : List Ln} (h : posB W H Z P = false) : allB st W H Z P xs = (P, false) := by simp [allB, h]
theorem allB_long {st : Int → Ln → Int × Bool} {W H Z P : Int} {xs : List Ln} (h : 60 < xs.length) : allB st W H Z P xs = (P, false) := by
  unfold allB; rw [if_neg (by rintro ⟨-, h2⟩; omega)]
theorem allB_no {st : Int → Ln → Int × Bool} {W H Z P : Int} {xs : List Ln} (h : runO st P xs = none) : allB st W H Z P xs = (P, false) := by
  unfold allB; rw [h]; split <;> rfl
theorem allB_yes {st : Int → Ln → Int × Bool} {W H Z P q : Int} {xs : List Ln} (hp : posB W H Z P = true) (hn : xs.length ≤ 60) (h : runO st P xs = some q) : allB st W H Z P xs = (q, true) := by
  unfold allB; rw [h, if_pos ⟨hp, hn⟩]
theorem allB_ok {st : Int → Ln → Int × Bool} {W H Z P : Int} {xs : List Ln} (h : (allB st W H Z P xs).2 = true) : posB W H Z P = true ∧ xs.length ≤ 60 ∧ ∃ q, runO st P xs = some q ∧ allB st W H Z P xs = (q, true) := by
  cases hp : posB W H Z P
  · rw [allB_pos hp] at h; cases h
  · rcases Nat.lt_or_ge 60 xs.length with h1 | h1
    · rw [allB_long h1] at h; cases h
    · cases hr : runO st P xs with
      | none => rw [allB_no hr] at h; cases h
      | some q => exact ⟨rfl, h1, q, rfl, allB_yes hp h1 hr⟩
theorem allB_fst {st : Int → Ln → Int × Bool} {W H Z P : Int} {xs : List Ln} (h : (allB st W H Z P xs).2 = false) : allB st W H Z P xs = (P, false) := by
  cases hp : posB W H Z P
  · exact allB_pos hp
  · rcases Nat.lt_or_ge 60 xs.length with h1 | h1
    · exact allB_long h1
    · cases hr : runO st P xs with
      | none => exact allB_no hr
      | some q => rw [allB_yes hp h1 hr] at h; cases h
def playB (W H Z P : Int) (xs : List Ln) : Int × Bool := allB (doB W H Z) W H Z P xs
def unplayB (W H Z P : Int) (xs : List Ln) : Int × Bool := allB (backB W H Z) W H Z P xs.reverse
theorem do_ok {W H Z P : Int} {l : Ln} : (doB W H Z P l).2 = jumpB W H Z P l := by cases h : jumpB W H Z P l <;> simp [doB, h]
theorem back_ok {W H Z P : Int} {l : Ln} : (backB W H Z P l).2 = undoB W H Z P l := by cases h : undoB W H Z P l <;> simp [backB, h]
/-- The first step of a run asks for a valid position. -/
theorem do_pos {W H Z P : Int} {l : Ln} (h : (doB W H Z P l).2 = true) : posB W H Z P = true := by
  rw [do_ok] at h; simp only [jumpB, Bool.and_eq_true] at h; exact h.1.1
theorem back_pos {W H Z P : Int} {l : Ln} (h : (backB W H Z P l).2 = true) : posB W H Z P = true := by
  rw [back_ok] at h; simp only [undoB, Bool.and_eq_true] at h; exact h.1.1
theorem do_big {W H Z P : Int} {l : Ln} (h : (doB W H Z P l).2 = true) : ∃ x : Nat, (doB W H Z P l).1 = (x : Int) ∧ x < 562949953421312 := by
  rw [do_ok] at h
  obtain ⟨a, b, N, z, p, f, o, t, S, -⟩ := jump_set h
  exact ⟨flipN p f o t, by rw [do_yes h, S.flip], flip_big S⟩
theorem back_big {W H Z P : Int} {l : Ln} (h : (backB W H Z P l).2 = true) : ∃ x : Nat, (backB W H Z P l).1 = (x : Int) ∧ x < 562949953421312 := by
  rw [back_ok] at h
  obtain ⟨a, b, N, z, p, f, o, t, S, -⟩ := undo_set h
  exact ⟨flipN p f o t, by rw [back_yes h, S.flip], flip_big S⟩
/-- The position behind a game whose jumps can be played. -/
def endL (P : Int) (xs : List Ln) : Int := xs.foldl flipL P
theorem endL_snoc (P : Int) (xs : List Ln) (l : Ln) : endL P (xs ++ [l]) = flipL (endL P xs) l := by simp [endL]
/-- The positions of a game. -/
def walkL : Int → List Ln → List Int
  | P, [] => [P]
  | P, l :: ls => P :: walkL (flipL P l) ls
theorem walkL_length (P : Int) (xs : List Ln) : (walkL P xs).length = xs.length + 1 := by
  induction xs generalizing P with
  | nil => rfl
  | cons x xs ih => simp [walkL, ih]
theorem walkL_snoc (P : Int) (xs : List Ln) (l : Ln) : walkL P (xs ++ [l]) = walkL P xs ++ [flipL (endL P xs) l] := by
  induction xs generalizing P with
  | nil => rfl
  | cons x xs ih => show P :: walkL (flipL P x) (xs ++ [l]) = _; rw [ih]; rfl
theorem walkL_get (P : Int) (xs : List Ln) (k : Nat) (hk : k ≤ xs.length) : (walkL P xs)[k]? = some (endL P (xs.take k)) := by
  induction xs generalizing P k with
  | nil => obtain rfl : k = 0 := by simpa using hk
           rfl
  | cons x xs ih =>
    cases k with
    | zero => rfl
    | succ k => simp only [walkL, List.getElem?_cons_succ]; rw [ih _ k (by simpa using hk)]; rfl
theorem run_end {W H Z P q : Int} {xs : List Ln} (h : runO (doB W H Z) P xs = some q) : q = endL P xs := by
  induction xs generalizing P with
  | nil => rw [runO_nil] at h; exact (Option.some.inj h).symm
  | cons x xs ih =>
    have h' : xs.foldl (stO (doB W H Z)) (stO (doB W H Z) (some P) x) = some q := h
    cases hj : jumpB W H Z P x
    · rw [show stO (doB W H Z) (some P) x = none by simp [stO, do_ok, hj], foldl_none] at h'; cases h'
    · rw [show stO (doB W H Z) (some P) x = some (flipL P x) by simp [stO, do_ok, hj, do_yes hj]] at h'
      exact ih h'
/-- What is told of the step k of a game that can be played. -/
theorem run_at {W H Z P q : Int} {xs : List Ln} {k : Nat} {l : Ln} (h : runO (doB W H Z) P xs = some q) (hk : xs[k]? = some l) : jumpB W H Z (endL P (xs.take k)) l = true ∧ flipL (endL P (xs.take k)) l = endL P (xs.take (k + 1)) := by
  obtain ⟨r, hr, hs⟩ := runO_at h hk
  rw [do_ok] at hs
  rw [← run_end hr]
  refine ⟨hs, ?_⟩
  rw [take_one hk, endL_snoc, ← run_end hr]
def posL (W H Z P : Int) (xs : List Ln) : List Int := if (playB W H Z P xs).2 = true then walkL P xs else []
theorem posL_le (W H Z P : Int) (xs : List Ln) : (posL W H Z P xs).length ≤ 61 := by
  unfold posL
  split
  · rename_i h
    have := (allB_ok h).2.1
    rw [walkL_length]; omega
  · simp
def solB (W H Z P G : Int) (xs : List Ln) : Bool := (playB W H Z P xs).2 && ((playB W H Z P xs).1 == G)
/-- Whether the jump k goes on the sweep of the one before it. -/
def goesB (xs : List Ln) (k : Nat) : Bool := decide (0 < k) && ((xs.getD k (0, 0, 0)).1 == (xs.getD (k - 1) (0, 0, 0)).2.2)
def sweepsN (xs : List Ln) : Nat → Nat
  | 0 => 0
  | k + 1 => sweepsN xs k + (if goesB xs k = true then 0 else 1)
theorem sweeps_go {xs : List Ln} {k : Nat} (h : goesB xs k = true) : sweepsN xs (k + 1) = sweepsN xs k := by simp [sweepsN, h]
theorem sweeps_new {xs : List Ln} {k : Nat} (h : goesB xs k = false) : sweepsN xs (k + 1) = sweepsN xs k + 1 := by simp [sweepsN, h]
theorem goes_zero (xs : List Ln) : goesB xs 0 = false := rfl
theorem sweeps_le (xs : List Ln) (k : Nat) : sweepsN xs k ≤ k := by
  induction k with
  | zero => exact Nat.le_refl _
  | succ k ih => unfold sweepsN; split <;> omega
theorem sweeps_pos (xs : List Ln) {k : Nat} (hk : 0 < k) : 0 < sweepsN xs k := by
  induction k with
  | zero => omega
  | succ k ih =>
    rcases Nat.eq_zero_or_pos k with rfl | h
    · rw [sweeps_new (goes_zero xs)]; omega
    · have := ih h; unfold sweepsN; omega
end Go.Proofs.Ytgkmapemnlgldaa

namespace Go.Proofs.Ytgkmapemnlgldaa
set_option linter.unusedVariables false
set_option linter.unusedSimpArgs false
theorem posB_flip {W H Z P : Int} {l : Ln} {a b N z p f o t : Nat} (S : Set5 W H Z P l a b N z p f o t) : posB W H Z (flipN p f o t : Nat) = true := by
  rw [S.eW, S.eH, S.eZ]
  exact pos_of S.ok (part_flip S.part S.at'.bf S.at'.bo S.at'.bt)
theorem set_flip {W H Z P : Int} {l : Ln} {a b N z p f o t : Nat} (S : Set5 W H Z P l a b N z p f o t) : Set5 W H Z (flipN p f o t : Nat) l a b N z (flipN p f o t) f o t :=
  ⟨S.eW, S.eH, S.eZ, rfl, S.ok, part_flip S.part S.at'.bf S.at'.bo S.at'.bt, S.at'⟩
theorem jump_parts {W H Z P : Int} {l : Ln} (h : jumpB W H Z P l = true) : posB W H Z P = true ∧ (lnsOf W H Z).contains l = true ∧ befL P l = true := by
  simp only [jumpB, Bool.and_eq_true] at h
  exact ⟨h.1.1, h.1.2, h.2⟩
theorem undo_parts {W H Z P : Int} {l : Ln} (h : undoB W H Z P l = true) : posB W H Z P = true ∧ (lnsOf W H Z).contains l = true ∧ aftL P l = true := by
  simp only [undoB, Bool.and_eq_true] at h
  exact ⟨h.1.1, h.1.2, h.2⟩
theorem flip_of {W H Z P : Int} {l : Ln} {a b N z p f o t : Nat} (S : Set5 W H Z P l a b N z p f o t) : flipL (flipN p f o t : Nat) l = P := by
  rw [(set_flip S).flip, flip_flip, S.eP]
theorem count_pos {W H Z : Int} {p : Nat} (h : posB W H Z p = true) : countB W H Z p = (pc 49 p : Nat) := by simp [countB, h]
/-- What is told of a jump. -/
theorem jump_facts {W H Z P : Int} {l : Ln} (h : jumpB W H Z P l = true) : ∃ x c : Nat, flipL P l = (x : Int) ∧ posB W H Z x = true ∧ backB W H Z x l = (P, true) ∧
    countB W H Z x = (c : Int) ∧ countB W H Z P = ((c + 1 : Nat) : Int) ∧ c ≤ 49 ∧ x < 562949953421312 := by
  obtain ⟨a, b, N, z, p, f, o, t, S, hbef⟩ := jump_set h
  obtain ⟨h1, h2, h3⟩ := jump_parts h
  obtain ⟨hpb, hf, ho, ht⟩ := S.bounds
  have hu : undoB W H Z (flipN p f o t : Nat) l = true := by
    simp only [undoB, posB_flip S, h2, (set_flip S).aft, aft_flip hbef]; rfl
  have hpc := pc_flip S.at'.fo S.at'.ft S.at'.ot hf ho ht hbef
  refine ⟨flipN p f o t, pc 49 (flipN p f o t), S.flip, posB_flip S, ?_, count_pos (posB_flip S), ?_, pc_le _ _, flip_big S⟩
  · rw [back_yes hu, flip_of S]
  · rw [hpc, S.eP, count_pos (by rw [← S.eP]; exact h1)]
theorem runO_cons {st : Int → Ln → Int × Bool} {P : Int} {l : Ln} {xs : List Ln} : runO st P (l :: xs) = xs.foldl (stO st) (stO st (some P) l) := rfl
theorem run_step {W H Z P q : Int} {l : Ln} {xs : List Ln} (h : runO (doB W H Z) P (l :: xs) = some q) : jumpB W H Z P l = true ∧ runO (doB W H Z) (flipL P l) xs = some q := by
  rw [runO_cons] at h
  cases hj : jumpB W H Z P l
  · rw [show stO (doB W H Z) (some P) l = none by simp [stO, do_ok, hj], foldl_none] at h; cases h
  · rw [show stO (doB W H Z) (some P) l = some (flipL P l) by simp [stO, do_ok, hj, do_yes hj]] at h
    exact ⟨rfl, h⟩
/-- A game can be undone as a whole. -/
theorem run_back {W H Z P q : Int} {xs : List Ln} (hp : posB W H Z P = true) (h : runO (doB W H Z) P xs = some q) : posB W H Z q = true ∧ runO (backB W H Z) q xs.reverse = some P := by
  induction xs generalizing P with
  | nil =>
    obtain rfl := Option.some.inj ((runO_nil _ P).symm.trans h)
    exact ⟨hp, rfl⟩
  | cons l xs ih =>
    obtain ⟨hj, h2⟩ := run_step h
    obtain ⟨x, c, e1, e2, e3, -⟩ := jump_facts hj
    rw [e1] at h2
    obtain ⟨h3, h4⟩ := ih e2 h2
    refine ⟨h3, ?_⟩
    rw [List.reverse_cons, runO_snoc, h4]
    simp [stO, e3]
theorem run_nat {W H Z P q : Int} {xs : List Ln} (h0 : ∃ u : Nat, P = u ∧ u < 562949953421312) (h : runO (doB W H Z) P xs = some q) (k : Nat) (hk : k ≤ xs.length) : ∃ u : Nat, endL P (xs.take k) = u ∧ u < 562949953421312 := by
  cases k with
  | zero => exact h0
  | succ k =>
    obtain ⟨l, hl⟩ : ∃ l, xs[k]? = some l := ⟨_, List.getElem?_eq_getElem (by omega)⟩
    obtain ⟨hj, hf⟩ := run_at h hl
    obtain ⟨x, c, e1, -, -, -, -, -, e2⟩ := jump_facts hj
    exact ⟨x, by rw [← hf, e1], e2⟩
/-- Each jump removes one peg. -/
theorem run_count {W H Z P q : Int} {xs : List Ln} (h : runO (doB W H Z) P xs = some q) (k : Nat) (hk : k ≤ xs.length) : countB W H Z (endL P (xs.take k)) + k = countB W H Z P := by
  induction k with
  | zero => simp [endL]
  | succ k ih =>
    obtain ⟨l, hl⟩ : ∃ l, xs[k]? = some l := ⟨_, List.getElem?_eq_getElem (by omega)⟩
    obtain ⟨hj, hf⟩ := run_at h hl
    obtain ⟨x, c, e1, -, -, e3, e4, -, -⟩ := jump_facts hj
    have := ih (by omega)
    rw [← hf, e1, e3]
    rw [e4] at this
    omega
theorem run_pos {W H Z P q : Int} {xs : List Ln} (hp : posB W H Z P = true) (h : runO (doB W H Z) P xs = some q) (k : Nat) (hk : k ≤ xs.length) : posB W H Z (endL P (xs.take k)) = true := by
  cases k with
  | zero => exact hp
  | succ k =>
    obtain ⟨l, hl⟩ : ∃ l, xs[k]? = some l := ⟨_, List.getElem?_eq_getElem (by omega)⟩
    obtain ⟨hj, hf⟩ := run_at h hl
    obtain ⟨x, c, e1, e2, -⟩ := jump_facts hj
    rw [← hf, e1]; exact e2
theorem count_nat {W H Z : Int} {p : Nat} (h : posB W H Z p = true) : ∃ c : Nat, countB W H Z p = (c : Int) ∧ c ≤ 49 := ⟨_, count_pos h, pc_le _ _⟩
end Go.Proofs.Ytgkmapemnlgldaa

namespace Go.Proofs.Ytgkmapemnlgldaa
open Go.RowKit
set_option linter.unusedVariables false
set_option linter.unusedSimpArgs false
/-- A slice of lines that came in: the lines that it holds. -/
def LinesAt (w : World) (a : Option Addr) (len : Nat) (xs : List Ln) : Prop :=
  xs.length = len ∧ (len = 0 ∨ ∃ b off, a = some ⟨b, off, none⟩ ∧ b < w.heap.size ∧ ∀ k l, xs[k]? = some l → w.cell? ⟨b, off + k * 3, none⟩ = some (.int .i64 l.1) ∧ w.cell? ⟨b, off + k * 3 + 1, none⟩ = some (.int .i64 l.2.1) ∧ w.cell? ⟨b, off + k * 3 + 2, none⟩ = some (.int .i64 l.2.2))
theorem LinesAt.later {w w' : World} {a : Option Addr} {len : Nat} {xs : List Ln} (h : LinesAt w a len xs) (hb : Below w.heap.size w w') : LinesAt w' a len xs := by
  refine ⟨h.1, h.2.imp id ?_⟩
  rintro ⟨b, off, rfl, hlt, hc⟩
  refine ⟨b, off, rfl, Nat.lt_of_lt_of_le hlt hb.size, fun k l hk => ?_⟩
  obtain ⟨h1, h2, h3⟩ := hc k l hk
  exact ⟨(hb.cell hlt).trans h1, (hb.cell hlt).trans h2, (hb.cell hlt).trans h3⟩
theorem LinesAt.same {w w' : World} {a : Option Addr} {len B : Nat} {xs : List Ln} (h : LinesAt w a len xs) (hb : Below B w w') (hB : w.heap.size ≤ B) : LinesAt w' a len xs := h.later (hb.mono hB)
open Go.Deep in
theorem lines_of {H : Type} {enc : TypeId × Value → H} {P : Program} {w : World} {base : Nat} {spare : Nat → Bool} {held : Bool} {t e : TypeId} {f0 f1 f2 : Field} {a : Option Addr} {len cap : Nat} {d : DataW H} {p : List MemPlace}
    (ht : P.underlying t = some (.slice e)) (he : P.underlying e = some (.struct #[f0, f1, f2])) (ce : P.cellsOf e = 3) (hone : Go.Deep.oneCellFields P #[f0, f1, f2] = true)
    (i0 : P.underlying f0.type = some (.int .i64)) (i1 : P.underlying f1.type = some (.int .i64)) (i2 : P.underlying f2.type = some (.int .i64))
    (h0 : DataW.Trod enc P w base spare held t (.slice a len cap) d p) : ∃ xs, LinesAt w a len xs ∧ len ≤ maxLen := by
  obtain ⟨fuel, h⟩ := h0
  rcases open_slice ht h with ⟨hcs, _⟩ | ⟨a', len', cap', m, n, D, Pl, hcs, hb, hl, hm, hmm, _, hx⟩
  · simp [Value.cells] at hcs
    obtain ⟨rfl, rfl, rfl⟩ := hcs
    exact ⟨[], ⟨rfl, .inl rfl⟩, Nat.zero_le _⟩
  · simp [Value.cells] at hcs
    obtain ⟨rfl, rfl, rfl⟩ := hcs
    have hlm : len ≤ m := by rw [hmm]; split <;> omega
    obtain ⟨o0, k0⟩ := Go.Deep.hone_of hone 0 f0 rfl
    obtain ⟨o1, k1⟩ := Go.Deep.hone_of hone 1 f1 rfl
    obtain ⟨o2, k2⟩ := Go.Deep.hone_of hone 2 f2 rfl
    have each : ∀ i, i < len → ∃ q : Ln, w.cell? (a'.add (i * 3)) = some (.int .i64 q.1) ∧ w.cell? (a'.add (i * 3 + 1)) = some (.int .i64 q.2.1) ∧ w.cell? (a'.add (i * 3 + 2)) = some (.int .i64 q.2.2) := by
      intro i hi
      obtain ⟨cs', h1, h2⟩ := hx i (by omega)
      rw [ce] at h1
      obtain ⟨_, hlen, hcell⟩ := World.cells?_some h1
      obtain ⟨xs, k, hk, hxy, _, hxl, hf⟩ := DataW.trod_struct he h2
      match xs, hxl, cs', hlen with
      | [y0, y1, y2], _, [v0, v1, v2], _ =>
        have g0 := hf 0 f0 rfl
        have g1 := hf 1 f1 rfl
        have g2 := hf 2 f2 rfl
        simp [o0, o1, o2, k0, k1, k2] at g0 g1 g2
        have e0 := hcell 0 (by omega)
        have e1 := hcell 1 (by omega)
        have e2 := hcell 2 (by omega)
        rw [add_add] at e0 e1 e2
        obtain ⟨n0, m0, -, -⟩ := DataW.trod_int i0 g0
        obtain ⟨n1, m1, -, -⟩ := DataW.trod_int i1 g1
        obtain ⟨n2, m2, -, -⟩ := DataW.trod_int i2 g2
        simp at m0 m1 m2
        subst m0 m1 m2
        exact ⟨(n0, n1, n2), by simpa using e0, by simpa using e1, by simpa using e2⟩
    obtain ⟨f, hf⟩ := choose_lt each
    refine ⟨(List.range len).map f, ⟨by simp, ?_⟩, Nat.le_trans hl hm⟩
    by_cases hz : len = 0
    · exact .inl hz
    · right
      obtain ⟨b, off, spot⟩ := a'
      have hc := (hf 0 (by omega)).1
      have hspot : spot = none := by simpa [Addr.add] using World.cell?_spot hc
      subst hspot
      have hc0 : w.cell? ⟨b, off, none⟩ = some (.int .i64 (f 0).1) := by simpa [Addr.add] using hc
      refine ⟨b, off, rfl, World.block_lt_of_cell? w _ hc0, fun k l hk => ?_⟩
      have hkl : k < len := by have := (List.getElem?_eq_some_iff.1 hk).1; simpa using this
      obtain rfl : f k = l := by simpa [hkl] using hk
      obtain ⟨h1, h2, h3⟩ := hf k hkl
      have e : ∀ j, (⟨b, off, none⟩ : Addr).add j = ⟨b, off + j, none⟩ := fun j => by unfold Addr.add; split <;> simp_all
      rw [e] at h1 h2 h3
      exact ⟨h1, by rw [Nat.add_assoc]; exact h2, by rw [Nat.add_assoc]; exact h3⟩
theorem put_line (l : List Value) (ys : List Ln) (x : Ln) {k n : Nat} (hy : ys.length = k) (hl : l.length = n * 3) (hk : k < n) :
    (((lv ys ++ l.drop (k * 3)).set (k * 3) (.int .i64 x.1)).set (k * 3 + 1) (.int .i64 x.2.1)).set (k * 3 + 2) (.int .i64 x.2.2) = lv (ys ++ [x]) ++ l.drop ((k + 1) * 3) := by
  obtain ⟨a, b, c, hd⟩ : ∃ a b c, l.drop (k * 3) = a :: b :: c :: l.drop ((k + 1) * 3) := by
    refine ⟨l[k * 3]'(by omega), l[k * 3 + 1]'(by omega), l[k * 3 + 1 + 1]'(by omega), ?_⟩
    rw [List.drop_eq_getElem_cons (show k * 3 < l.length by omega), List.drop_eq_getElem_cons (show k * 3 + 1 < l.length by omega), List.drop_eq_getElem_cons (show k * 3 + 1 + 1 < l.length by omega), show k * 3 + 1 + 1 + 1 = (k + 1) * 3 by omega]
  rw [hd, lv_append, lv_one]
  have hL : (lv ys).length = k * 3 := by rw [lv_length, hy]
  generalize lv ys = L at *
  generalize l.drop ((k + 1) * 3) = r
  rw [← hL]
  simp [lnC, List.set_append_right]
theorem lv_set (ys : List Ln) (k : Nat) (x : Ln) : lv (ys.set k x) = (((lv ys).set (k * 3) (.int .i64 x.1)).set (k * 3 + 1) (.int .i64 x.2.1)).set (k * 3 + 2) (.int .i64 x.2.2) := by
  induction ys generalizing k with
  | nil => rfl
  | cons y ys ih =>
    have e : ∀ (y : Ln) ys, lv (y :: ys) = .int .i64 y.1 :: .int .i64 y.2.1 :: .int .i64 y.2.2 :: lv ys := fun _ _ => rfl
    cases k with
    | zero => rfl
    | succ k =>
      rw [List.set_cons_succ, e, e, ih, show (k + 1) * 3 = k * 3 + 1 + 1 + 1 from by omega]
      simp only [List.set_cons_succ]
/-- Three cells of an owned list. -/
theorem stored3 {w : World} {b g n c : Nat} {T : TypeId} {L : List Value} (h : w.ownsRow b T 3 (.slice (some ⟨g, 0, none⟩) n c) n L) (j : Nat) (x y z : Value) :
    (((w.setCell ⟨g, j, none⟩ x).setCell ⟨g, j + 1, none⟩ y).setCell ⟨g, j + 2, none⟩ z).ownsRow b T 3 (.slice (some ⟨g, 0, none⟩) n c) n (((L.set j x).set (j + 1) y).set (j + 2) z) ∧
    w.grownBy (((w.setCell ⟨g, j, none⟩ x).setCell ⟨g, j + 1, none⟩ y).setCell ⟨g, j + 2, none⟩ z) (some g) := by
  have h1 := h.stored j x
  have h2 := h1.1.stored (j + 1) y
  have h3 := h2.1.stored (j + 2) z
  exact ⟨h3.1, h1.2.trans (h2.2.trans h3.2)⟩
end Go.Proofs.Ytgkmapemnlgldaa

namespace Go.Proofs.Ytgkmapemnlgldaa
open Go.RowKit
set_option linter.unusedVariables false
set_option linter.unusedSimpArgs false
/-- A list's cell values at an index. -/
theorem lines_at {w : World} {B n gc : Nat} {ga : Option Addr} {xs : List Ln} (h : w.ownsRow B 76 3 (.slice ga n gc) n (lv xs)) (hn : xs.length = n) (h0 : 0 < n) : ∃ g, ga = some ⟨g, 0, none⟩ := by
  rcases Go.Joins.ownsRow_forms h with ⟨h1, h2⟩ | ⟨g, cap, h1⟩
  · omega
  · injection h1 with h1 h2 h3; exact ⟨g, h1⟩
set_option maxHeartbeats 2000000 in
set_option maxRecDepth 100000 in
theorem specPlay (W H Z P : Int) (hP : P ≤ 9223372036854775807) (xs : List Ln) {n B gc : Nat} {ga : Option Addr} (hn : xs.length = n) (hx : n ≤ 1048576) (w : World) (ho : w.ownsRow B 76 3 (.slice ga n gc) n (lv xs)) :
    Calls Try.prog 53 #[.agg #[.int .i64 W, .int .i64 H, .int .i64 Z], .int .i64 P, .slice ga n gc] w (QP (playB W H Z P xs) w) := by
  have EP := Lib.hid (fun (h : posB W H Z P = false) => allB_pos (st := doB W H Z) (xs := xs) h)
  have EY := Lib.hid (fun q (h : posB W H Z P = true) (h1 : n ≤ 60) (hr : runO (doB W H Z) P xs = some q) => allB_yes (st := doB W H Z) h (by rw [hn]; exact h1) hr)
  have EL := Lib.hid (fun (h : 60 < n) => allB_long (st := doB W H Z) (W := W) (H := H) (Z := Z) (P := P) (xs := xs) (by rw [hn]; exact h))
  have EN := Lib.hid (fun (hr : runO (doB W H Z) P xs = none) => allB_no (W := W) (H := H) (Z := Z) hr)
  have HC := Lib.hid (fun (Q f o t : Int) (hQ : Q ≤ 9223372036854775807) w => specDo W H Z Q f o t hQ w)
  have C2 := Lib.hid (fun w => specPos W H Z P hP w)
  have HN := Lib.hid hn
  have HP := Lib.hid hP
  have HO := Lib.hid ho
  unfold playB
  generalize allB (doB W H Z) W H Z P xs = R at *
  obtain ⟨pb, hpb⟩ : ∃ b, posB W H Z P = b := ⟨_, rfl⟩
  rw [hpb] at C2 EP EY
  clear hP hn ho hpb
  go_enter Try.func53, Try.ntmps53
  go_wp2_with fail
  have B0 := Lib.hid (box_newT 25 W H Z w)
  have HO0 := Lib.hid (own_below HO.out ((Below.refl _ _).alloc (Nat.le_refl _) (.cells #[.int .i64 W, .int .i64 H, .int .i64 Z] 25)))
  generalize w.alloc (.cells #[.int .i64 W, .int .i64 H, .int .i64 Z] 25) = W1 at *
  clear HO
  go_wp2_with fail
  go_loopw [8, 9] (fun s i wr => ∃ (k : Nat) (q : Int), k ≤ n ∧ i = .int .i64 k ∧ s = .int .i64 q ∧ q ≤ 9223372036854775807 ∧ (k = 0 ∨ n ≤ 60) ∧ Hid (runO (doB W H Z) P (xs.take k) = some q) ∧ Hid (wr.ownsRow B 76 3 (.slice ga n gc) n (lv xs)) ∧ Hid (Box w.heap.size W H Z w wr)) (fun _ i _ => n - (intOf i).toNat)
  case atStart => exact ⟨0, P, by omega, rfl, rfl, HP.out, .inl rfl, rfl, HO0, B0⟩
  case round =>
    clear HO0 B0
    obtain ⟨k, q, hk, rfl, rfl, hq, hk60, hrun, HX, B2⟩ := hrel
    by_cases hkn : k < n
    · obtain ⟨⟨f, o, t⟩, hl⟩ : ∃ l, xs[k]? = some l := ⟨_, List.getElem?_eq_getElem (by rw [HN.out]; exact hkn)⟩
      have k0 : (0 : Int) ≤ (k : Int) := by omega
      have k1 : (k : Int) < (n : Int) := by omega
      obtain ⟨g, rfl⟩ := lines_at HX.out HN.out (by omega)
      have CX := Lib.hid (HC.out q f o t hq)
      have CE : Hid (∀ w' : World, w'.ownsRow B 76 3 (.slice (some ⟨g, 0, none⟩) n gc) n (lv xs) → w'.cell? ⟨g, k * 3, none⟩ = some (.int .i64 f) ∧ w'.cell? ⟨g, k * 3 + 1, none⟩ = some (.int .i64 o) ∧ w'.cell? ⟨g, k * 3 + 2, none⟩ = some (.int .i64 t)) := fun w' hh => line_cells hh HN.out hl
      have HY := Lib.hid (runO_yes hl hrun.out)
      have HNo := Lib.hid (runO_no hl hrun.out)
      have HBg := Lib.hid (do_big (W := W) (H := H) (Z := Z) (P := q) (l := (f, o, t)))
      clear hl hrun
      obtain ⟨⟨x, y⟩, hxy⟩ : ∃ r, doB W H Z q (f, o, t) = r := ⟨_, rfl⟩
      rw [hxy] at HY HNo HBg CX
      clear hxy
      go_wp2_with fail
      refine wp_region_script (by kernel_rfl) (by kernel_rfl) ?_
      refine Script.load (i := 0) (v := ?_) rfl (by kernel_rfl) (by kernel_rfl) (fun _ _ _ h => h) (by kernel_rfl) ?_ ?_
      rotate_left
      · (intro wS hSw; obtain ⟨c0, c1, c2, -, -⟩ := B2.out.later (After.trans (After.drew (After.refl _)) hSw); obtain ⟨l0, l1, l2⟩ := CE.out _ (own_below HX.out (After.trans (After.drew (After.refl _)) hSw)); go_simp; try with_reducible rfl)
      try simp only [Act.put, List.getElem_toArray, List.getElem_cons_succ, List.getElem_cons_zero, List.setIfInBounds_toArray, List.set_cons_zero, List.set_cons_succ]
      refine Script.load (i := 1) (v := ?_) rfl (by kernel_rfl) (by kernel_rfl) (fun _ _ _ h => h) (by kernel_rfl) ?_ ?_
      rotate_left
      · (intro wS hSw; obtain ⟨c0, c1, c2, -, -⟩ := B2.out.later (After.trans (After.drew (After.refl _)) hSw); obtain ⟨l0, l1, l2⟩ := CE.out _ (own_below HX.out (After.trans (After.drew (After.refl _)) hSw)); go_simp; try with_reducible rfl)
      try simp only [Act.put, List.getElem_toArray, List.getElem_cons_succ, List.getElem_cons_zero, List.setIfInBounds_toArray, List.set_cons_zero, List.set_cons_succ]
      refine Script.load (i := 2) (v := ?_) rfl (by kernel_rfl) (by kernel_rfl) (fun _ _ _ h => h) (by kernel_rfl) ?_ ?_
      rotate_left
      · (intro wS hSw; obtain ⟨c0, c1, c2, -, -⟩ := B2.out.later (After.trans (After.drew (After.refl _)) hSw); obtain ⟨l0, l1, l2⟩ := CE.out _ (own_below HX.out (After.trans (After.drew (After.refl _)) hSw)); go_simp; try with_reducible rfl)
      try simp only [Act.put, List.getElem_toArray, List.getElem_cons_succ, List.getElem_cons_zero, List.setIfInBounds_toArray, List.set_cons_zero, List.set_cons_succ]
      refine Script.load (i := 3) (v := ?_) rfl (by kernel_rfl) (by kernel_rfl) (fun _ _ _ h => h) (by kernel_rfl) ?_ ?_
      rotate_left
      · (intro wS hSw; obtain ⟨c0, c1, c2, -, -⟩ := B2.out.later (After.trans (After.drew (After.refl _)) hSw); obtain ⟨l0, l1, l2⟩ := CE.out _ (own_below HX.out (After.trans (After.drew (After.refl _)) hSw)); go_simp; try with_reducible rfl)
      try simp only [Act.put, List.getElem_toArray, List.getElem_cons_succ, List.getElem_cons_zero, List.setIfInBounds_toArray, List.set_cons_zero, List.set_cons_succ]
      refine Script.load (i := 4) (v := ?_) rfl (by kernel_rfl) (by kernel_rfl) (fun _ _ _ h => h) (by kernel_rfl) ?_ ?_
      rotate_left
      · (intro wS hSw; obtain ⟨c0, c1, c2, -, -⟩ := B2.out.later (After.trans (After.drew (After.refl _)) hSw); obtain ⟨l0, l1, l2⟩ := CE.out _ (own_below HX.out (After.trans (After.drew (After.refl _)) hSw)); go_simp; try with_reducible rfl)
      try simp only [Act.put, List.getElem_toArray, List.getElem_cons_succ, List.getElem_cons_zero, List.setIfInBounds_toArray, List.set_cons_zero, List.set_cons_succ]
      refine Script.load (i := 5) (v := ?_) rfl (by kernel_rfl) (by kernel_rfl) (fun _ _ _ h => h) (by kernel_rfl) ?_ ?_
      rotate_left
      · (intro wS hSw; obtain ⟨c0, c1, c2, -, -⟩ := B2.out.later (After.trans (After.drew (After.refl _)) hSw); obtain ⟨l0, l1, l2⟩ := CE.out _ (own_below HX.out (After.trans (After.drew (After.refl _)) hSw)); go_simp; try with_reducible rfl)
      try simp only [Act.put, List.getElem_toArray, List.getElem_cons_succ, List.getElem_cons_zero, List.setIfInBounds_toArray, List.set_cons_zero, List.set_cons_succ]
      refine Script.call (i := 6) (v := ?_) rfl (by kernel_rfl) (by kernel_rfl) (fun _ _ _ h => h) (by kernel_rfl) ?_ ?_
      rotate_left
      · (intro wS hSw K hK; obtain ⟨c0, c1, c2, -, -⟩ := B2.out.later (After.trans (After.drew (After.refl _)) hSw); obtain ⟨l0, l1, l2⟩ := CE.out _ (own_below HX.out (After.trans (After.drew (After.refl _)) hSw)); go_simp; go_at_call 72; refine (CX.out _).mono ?_; rintro e wc ⟨rfl, hbc⟩; exact hK.out _ hbc)
      try simp only [Act.put, List.getElem_toArray, List.getElem_cons_succ, List.getElem_cons_zero, List.setIfInBounds_toArray, List.set_cons_zero, List.set_cons_succ]
      refine Script.load (i := 7) (v := ?_) rfl (by kernel_rfl) (by kernel_rfl) (fun _ _ _ h => h) (by kernel_rfl) ?_ ?_
      rotate_left
      · (intro wS hSw; obtain ⟨c0, c1, c2, -, -⟩ := B2.out.later (After.trans (After.drew (After.refl _)) hSw); obtain ⟨l0, l1, l2⟩ := CE.out _ (own_below HX.out (After.trans (After.drew (After.refl _)) hSw)); go_simp; try with_reducible rfl)
      try simp only [Act.put, List.getElem_toArray, List.getElem_cons_succ, List.getElem_cons_zero, List.setIfInBounds_toArray, List.set_cons_zero, List.set_cons_succ]
      refine Script.load (i := 8) (v := ?_) rfl (by kernel_rfl) (by kernel_rfl) (fun _ _ _ h => h) (by kernel_rfl) ?_ ?_
      rotate_left
      · (intro wS hSw; obtain ⟨c0, c1, c2, -, -⟩ := B2.out.later (After.trans (After.drew (After.refl _)) hSw); obtain ⟨l0, l1, l2⟩ := CE.out _ (own_below HX.out (After.trans (After.drew (After.refl _)) hSw)); go_simp; try with_reducible rfl)
      try simp only [Act.put, List.getElem_toArray, List.getElem_cons_succ, List.getElem_cons_zero, List.setIfInBounds_toArray, List.set_cons_zero, List.set_cons_succ]
      refine Script.load (i := 9) (v := ?_) rfl (by kernel_rfl) (by kernel_rfl) (fun _ _ _ h => h) (by kernel_rfl) ?_ ?_
      rotate_left
      · (intro wS hSw; obtain ⟨c0, c1, c2, -, -⟩ := B2.out.later (After.trans (After.drew (After.refl _)) hSw); obtain ⟨l0, l1, l2⟩ := CE.out _ (own_below HX.out (After.trans (After.drew (After.refl _)) hSw)); go_simp; try with_reducible rfl)
      try simp only [Act.put, List.getElem_toArray, List.getElem_cons_succ, List.getElem_cons_zero, List.setIfInBounds_toArray, List.set_cons_zero, List.set_cons_succ]
      refine Script.load (i := 10) (v := ?_) rfl (by kernel_rfl) (by kernel_rfl) (fun _ _ _ h => h) (by kernel_rfl) ?_ ?_
      rotate_left
      · (intro wS hSw; obtain ⟨c0, c1, c2, -, -⟩ := B2.out.later (After.trans (After.drew (After.refl _)) hSw); obtain ⟨l0, l1, l2⟩ := CE.out _ (own_below HX.out (After.trans (After.drew (After.refl _)) hSw)); go_simp; try with_reducible rfl)
      try simp only [Act.put, List.getElem_toArray, List.getElem_cons_succ, List.getElem_cons_zero, List.setIfInBounds_toArray, List.set_cons_zero, List.set_cons_succ]
      refine Script.load (i := 11) (v := ?_) rfl (by kernel_rfl) (by kernel_rfl) (fun _ _ _ h => h) (by kernel_rfl) ?_ ?_
      rotate_left
      · (intro wS hSw; obtain ⟨c0, c1, c2, -, -⟩ := B2.out.later (After.trans (After.drew (After.refl _)) hSw); obtain ⟨l0, l1, l2⟩ := CE.out _ (own_below HX.out (After.trans (After.drew (After.refl _)) hSw)); go_simp; try with_reducible rfl)
      try simp only [Act.put, List.getElem_toArray, List.getElem_cons_succ, List.getElem_cons_zero, List.setIfInBounds_toArray, List.set_cons_zero, List.set_cons_succ]
      refine Script.done (by kernel_rfl) ?_
      intro wD hD hG
      have hb6 := After.trans (After.drew (After.refl _)) hD
      have B6 := Lib.hid (B2.out.later hb6)
      have HX6 := Lib.hid (own_below HX.out hb6)
      clear hD hG hb6 B2 HX
      cases y
      · have HE := Lib.hid (EN.out (HNo.out rfl))
        clear HY HNo HBg
        go_wp2_with fail
        go_ret2
        rw [HE.out]
        exact ⟨rfl, B6.out.2.2.2.2⟩
      · by_cases h60 : 60 < n
        · have HE := Lib.hid (EL.out h60)
          have hd : decide ((60 : Int) < (n : Int)) = true := decide_eq_true (by omega)
          clear HY HNo HBg
          go_wp2_with fail
          go_ret2
          rw [HE.out]
          exact ⟨rfl, B6.out.2.2.2.2⟩
        · have HY' := Lib.hid (HY.out rfl)
          have hd : decide ((60 : Int) < (n : Int)) = false := decide_eq_false (by omega)
          have hx63 : x ≤ 9223372036854775807 := by obtain ⟨x', hx', hb'⟩ := HBg.out rfl; have h'' : x = (x' : Int) := hx'; omega
          clear HY HNo HBg
          go_wp2_with fail
          go_roundw
          case rel => exact ⟨k + 1, x, by omega, by go_num, rfl, hx63, .inr (by omega), HY', HX6, B6⟩
          case measure => simp [intOf]; omega
    · obtain rfl : k = n := by omega
      have HR := Lib.hid (by have := hrun.out; rwa [List.take_of_length_le (by rw [HN.out]; exact Nat.le_refl _)] at this)
      obtain ⟨c0, c1, c2, hlt, hb1⟩ := B2.out
      clear HX
      go_wp2_with fail
      refine (C2.out _).mono ?_
      rintro e wb ⟨rfl, hb⟩
      have Bb := Lib.hid (B2.out.later hb)
      clear B2 hb c0 c1 c2 hlt hb1
      cases pb
      · have HE := Lib.hid (EP.out rfl)
        go_wp2_with fail
        go_ret2
        rw [HE.out]
        exact ⟨rfl, Bb.out.2.2.2.2⟩
      · have HE := Lib.hid (EY.out q rfl (by omega) HR.out)
        go_wp2_with fail
        go_ret2
        rw [HE.out]
        exact ⟨rfl, Bb.out.2.2.2.2⟩
end Go.Proofs.Ytgkmapemnlgldaa

namespace Go.Proofs.Ytgkmapemnlgldaa
open Go.RowKit
set_option linter.unusedVariables false
set_option linter.unusedSimpArgs false
theorem news_of_row {w : World} {b g n c j : Nat} {T : TypeId} {L : List Value} {u : Value} (h : w.ownsRow b T 3 (.slice (some ⟨g, 0, none⟩) n c) n L) (hu : L[j]? = some u) : w.cell? ((⟨g, 0, none⟩ : Addr).add j) = some u := by
  have hadd : (⟨g, 0, none⟩ : Addr).add j = ⟨g, j, none⟩ := by unfold Addr.add; split <;> simp_all
  have hl : L.length = n * 3 := h.1
  have hj := (List.getElem?_eq_some_iff.1 hu).1
  rw [hadd, h.cellAt j (by omega)]
  exact hu
theorem grown_drewL {w w' : World} {r : Option Nat} (h : w.grownBy w' r) : w.grownBy w'.drew r := ⟨h.os, h.tape, h.output, h.size, h.block⟩
/-- A list whose first and last i elements have changed places. -/
def RevAt (xs ys : List Ln) (n i : Nat) : Prop := ys.length = n ∧ ∀ k, k < n → ys[k]? = if k < i ∨ n ≤ k + i then xs[n - 1 - k]? else xs[k]?
theorem RevAt.start {xs : List Ln} {n : Nat} (hn : xs.length = n) : RevAt xs xs n 0 := ⟨hn, fun k hk => by rw [if_neg (by omega)]⟩
theorem RevAt.stop {xs ys : List Ln} {n i : Nat} (hn : xs.length = n) (h : RevAt xs ys n i) (hi : n ≤ i + i + 1) : ys = xs.reverse := by
  refine List.ext_getElem? fun k => ?_
  rcases Nat.lt_or_ge k n with hk | hk
  · rw [h.2 k hk, List.getElem?_reverse (by omega), hn]
    split
    · rfl
    · rw [show n - 1 - k = k by omega]
  · rw [List.getElem?_eq_none (by rw [h.1]; exact hk), List.getElem?_eq_none (by rw [List.length_reverse, hn]; exact hk)]
theorem RevAt.swap {xs ys : List Ln} {n i j : Nat} {x y : Ln} (h : RevAt xs ys n i) (hij : i < j) (hj : j + i + 1 = n) (hx : xs[i]? = some x) (hy : xs[j]? = some y) : RevAt xs ((ys.set i y).set j x) n (i + 1) := by
  refine ⟨by simp [h.1], fun k hk => ?_⟩
  have hl := h.1
  by_cases h1 : k = j
  · subst h1
    rw [if_pos (by omega), show n - 1 - k = i by omega, hx]
    simp [hl, hk]
  · rw [List.getElem?_set_ne (fun e => h1 e.symm)]
    by_cases h2 : k = i
    · subst h2
      rw [if_pos (by omega), show n - 1 - k = j by omega, hy]
      simp [hl, hk]
    · rw [List.getElem?_set_ne (fun e => h2 e.symm), h.2 k hk]
      by_cases h3 : k < i ∨ n ≤ k + i
      · rw [if_pos h3, if_pos (by omega)]
      · rw [if_neg h3, if_neg (by omega)]
def LReversed (b n : Nat) (xs : List Ln) (v : Value) (w : World) (e : Ending) (w' : World) : Prop :=
  e = .returned (.tuple #[]) ∧ w'.ownsRow b 76 3 v n (lv xs.reverse) ∧ w.grownBy w' v.ownBlock
end Go.Proofs.Ytgkmapemnlgldaa

namespace Go.Proofs.Ytgkmapemnlgldaa
open Go.RowKit
set_option linter.unusedVariables false
set_option linter.unusedSimpArgs false
theorem posL_no {W H Z P : Int} {xs : List Ln} {p : Int} (h : playB W H Z P xs = (p, false)) : posL W H Z P xs = [] := by simp [posL, h]
theorem posL_yes {W H Z P : Int} {xs : List Ln} {q : Int} (h : playB W H Z P xs = (q, true)) : posL W H Z P xs = walkL P xs := by simp [posL, h]
/-- What is told of a game that can be played. -/
theorem play_yes {W H Z P : Int} {xs : List Ln} {q : Int} (h : playB W H Z P xs = (q, true)) : posB W H Z P = true ∧ xs.length ≤ 60 ∧ runO (doB W H Z) P xs = some q := by
  have h2 : (allB (doB W H Z) W H Z P xs).2 = true := by rw [show allB (doB W H Z) W H Z P xs = (q, true) from h]
  obtain ⟨h3, h4, r, h5, h6⟩ := allB_ok h2
  refine ⟨h3, h4, ?_⟩
  rw [show allB (doB W H Z) W H Z P xs = (q, true) from h] at h6
  injection h6 with h7
  rw [h7]; exact h5
theorem flip_call {W H Z P q : Int} {xs : List Ln} (h : runO (doB W H Z) P xs = some q) {k : Nat} {f o t : Int} (hk : xs[k]? = some (f, o, t)) (w : World) :
    Calls Try.prog 66 #[.int .i64 (endL P (xs.take k)), .agg #[.int .i64 f, .int .i64 o, .int .i64 t]] w (QI (endL P (xs.take (k + 1))) w) := by
  obtain ⟨hj, hf⟩ := run_at h hk
  obtain ⟨a, b, N, z, p, f', o', t', S, -⟩ := jump_set hj
  obtain ⟨hpb, h1, h2, h3⟩ := S.bounds
  have e4 := S.at'.eq
  simp only [Prod.mk.injEq] at e4
  rw [← hf, S.flip, S.eP, e4.1, e4.2.1, e4.2.2]
  exact implFlip p f' o' t' hpb h1 h2 h3 w
theorem end_big {W H Z P q : Int} {xs : List Ln} (h : runO (doB W H Z) P xs = some q) {k : Nat} {l : Ln} (hk : xs[k]? = some l) : endL P (xs.take k) ≤ 9223372036854775807 ∧ endL P (xs.take (k + 1)) ≤ 9223372036854775807 := by
  obtain ⟨hj, hf⟩ := run_at h hk
  obtain ⟨a, b, N, z, p, f', o', t', S, -⟩ := jump_set hj
  have h1 := S.bounds.1
  have h2 := flip_big S
  rw [← hf, S.flip, S.eP]
  omega
theorem goes_at {xs : List Ln} {k : Nat} {l l' : Ln} (h1 : xs[k + 1]? = some l) (h2 : xs[k]? = some l') : goesB xs (k + 1) = (l.1 == l'.2.2) := by
  simp [goesB, List.getD, h1, h2]
end Go.Proofs.Ytgkmapemnlgldaa
