/- What is told of jumps and games of a valid position: a game can be undone as a whole, each jump removes one peg. Of no program. -/
import Derived.Test.YtdlpfpeblaapdaaGameMath
namespace Go.Proofs.Ytdlpfpeblaapdaa
set_option linter.unusedVariables false
set_option linter.unusedSimpArgs false
theorem posB_flip {W H Z P : Int} {l : Ln} {a b N z p f o t : Nat} (S : Set5 W H Z P l a b N z p f o t) : posB W H Z (flipN p f o t : Nat) = true := by
  rw [S.eW, S.eH, S.eZ]
  exact pos_of S.ok (part_flip S.part S.at'.bf S.at'.bo S.at'.bt)
theorem set_flip {W H Z P : Int} {l : Ln} {a b N z p f o t : Nat} (S : Set5 W H Z P l a b N z p f o t) : Set5 W H Z (flipN p f o t : Nat) l a b N z (flipN p f o t) f o t :=
  ⟨S.eW, S.eH, S.eZ, rfl, S.ok, part_flip S.part S.at'.bf S.at'.bo S.at'.bt, S.at'⟩
theorem jump_parts {W H Z P : Int} {l : Ln} (h : jumpB W H Z P l = true) : posB W H Z P = true ∧ (lnsOf W H Z).contains l = true ∧ befL P l = true := by
  simp only [jumpB, Bool.and_eq_true] at h
  exact ⟨h.1.1, h.1.2, h.2⟩
theorem undo_parts {W H Z P : Int} {l : Ln} (h : undoB W H Z P l = true) : posB W H Z P = true ∧ (lnsOf W H Z).contains l = true ∧ aftL P l = true := by
  simp only [undoB, Bool.and_eq_true] at h
  exact ⟨h.1.1, h.1.2, h.2⟩
theorem flip_of {W H Z P : Int} {l : Ln} {a b N z p f o t : Nat} (S : Set5 W H Z P l a b N z p f o t) : flipL (flipN p f o t : Nat) l = P := by
  rw [(set_flip S).flip, flip_flip, S.eP]
theorem count_pos {W H Z : Int} {p : Nat} (h : posB W H Z p = true) : countB W H Z p = (pc 49 p : Nat) := by simp [countB, h]
/-- What is told of a jump. -/
theorem jump_facts {W H Z P : Int} {l : Ln} (h : jumpB W H Z P l = true) : ∃ x c : Nat, flipL P l = (x : Int) ∧ posB W H Z x = true ∧ backB W H Z x l = (P, true) ∧
    countB W H Z x = (c : Int) ∧ countB W H Z P = ((c + 1 : Nat) : Int) ∧ c ≤ 49 ∧ x < 562949953421312 := by
  obtain ⟨a, b, N, z, p, f, o, t, S, hbef⟩ := jump_set h
  obtain ⟨h1, h2, h3⟩ := jump_parts h
  obtain ⟨hpb, hf, ho, ht⟩ := S.bounds
  have hu : undoB W H Z (flipN p f o t : Nat) l = true := by
    simp only [undoB, posB_flip S, h2, (set_flip S).aft, aft_flip hbef]; rfl
  have hpc := pc_flip S.at'.fo S.at'.ft S.at'.ot hf ho ht hbef
  refine ⟨flipN p f o t, pc 49 (flipN p f o t), S.flip, posB_flip S, ?_, count_pos (posB_flip S), ?_, pc_le _ _, flip_big S⟩
  · rw [back_yes hu, flip_of S]
  · rw [hpc, S.eP, count_pos (by rw [← S.eP]; exact h1)]
theorem runO_cons {st : Int → Ln → Int × Bool} {P : Int} {l : Ln} {xs : List Ln} : runO st P (l :: xs) = xs.foldl (stO st) (stO st (some P) l) := rfl
theorem run_step {W H Z P q : Int} {l : Ln} {xs : List Ln} (h : runO (doB W H Z) P (l :: xs) = some q) : jumpB W H Z P l = true ∧ runO (doB W H Z) (flipL P l) xs = some q := by
  rw [runO_cons] at h
  cases hj : jumpB W H Z P l
  · rw [show stO (doB W H Z) (some P) l = none by simp [stO, do_ok, hj], foldl_none] at h; cases h
  · rw [show stO (doB W H Z) (some P) l = some (flipL P l) by simp [stO, do_ok, hj, do_yes hj]] at h
    exact ⟨rfl, h⟩
/-- A game can be undone as a whole. -/
theorem run_back {W H Z P q : Int} {xs : List Ln} (hp : posB W H Z P = true) (h : runO (doB W H Z) P xs = some q) : posB W H Z q = true ∧ runO (backB W H Z) q xs.reverse = some P := by
  induction xs generalizing P with
  | nil =>
    obtain rfl := Option.some.inj ((runO_nil _ P).symm.trans h)
    exact ⟨hp, rfl⟩
  | cons l xs ih =>
    obtain ⟨hj, h2⟩ := run_step h
    obtain ⟨x, c, e1, e2, e3, -⟩ := jump_facts hj
    rw [e1] at h2
    obtain ⟨h3, h4⟩ := ih e2 h2
    refine ⟨h3, ?_⟩
    rw [List.reverse_cons, runO_snoc, h4]
    simp [stO, e3]
theorem run_nat {W H Z P q : Int} {xs : List Ln} (h0 : ∃ u : Nat, P = u ∧ u < 562949953421312) (h : runO (doB W H Z) P xs = some q) (k : Nat) (hk : k ≤ xs.length) : ∃ u : Nat, endL P (xs.take k) = u ∧ u < 562949953421312 := by
  cases k with
  | zero => exact h0
  | succ k =>
    obtain ⟨l, hl⟩ : ∃ l, xs[k]? = some l := ⟨_, List.getElem?_eq_getElem (by omega)⟩
    obtain ⟨hj, hf⟩ := run_at h hl
    obtain ⟨x, c, e1, -, -, -, -, -, e2⟩ := jump_facts hj
    exact ⟨x, by rw [← hf, e1], e2⟩
/-- Each jump removes one peg. -/
theorem run_count {W H Z P q : Int} {xs : List Ln} (h : runO (doB W H Z) P xs = some q) (k : Nat) (hk : k ≤ xs.length) : countB W H Z (endL P (xs.take k)) + k = countB W H Z P := by
  induction k with
  | zero => simp [endL]
  | succ k ih =>
    obtain ⟨l, hl⟩ : ∃ l, xs[k]? = some l := ⟨_, List.getElem?_eq_getElem (by omega)⟩
    obtain ⟨hj, hf⟩ := run_at h hl
    obtain ⟨x, c, e1, -, -, e3, e4, -, -⟩ := jump_facts hj
    have := ih (by omega)
    rw [← hf, e1, e3]
    rw [e4] at this
    omega
theorem run_pos {W H Z P q : Int} {xs : List Ln} (hp : posB W H Z P = true) (h : runO (doB W H Z) P xs = some q) (k : Nat) (hk : k ≤ xs.length) : posB W H Z (endL P (xs.take k)) = true := by
  cases k with
  | zero => exact hp
  | succ k =>
    obtain ⟨l, hl⟩ : ∃ l, xs[k]? = some l := ⟨_, List.getElem?_eq_getElem (by omega)⟩
    obtain ⟨hj, hf⟩ := run_at h hl
    obtain ⟨x, c, e1, e2, -⟩ := jump_facts hj
    rw [← hf, e1]; exact e2
theorem count_nat {W H Z : Int} {p : Nat} (h : posB W H Z p = true) : ∃ c : Nat, countB W H Z p = (c : Int) ∧ c ≤ 49 := ⟨_, count_pos h, pc_le _ _⟩
end Go.Proofs.Ytdlpfpeblaapdaa
