/- Classes and keys in numbers: six parities, four differences; what a jump does to them. Of no program. The class and the key of the program. SameKey and FinalHoles of the program. The class and the key of the document's model. SameKey and FinalHoles of the document's model. The lists of classes, keys and final holes as lists of ints. What is told of classes and keys: a jump turns each element of the class, so a game keeps the key; two holes with one key lie three apart; a last peg's hole has the key. Of no program. The laws' own comparison of two lists of ints. -/
import Derived.Test.YtgkmapemnlgldaaPegsAll
import Derived.Test.YtgkmapemnlgldaaJumps
import Derived.Test.YtgkmapemnlgldaaBoards
import Derived.Deep.AppendLies
import Derived.Below
import Derived.Test.YtgkmapemnlgldaaLinesAll
import Derived.Test.YtgkmapemnlgldaaGames
import Derived.WalkKit
import Derived.WalkSpells
import Derived.BigQuiet
import Derived.Deep.QuietTactic
import Derived.Deep.Draws
import Derived.Lib.Hide
import Derived.Lib.SmallJoins
namespace Go.Proofs.Ytgkmapemnlgldaa
/-- The two elements of a class that a peg at place k of a grid W wide changes. -/
def r1 (W k : Nat) : Nat := (k % W + k / W) % 3
def r2 (W k : Nat) : Nat := 3 + (k % W + 2 * (k / W)) % 3
def hitC (W k j : Nat) : Bool := decide (r1 W k = j) || decide (r2 W k = j)
theorem r1_lt (W k : Nat) : r1 W k < 3 := Nat.mod_lt _ (by decide)
theorem r2_lt (W k : Nat) : r2 W k < 6 := by have := Nat.mod_lt (k % W + 2 * (k / W)) (show 3 > 0 by decide); unfold r2; omega
theorem r2_le (W k : Nat) : 3 ≤ r2 W k := by unfold r2; omega
/-- Whether an odd number of the pegs of a list changes element j. -/
def parC (W : Nat) (l : List Nat) (j : Nat) : Bool := l.foldl (fun b k => b ^^ hitC W k j) false
theorem parC_snoc (W : Nat) (l : List Nat) (k j : Nat) : parC W (l ++ [k]) j = (parC W l j ^^ hitC W k j) := by simp [parC]
/-- The class of a list of pegs. -/
def clsL (W : Nat) (l : List Nat) : List Nat := (List.range 6).map fun j => (parC W l j).toNat
theorem clsL_nil (W : Nat) : clsL W [] = [0, 0, 0, 0, 0, 0] := rfl
theorem clsL_length (W : Nat) (l : List Nat) : (clsL W l).length = 6 := by simp [clsL]
theorem clsL_get (W : Nat) (l : List Nat) {j : Nat} (h : j < 6) : (clsL W l)[j]? = some (parC W l j).toNat := by simp [clsL, h]
theorem clsL_six (W : Nat) (l : List Nat) : clsL W l = [(parC W l 0).toNat, (parC W l 1).toNat, (parC W l 2).toNat, (parC W l 3).toNat, (parC W l 4).toNat, (parC W l 5).toNat] := rfl
theorem xor_true_nat (b : Bool) : (b ^^ true).toNat = 1 - b.toNat := by cases b <;> rfl
/-- One peg more. -/
theorem clsL_snoc (W : Nat) (l : List Nat) (k : Nat) : clsL W (l ++ [k]) = ((clsL W l).set (r1 W k) (1 - (parC W l (r1 W k)).toNat)).set (r2 W k) (1 - (parC W l (r2 W k)).toNat) := by
  have a1 := r1_lt W k; have a2 := r2_lt W k; have a3 := r2_le W k
  apply List.ext_getElem?
  intro j
  by_cases hj : j < 6
  · rw [clsL_get W _ hj, parC_snoc, List.getElem?_set, List.getElem?_set]
    simp only [List.length_set, clsL_length]
    by_cases h2 : r2 W k = j
    · subst h2
      rw [if_pos rfl, if_pos hj, show hitC W k (r2 W k) = true by simp [hitC], xor_true_nat]
    · rw [if_neg h2]
      by_cases h1 : r1 W k = j
      · subst h1
        rw [if_pos rfl, if_pos hj, show hitC W k (r1 W k) = true by simp [hitC], xor_true_nat]
      · rw [if_neg h1, clsL_get W _ hj, show hitC W k j = false by simp [hitC, h1, h2], Bool.xor_false]
  · rw [List.getElem?_eq_none (by rw [clsL_length]; omega), List.getElem?_eq_none (by rw [List.length_set, List.length_set, clsL_length]; omega)]
theorem clsL_snoc2 (W : Nat) (l : List Nat) (k : Nat) {i j u v : Nat} (h1 : r1 W k = i) (h2 : r2 W k = j) (hu : (parC W l i).toNat = u) (hv : (parC W l j).toNat = v) : clsL W (l ++ [k]) = ((clsL W l).set i (1 - u)).set j (1 - v) := by
  subst h1 h2 hu hv
  exact clsL_snoc W l k
/-- The class of a position: the pegs below n. -/
def clsN (W n p : Nat) : List Nat := clsL W (bitsOf n p)
theorem clsN_yes {W n p : Nat} (h : bit p n = true) {i j u v : Nat} (h1 : r1 W n = i) (h2 : r2 W n = j) (hu : (parC W (bitsOf n p) i).toNat = u) (hv : (parC W (bitsOf n p) j).toNat = v) : clsN W (n + 1) p = ((clsN W n p).set i (1 - u)).set j (1 - v) := by
  unfold clsN; rw [bitsOf_yes h]; exact clsL_snoc2 W _ n h1 h2 hu hv
theorem clsN_no {W n p : Nat} (h : bit p n = false) : clsN W (n + 1) p = clsN W n p := by unfold clsN; rw [bitsOf_no h]
theorem toNat_le (b : Bool) : b.toNat ≤ 1 := by cases b <;> decide
/-- 1 if two numbers differ, 0 if not. -/
def dif (a b : Nat) : Nat := if a = b then 0 else 1
theorem dif_le (a b : Nat) : dif a b ≤ 1 := by unfold dif; split <;> omega
theorem dif_bool (a b : Bool) : dif a.toNat b.toNat = (a ^^ b).toNat := by cases a <;> cases b <;> rfl
/-- The key of a class. -/
def keyL (c : List Nat) : List Nat := [dif (c.getD 0 0) (c.getD 1 0), dif (c.getD 1 0) (c.getD 2 0), dif (c.getD 3 0) (c.getD 4 0), dif (c.getD 4 0) (c.getD 5 0)]
theorem keyL_six (a b c d e f : Nat) : keyL [a, b, c, d, e, f] = [dif a b, dif b c, dif d e, dif e f] := rfl
def numL (k : List Nat) : Nat := k.getD 0 0 + 2 * k.getD 1 0 + 4 * k.getD 2 0 + 8 * k.getD 3 0
theorem numL_four (a b c d : Nat) : numL [a, b, c, d] = a + 2 * b + 4 * c + 8 * d := rfl
/-- Two keys have one number just if they are the same. -/
theorem num_eq {a b c d a' b' c' d' : Nat} (h1 : a ≤ 1) (h2 : b ≤ 1) (h3 : c ≤ 1) (h1' : a' ≤ 1) (h2' : b' ≤ 1) (h3' : c' ≤ 1) :
    (a + 2 * b + 4 * c + 8 * d = a' + 2 * b' + 4 * c' + 8 * d') ↔ (a = a' ∧ b = b' ∧ c = c' ∧ d = d') := by omega

/-! what a jump does to a class -/
/-- The parity over all bits below n, by a sum that is linear in the position. -/
def parN (W : Nat) (f : Nat → Bool) (j : Nat) : Nat → Bool
  | 0 => false
  | n + 1 => parN W f j n ^^ (f n && hitC W n j)
theorem parN_bits (W p j : Nat) : ∀ n, parC W (bitsOf n p) j = parN W (bit p) j n
  | 0 => rfl
  | n + 1 => by
    cases h : bit p n
    · rw [bitsOf_no h, parN_bits W p j n, parN, h]; simp
    · rw [bitsOf_yes h, parC_snoc, parN_bits W p j n, parN, h]; simp
theorem parN_xor (W : Nat) (f g : Nat → Bool) (j : Nat) : ∀ n, parN W (fun k => f k ^^ g k) j n = (parN W f j n ^^ parN W g j n)
  | 0 => rfl
  | n + 1 => by
    rw [parN, parN, parN, parN_xor W f g j n]
    cases parN W f j n <;> cases parN W g j n <;> cases f n <;> cases g n <;> cases hitC W n j <;> rfl
theorem parN_same (W : Nat) {f g : Nat → Bool} (h : ∀ k, f k = g k) (j n : Nat) : parN W f j n = parN W g j n := by rw [show f = g from funext h]
theorem parN_one (W a j : Nat) : ∀ n, parN W (fun k => decide (a = k)) j n = (decide (a < n) && hitC W a j)
  | 0 => by simp [parN]
  | n + 1 => by
    rw [parN, parN_one W a j n]
    by_cases h : a = n
    · subst h; simp
    · rw [decide_eq_false h, show decide (a < n + 1) = decide (a < n) by rw [decide_eq_decide]; omega]; simp
/-- Each element of the class turns at a jump whose three holes have three remainders. -/
theorem parC_flip {W n p f o t : Nat} (h1 : f ≠ o) (h2 : f ≠ t) (h3 : o ≠ t) (hf : f < n) (ho : o < n) (ht : t < n) (j : Nat)
    (hj : (hitC W f j ^^ hitC W o j ^^ hitC W t j) = true) : parC W (bitsOf n (flipN p f o t)) j = !parC W (bitsOf n p) j := by
  rw [parN_bits, parN_bits]
  have e : ∀ k, bit (flipN p f o t) k = (bit p k ^^ (decide (f = k) ^^ (decide (o = k) ^^ decide (t = k)))) := fun k => by
    rw [bit_flip]
    by_cases k1 : f = k
    · subst k1; simp [h1.symm, h2.symm]
    · by_cases k2 : o = k
      · subst k2; simp [k1, h3.symm]
      · simp [k1, k2]
  rw [parN_same W e, parN_xor W (bit p), parN_xor W (fun k => decide (f = k)), parN_xor W (fun k => decide (o = k)), parN_one, parN_one, parN_one]
  simp only [hf, ho, ht, decide_true, Bool.true_and]
  rw [← Bool.xor_assoc (hitC W f j), hj, Bool.xor_true]
/-- Three places in a row have three remainders. -/
theorem hit_line {W f o t j : Nat} (hj : j < 6)
    (h : (∃ x y, (f % W = x ∧ f / W = y) ∧ ((o % W = x + 1 ∧ o / W = y) ∧ (t % W = x + 2 ∧ t / W = y) ∨ (o % W = x ∧ o / W = y + 1) ∧ (t % W = x ∧ t / W = y + 2))) ∨
         (∃ x y, (t % W = x ∧ t / W = y) ∧ ((o % W = x + 1 ∧ o / W = y) ∧ (f % W = x + 2 ∧ f / W = y) ∨ (o % W = x ∧ o / W = y + 1) ∧ (f % W = x ∧ f / W = y + 2)))) :
    (hitC W f j ^^ hitC W o j ^^ hitC W t j) = true := by
  have key : ∀ a b c a' b' c' : Nat, a < 3 → b < 3 → c < 3 → a' < 6 → b' < 6 → c' < 6 → 3 ≤ a' → 3 ≤ b' → 3 ≤ c' → a ≠ b → b ≠ c → a ≠ c → a' ≠ b' → b' ≠ c' → a' ≠ c' →
      ((decide (a = j) || decide (a' = j)) ^^ (decide (b = j) || decide (b' = j)) ^^ (decide (c = j) || decide (c' = j))) = true := by
    intro a b c a' b' c' _ _ _ _ _ _ _ _ _ _ _ _ _ _ _
    by_cases x1 : a = j <;> by_cases x2 : b = j <;> by_cases x3 : c = j <;> by_cases y1 : a' = j <;> by_cases y2 : b' = j <;> by_cases y3 : c' = j <;> simp only [x1, x2, x3, y1, y2, y3, decide_true, decide_false, Bool.or_true, Bool.or_false] <;> first | rfl | (exfalso; omega)
  unfold hitC
  refine key _ _ _ _ _ _ (r1_lt W f) (r1_lt W o) (r1_lt W t) (r2_lt W f) (r2_lt W o) (r2_lt W t) (r2_le W f) (r2_le W o) (r2_le W t) ?_ ?_ ?_ ?_ ?_ ?_ <;>
  · simp only [r1, r2]
    rcases h with ⟨x, y, ⟨e1, e2⟩, ⟨⟨e3, e4⟩, e5, e6⟩ | ⟨⟨e3, e4⟩, e5, e6⟩⟩ | ⟨x, y, ⟨e1, e2⟩, ⟨⟨e3, e4⟩, e5, e6⟩ | ⟨⟨e3, e4⟩, e5, e6⟩⟩ <;> simp only [e1, e2, e3, e4, e5, e6] <;> omega
end Go.Proofs.Ytgkmapemnlgldaa

namespace Go.Proofs.Ytgkmapemnlgldaa
open Go.RowKit
open Go.Op
set_option linter.unusedVariables false
set_option linter.unusedSimpArgs false
/-- An array of small numbers in a block of its own. -/
def Arr (b : Nat) (T : TypeId) (c : List Nat) (w : World) : Prop := w.heap[b]? = some (.cells (Ints c).toArray T (0, 0))
theorem Arr.cell {b : Nat} {T : TypeId} {c : List Nat} {w : World} (h : Arr b T c w) {j v : Nat} (hj : c[j]? = some v) : w.cell? ⟨b, j, none⟩ = some (.int .i64 v) := by
  rw [cell_of_row w b _ _ _ _ h]
  simp [Ints, hj]
theorem Arr.frozen {b : Nat} {T : TypeId} {c : List Nat} {w : World} (h : Arr b T c w) (j : Nat) : w.frozen? ⟨b, j, none⟩ = false := frozen_of_row w b j _ _ h
theorem Arr.set {b : Nat} {T : TypeId} {c : List Nat} {w : World} (h : Arr b T c w) (j u : Nat) : Arr b T (c.set j u) (w.setCell ⟨b, j, none⟩ (.int .i64 u)) := by
  have := heap_setCell_same w b j _ T (.int .i64 u) h
  unfold Arr
  rw [this]
  simp [Ints]
theorem Arr.later {b : Nat} {T : TypeId} {c : List Nat} {w w' : World} {B : Nat} (h : Arr b T c w) (hb : Below B w w') (hB : b < B) : Arr b T c w' := row_later h hb hB
theorem Arr.lt {b : Nat} {T : TypeId} {c : List Nat} {w : World} (h : Arr b T c w) : b < w.heap.size := by
  rcases Nat.lt_or_ge b w.heap.size with h' | h'
  · exact h'
  · unfold Arr at h; rw [Array.getElem?_eq_none h'] at h; cases h
theorem Arr.other {b g j : Nat} {T : TypeId} {c : List Nat} {w : World} {v : Value} (h : Arr b T c w) (hne : g ≠ b) : Arr b T c (w.setCell ⟨g, j, none⟩ v) := (heap_setCell_other w ⟨g, j, none⟩ b v (by simpa using hne.symm)).trans h
/-- Six cells, and that they can be written. -/
theorem Arr.six {g : Nat} {T : TypeId} {a b c d e f : Nat} {w : World} (h : Arr g T [a, b, c, d, e, f] w) :
    (w.cell? ⟨g, 0, none⟩ = some (.int .i64 a) ∧ w.cell? ⟨g, 1, none⟩ = some (.int .i64 b) ∧ w.cell? ⟨g, 2, none⟩ = some (.int .i64 c) ∧ w.cell? ⟨g, 3, none⟩ = some (.int .i64 d) ∧ w.cell? ⟨g, 4, none⟩ = some (.int .i64 e) ∧ w.cell? ⟨g, 5, none⟩ = some (.int .i64 f)) ∧
    (w.frozen? ⟨g, 0, none⟩ = false ∧ w.frozen? ⟨g, 1, none⟩ = false ∧ w.frozen? ⟨g, 2, none⟩ = false ∧ w.frozen? ⟨g, 3, none⟩ = false ∧ w.frozen? ⟨g, 4, none⟩ = false ∧ w.frozen? ⟨g, 5, none⟩ = false) :=
  ⟨⟨h.cell rfl, h.cell rfl, h.cell rfl, h.cell rfl, h.cell rfl, h.cell rfl⟩, h.frozen _, h.frozen _, h.frozen _, h.frozen _, h.frozen _, h.frozen _⟩
theorem xor_one {v : Nat} (h : v ≤ 1) : bits .xor .i64 (v : Int) 1 = ((1 - v : Nat) : Int) := by
  have : v = 0 ∨ v = 1 := by omega
  rcases this with rfl | rfl <;> decide
theorem xor_dif {a b : Nat} (h : a ≤ 1) (h' : b ≤ 1) : bits .xor .i64 (a : Int) (b : Int) = ((dif a b : Nat) : Int) := by
  have h1 : a = 0 ∨ a = 1 := by omega
  have h2 : b = 0 ∨ b = 1 := by omega
  rcases h1 with rfl | rfl <;> rcases h2 with rfl | rfl <;> decide
/-- The value of a class. -/
def aggN (c : List Nat) : Value := .agg (Ints c).toArray
/-- What the two remainders of a place are, in the walk's words. -/
theorem rems {a k x y i j : Nat} (hx : k % a = x) (hy : k / a = y) (h1 : r1 a k = i) (h2 : r2 a k = j) : (x + y) % 3 = i ∧ 3 + (x + 2 * y) % 3 = j := by
  subst hx hy h1 h2; exact ⟨rfl, rfl⟩
theorem rem_facts {x y i j : Nat} (hx : x < 7) (hy : y < 49) (hi : i < 3) (hj : j < 6) (hj3 : 3 ≤ j) (e1 : (x + y) % 3 = i) (e2 : 3 + (x + 2 * y) % 3 = j) :
    ∃ s t m d : Nat, wrap64 ((x : Int) + (y : Int)) = (s : Int) ∧ (s : Int).tmod 3 = (i : Int) ∧ wrap64 (2 * (y : Int)) = (d : Int) ∧ wrap64 ((x : Int) + (d : Int)) = (t : Int) ∧ (t : Int).tmod 3 = (m : Int) ∧ wrap64 (3 + (m : Int)) = (j : Int) ∧
      (0 : Int) ≤ (i : Int) ∧ (i : Int) < 6 ∧ (0 : Int) ≤ (j : Int) ∧ (j : Int) < 6 ∧ ¬ i = j := by
  refine ⟨x + y, x + 2 * y, (x + 2 * y) % 3, 2 * y, ?_, ?_, ?_, ?_, ?_, ?_, ?_, ?_, ?_, ?_, ?_⟩
  · unfold wrap64; omega
  · rw [← e1]; rfl
  · unfold wrap64; omega
  · unfold wrap64; omega
  · rfl
  · unfold wrap64; omega
  · omega
  · omega
  · omega
  · omega
  · omega
/-- A list of small numbers in new memory. -/
def OwnN (T : TypeId) (xs : List Nat) (w : World) (e : Ending) (w' : World) : Prop :=
  ∃ v, e = .returned v ∧ w'.ownsRow w.heap.size T 1 v xs.length (Ints xs) ∧ Below w.heap.size w w'
theorem Arr.row {b base : Nat} {T : TypeId} {c : List Nat} {w : World} (h : Arr b T c w) {n : Nat} (hn : c.length = n) (hb : base ≤ b) (hm : n ≤ 1000000000) : w.ownsRow base T 1 (.slice (some ⟨b, 0, none⟩) n n) n (Ints c) := by
  have hl : (Ints c).length = n := by simp [Ints, hn]
  refine ⟨by rw [hl]; omega, .inr ⟨b, n, _, rfl, hb, h, Nat.le_refl _, by unfold maxLen; omega, by simp [hl], ?_⟩⟩
  rw [List.take_of_length_le (by simp [hl])]
theorem posNat {W H Z P : Int} (h : posB W H Z P = true) : ∃ a b N z p : Nat, W = a ∧ H = b ∧ Z = z ∧ P = p ∧ Ok (a : Int) (b : Int) N z ∧ Part p z := by
  obtain ⟨N, z, p, rfl, rfl, ho, hp⟩ := pos_yes h
  have h1 := ho.w1; have h2 := ho.h1
  obtain ⟨a, rfl⟩ := Int.eq_ofNat_of_zero_le (show 0 ≤ W by omega)
  obtain ⟨b, rfl⟩ := Int.eq_ofNat_of_zero_le (show 0 ≤ H by omega)
  exact ⟨a, b, N, z, p, rfl, rfl, rfl, rfl, ho, hp⟩
theorem Part.list {W H : Int} {N z p : Nat} (ho : Ok W H N z) (h : Part p z) : bitsOf 49 p = bitsOf N p := bitsOf_more (Nat.lt_of_le_of_lt h.le ho.zlt) 49 ho.n49
def classB (W H Z P : Int) : List Nat := if posB W H Z P = true then clsN W.toNat 49 P.toNat else []
def keyB (W H Z P : Int) : List Nat := if posB W H Z P = true then keyL (clsN W.toNat 49 P.toNat) else []
def numB (W H Z P : Int) : Int := if posB W H Z P = true then ((numL (keyL (clsN W.toNat 49 P.toNat)) : Nat) : Int) else -1
def sameB (W H Z P Q : Int) : Bool := posB W H Z P && posB W H Z Q && (keyB W H Z P == keyB W H Z Q)
/-- The holes of a board, in ascending order. -/
def holesL (W H Z : Int) : List Nat := if okB W H Z = true then bitsOf 49 Z.toNat else []
def finalB (W H Z P : Int) : List Nat := (holesL W H Z).filter fun k => sameB W H Z P (oneB W H Z k)
/-- A class, by its six numbers. -/
theorem cls_named (a n p : Nat) : ∃ c0 c1 c2 c3 c4 c5, clsN a n p = [c0, c1, c2, c3, c4, c5] ∧ c0 ≤ 1 ∧ c1 ≤ 1 ∧ c2 ≤ 1 ∧ c3 ≤ 1 ∧ c4 ≤ 1 ∧ c5 ≤ 1 := ⟨_, _, _, _, _, _, clsL_six _ _, toNat_le _, toNat_le _, toNat_le _, toNat_le _, toNat_le _, toNat_le _⟩
/-- A key, by its four numbers. -/
theorem key_named {c0 c1 c2 c3 c4 c5 : Nat} {l : List Nat} (h : l = [c0, c1, c2, c3, c4, c5]) : ∃ k0 k1 k2 k3, dif c0 c1 = k0 ∧ dif c1 c2 = k1 ∧ dif c3 c4 = k2 ∧ dif c4 c5 = k3 ∧ keyL l = [k0, k1, k2, k3] ∧ k0 ≤ 1 ∧ k1 ≤ 1 ∧ k2 ≤ 1 ∧ k3 ≤ 1 := by
  subst h
  exact ⟨_, _, _, _, rfl, rfl, rfl, rfl, rfl, dif_le _ _, dif_le _ _, dif_le _ _, dif_le _ _⟩
/-- What is told of a position that is valid: its class and its key. -/
structure KeyNum (a b z p c0 c1 c2 c3 c4 c5 k0 k1 k2 k3 : Nat) : Prop where
  cls : classB a b z p = [c0, c1, c2, c3, c4, c5]
  key : keyB a b z p = [k0, k1, k2, k3]
  num : numB a b z p = ((k0 + 2 * k1 + 4 * k2 + 8 * k3 : Nat) : Int)
  l0 : k0 ≤ 1
  l1 : k1 ≤ 1
  l2 : k2 ≤ 1
  l3 : k3 ≤ 1
theorem keyNum {W H Z P : Int} (h : posB W H Z P = true) : ∃ a b z p c0 c1 c2 c3 c4 c5 k0 k1 k2 k3 : Nat, W = a ∧ H = b ∧ Z = z ∧ P = p ∧ KeyNum a b z p c0 c1 c2 c3 c4 c5 k0 k1 k2 k3 := by
  obtain ⟨a, b, N, z, p, rfl, rfl, rfl, rfl, ho, hp⟩ := posNat h
  obtain ⟨c0, c1, c2, c3, c4, c5, hc, h0, h1, h2, h3, h4, h5⟩ := cls_named a 49 p
  obtain ⟨k0, k1, k2, k3, e0, e1, e2, e3, hk, l0, l1, l2, l3⟩ := key_named hc
  refine ⟨a, b, z, p, c0, c1, c2, c3, c4, c5, k0, k1, k2, k3, rfl, rfl, rfl, rfl, ?_, ?_, ?_, l0, l1, l2, l3⟩
  · unfold classB; rw [if_pos h]; exact hc
  · unfold keyB; rw [if_pos h]; exact hk
  · unfold numB; rw [if_pos h]; show ((numL (keyL (clsN a 49 p)) : Nat) : Int) = _; rw [hk]; rfl
end Go.Proofs.Ytgkmapemnlgldaa

namespace Go.Proofs.Ytgkmapemnlgldaa
open Go.RowKit
set_option linter.unusedVariables false
set_option linter.unusedSimpArgs false
theorem same_no1 {W H Z P : Int} (h : posB W H Z P = false) (Q : Int) : sameB W H Z P Q = false := by simp [sameB, h]
theorem same_no2 {W H Z Q : Int} (P : Int) (h : posB W H Z Q = false) : sameB W H Z P Q = false := by simp [sameB, h]
theorem same_yes {W H Z P Q : Int} (h : posB W H Z P = true) (h' : posB W H Z Q = true) : sameB W H Z P Q = (keyB W H Z P == keyB W H Z Q) := by simp [sameB, h, h']
theorem four_eq (a b c d a' b' c' d' : Nat) : ((a : Int) == a' && (b : Int) == b' && (c : Int) == c' && (d : Int) == d') = ([a, b, c, d] == [a', b', c', d']) := by
  rw [Bool.eq_iff_iff]
  simp [Int.natCast_inj, and_assoc]
theorem implHolesA (W H Z : Int) (w : World) : Calls Try.prog 64 #[.agg #[.int .i64 W, .int .i64 H, .int .i64 Z]] w (OwnInts (holesL W H Z) w) := by
  cases h : okB W H Z
  · rw [show holesL W H Z = [] by simp [holesL, h]]; exact implHoles_no h w
  · obtain ⟨N, z, rfl, ho⟩ := ok_of h
    rw [show holesL W H z = bitsOf N z by simp [holesL, h, ho.list]]; exact implHoles ho w
theorem holesL_le (W H Z : Int) : (holesL W H Z).length ≤ 49 := by
  unfold holesL
  split
  · exact bitsOf_le _ _
  · simp
theorem oneB_le (W H Z K : Int) : oneB W H Z K ≤ 9223372036854775807 := by
  unfold oneB
  split
  · rename_i h
    obtain ⟨N, z, k, rfl, rfl, ho, hk, -⟩ := hole_of h
    have := ho.n49
    obtain ⟨q, h1, h2, h3, h4⟩ := pow_nat k (by omega)
    rw [show ((k : Nat) : Int).toNat = k from rfl, h1]; omega
  · omega
theorem final_no {W H Z P : Int} (h : posB W H Z P = false) : finalB W H Z P = [] := by
  unfold finalB
  rw [List.filter_eq_nil_iff]
  intro k _
  rw [same_no1 h]; decide
/-- A list of numbers in an owned row: no second block is touched by what is stored there. -/
theorem one_cell_own {w : World} {B n gc g k x : Nat} {xs : List Nat} (h : w.ownsRow B 3 1 (.slice (some ⟨g, 0, none⟩) n gc) n (Ints xs)) (hk : k < n) (hx : xs[k]? = some x) : w.cell? ⟨g, k, none⟩ = some (.int .i64 x) :=
  own_cell h k hk _ (by simp [Ints, hx])
/-- append(v, x) of one number, v owned: the one block with x has just been laid; it says where the new slice lies. -/
theorem wpList_append_at {P : Program} {ops : Array Oper} {rest : List Oper} {o : Oper} {a : Act} {Q : Exit → Act → World → Prop} {w0 : World} {x : Nat} (hgd : o.guard = none) (s y : Operand) (t : TypeId)
    (ho : o.op = .call { callee := .builtin .append, args := #[s, y], argTypes := #[t, t] })
    (base : Nat) (e : TypeId) (i : TypeInfo) (z : Value) (ht : P.underlying t = some (.slice e)) (hi : P.info? e = some i) (hz : i.zero = some z)
    (hsize : i.size = 1) (hby : i.bytes = 8) (hzs : z.cells.size = 1)
    (v : Value) (n : Nat) (xs : List Nat) (hs : a.eval s = v) (hown : w0.ownsRow base e 1 v n (Ints xs))
    (H : Nat) (hH : w0.heap.size = H) (hx : a.eval y = .slice (some ⟨H, 0, none⟩) 1 1) (hn : n ≤ 1000000000) (hbase : base ≤ w0.heap.size)
    (h : ∀ g cap w', w'.ownsRow base e 1 (.slice (some ⟨g, 0, none⟩) (n + 1) cap) (n + 1) (Ints (xs ++ [x])) → (w0.alloc (.cells #[.int .i64 x] e)).grownBy w' v.ownBlock → Below base w0 w' → (v.ownBlock = some g ∨ g = H + 1) → wpList P ops Q rest (a.put o.dst (.slice (some ⟨g, 0, none⟩) (n + 1) cap)) w') :
    wpList P ops Q (o :: rest) a (w0.alloc (.cells #[.int .i64 x] e)) := by
  subst hH
  refine wpList_append_lies _ hgd s y t ho base e i z 1 8 ht hi hz hsize hby hzs (by decide) v n (Ints xs) hs (hown.alloc _) ⟨w0.heap.size, 0, none⟩ 1 1 [.int .i64 x] hx rfl
    (World.news_of_block (cs := #[.int .i64 x]) (t := e) (fr := (0, 0)) (heap_alloc_new w0 _)) (by intro u hu; simp at hu; subst hu; rfl) Nat.one_pos (by unfold maxLen; omega) (by omega) (by simp; omega) _ rfl ?_
  intro g cap w' h2 h3 h4 _
  refine h g cap w' (by rw [Ints_snoc]; exact h2) h3 (((Below.refl base w0).alloc hbase _).grown h3 (by simp; omega) (fun k hk => (hown.lt k hk).1)) (by simpa using h4)
theorem ints_form {w : World} {b n : Nat} {e : TypeId} {v : Value} {xs : List Value} (h : w.ownsRow b e 1 v n xs) : ∃ a c, v = .slice a n c := by
  rcases Go.Joins.ownsRow_forms h with ⟨rfl, h0⟩ | ⟨g, cap, rfl⟩
  · exact ⟨none, 0, by rw [h0]⟩
  · exact ⟨_, _, rfl⟩
end Go.Proofs.Ytgkmapemnlgldaa

namespace Go.Proofs.Ytgkmapemnlgldaa
open Go.RowKit
open Go.Op
set_option linter.unusedVariables false
set_option linter.unusedSimpArgs false
theorem one_minus {u : Nat} (h : u ≤ 1) : wrap64 (1 - (u : Int)) = ((1 - u : Nat) : Int) := by
  unfold wrap64; omega
theorem take_next {xs : List Nat} {k m : Nat} (h : xs[k]? = some m) : xs.take (k + 1) = xs.take k ++ [m] := by
  rw [List.take_add_one, h]; rfl
theorem clsL_take {W k m i j u v : Nat} {xs : List Nat} (h : xs[k]? = some m) (h1 : r1 W m = i) (h2 : r2 W m = j) (hu : (parC W (xs.take k) i).toNat = u) (hv : (parC W (xs.take k) j).toNat = v) :
    clsL W (xs.take (k + 1)) = ((clsL W (xs.take k)).set i (1 - u)).set j (1 - v) := by
  rw [take_next h]; exact clsL_snoc2 W _ m h1 h2 hu hv
theorem key_cls {W H Z P : Int} (h : posB W H Z P = true) : keyB W H Z P = keyL (classB W H Z P) := by simp [keyB, classB, h]
theorem six_own {w : World} {B g gc c0 c1 c2 c3 c4 c5 : Nat} {T : TypeId} (h : w.ownsRow B T 1 (.slice (some ⟨g, 0, none⟩) 6 gc) 6 (Ints [c0, c1, c2, c3, c4, c5])) :
    w.cell? ⟨g, 0, none⟩ = some (.int .i64 c0) ∧ w.cell? ⟨g, 1, none⟩ = some (.int .i64 c1) ∧ w.cell? ⟨g, 2, none⟩ = some (.int .i64 c2) ∧ w.cell? ⟨g, 3, none⟩ = some (.int .i64 c3) ∧ w.cell? ⟨g, 4, none⟩ = some (.int .i64 c4) ∧ w.cell? ⟨g, 5, none⟩ = some (.int .i64 c5) :=
  ⟨own_cell h 0 (by decide) _ rfl, own_cell h 1 (by decide) _ rfl, own_cell h 2 (by decide) _ rfl, own_cell h 3 (by decide) _ rfl, own_cell h 4 (by decide) _ rfl, own_cell h 5 (by decide) _ rfl⟩
theorem four_own {w : World} {B g gc c0 c1 c2 c3 : Nat} {T : TypeId} (h : w.ownsRow B T 1 (.slice (some ⟨g, 0, none⟩) 4 gc) 4 (Ints [c0, c1, c2, c3])) :
    w.cell? ⟨g, 0, none⟩ = some (.int .i64 c0) ∧ w.cell? ⟨g, 1, none⟩ = some (.int .i64 c1) ∧ w.cell? ⟨g, 2, none⟩ = some (.int .i64 c2) ∧ w.cell? ⟨g, 3, none⟩ = some (.int .i64 c3) :=
  ⟨own_cell h 0 (by decide) _ rfl, own_cell h 1 (by decide) _ rfl, own_cell h 2 (by decide) _ rfl, own_cell h 3 (by decide) _ rfl⟩
theorem some_form {w : World} {b n : Nat} {e : TypeId} {v : Value} {xs : List Value} (h : w.ownsRow b e 1 v n xs) (hn : 0 < n) : ∃ g c, v = .slice (some ⟨g, 0, none⟩) n c := by
  rcases Go.Joins.ownsRow_forms h with ⟨rfl, h0⟩ | ⟨g, cap, rfl⟩
  · omega
  · exact ⟨_, _, rfl⟩
theorem num_facts {k0 k1 k2 k3 : Nat} (h0 : k0 ≤ 1) (h1 : k1 ≤ 1) (h2 : k2 ≤ 1) (h3 : k3 ≤ 1) :
    ∃ d1 s1 d2 s2 d3 : Nat, IntKind.i64.wrap (2 * (k1 : Int)) = (d1 : Int) ∧ IntKind.i64.wrap ((k0 : Int) + (d1 : Int)) = (s1 : Int) ∧ IntKind.i64.wrap (4 * (k2 : Int)) = (d2 : Int) ∧ IntKind.i64.wrap ((s1 : Int) + (d2 : Int)) = (s2 : Int) ∧ IntKind.i64.wrap (8 * (k3 : Int)) = (d3 : Int) ∧ IntKind.i64.wrap ((s2 : Int) + (d3 : Int)) = ((k0 + 2 * k1 + 4 * k2 + 8 * k3 : Nat) : Int) := by
  refine ⟨2 * k1, k0 + 2 * k1, 4 * k2, k0 + 2 * k1 + 4 * k2, 8 * k3, ?_, ?_, ?_, ?_, ?_, ?_⟩ <;> rw [IntKind.wrap_i64] <;> omega
end Go.Proofs.Ytgkmapemnlgldaa

namespace Go.Proofs.Ytgkmapemnlgldaa
open Go.RowKit
open Go.Op
set_option linter.unusedVariables false
set_option linter.unusedSimpArgs false
theorem num_same {k0 k1 k2 k3 m0 m1 m2 m3 : Nat} (h0 : k0 ≤ 1) (h1 : k1 ≤ 1) (h2 : k2 ≤ 1) (h3 : k3 ≤ 1) (g0 : m0 ≤ 1) (g1 : m1 ≤ 1) (g2 : m2 ≤ 1) (g3 : m3 ≤ 1) :
    (((k0 + 2 * k1 + 4 * k2 + 8 * k3 : Nat) : Int) == ((m0 + 2 * m1 + 4 * m2 + 8 * m3 : Nat) : Int)) = ([k0, k1, k2, k3] == [m0, m1, m2, m3]) := by
  have := @num_eq k0 k1 k2 k3 m0 m1 m2 m3 h0 h1 h2 g0 g1 g2
  rw [Bool.eq_iff_iff]
  simp only [beq_iff_eq, List.cons.injEq, and_true, Int.natCast_inj]
  exact this
theorem specHolesA (W H Z : Int) (w : World) : Calls Try.prog 71 #[.agg #[.int .i64 W, .int .i64 H, .int .i64 Z]] w (OwnInts (holesL W H Z) w) := by
  cases h : okB W H Z
  · rw [show holesL W H Z = [] by simp [holesL, h]]; exact specHoles_no h w
  · obtain ⟨N, z, rfl, ho⟩ := ok_of h
    rw [show holesL W H z = bitsOf N z by simp [holesL, h, ho.list]]; exact specHoles ho w
end Go.Proofs.Ytgkmapemnlgldaa

namespace Go.Proofs.Ytgkmapemnlgldaa
open Go.RowKit
set_option linter.unusedVariables false
def natsI (xs : List Nat) : List Int := xs.map fun (k : Nat) => (k : Int)
theorem natsI_len (xs : List Nat) : (natsI xs).length = xs.length := by simp [natsI]
theorem iv_nats (xs : List Nat) : iv (natsI xs) = Ints xs := by simp [iv, Ints, natsI]
/-- A list of ints in new memory, in a block of a given type. -/
def OwnI (T : TypeId) (xs : List Int) (w : World) (e : Ending) (w' : World) : Prop :=
  ∃ v, e = .returned v ∧ w'.ownsRow w.heap.size T 1 v xs.length (iv xs) ∧ Below w.heap.size w w'
theorem OwnN.ints {T : TypeId} {xs : List Nat} {w : World} {e : Ending} {w' : World} (h : OwnN T xs w e w') : OwnI T (natsI xs) w e w' := by
  obtain ⟨v, h1, h2, h3⟩ := h
  exact ⟨v, h1, by rw [natsI_len, iv_nats]; exact h2, h3⟩
theorem own_ints {xs : List Nat} {w : World} {e : Ending} {w' : World} (h : OwnInts xs w e w') : OwnI 3 (natsI xs) w e w' := OwnN.ints h
theorem class_le (W H Z P : Int) : (natsI (classB W H Z P)).length ≤ 6 := by
  rw [natsI_len]; unfold classB; split
  · exact Nat.le_of_eq (clsL_length _ _)
  · simp
theorem key_le (W H Z P : Int) : (natsI (keyB W H Z P)).length ≤ 4 := by
  rw [natsI_len]; unfold keyB; split
  · exact Nat.le_refl _
  · simp
theorem final_le (W H Z P : Int) : (natsI (finalB W H Z P)).length ≤ 49 := by
  rw [natsI_len]; exact Nat.le_trans (List.length_filter_le _ _) (holesL_le W H Z)
end Go.Proofs.Ytgkmapemnlgldaa

namespace Go.Proofs.Ytgkmapemnlgldaa
set_option linter.unusedVariables false
set_option linter.unusedSimpArgs false
theorem xy_of {a x y j : Nat} (hx : x < a) (h : j = a * y + x) : j % a = x ∧ j / a = y := by
  subst h
  exact ⟨by rw [Nat.mul_add_mod, Nat.mod_eq_of_lt hx], by rw [Nat.mul_add_div (by omega), Nat.div_eq_of_lt hx, Nat.add_zero]⟩
/-- A step in a direction, in columns and rows. -/
def StepXY (a k d j : Nat) : Prop := (d = 0 ∧ j % a = k % a + 1 ∧ j / a = k / a) ∨ (d = 1 ∧ j % a = k % a ∧ j / a = k / a + 1) ∨ (d = 2 ∧ k % a = j % a + 1 ∧ k / a = j / a) ∨ (d = 3 ∧ k % a = j % a ∧ k / a = j / a + 1)
theorem nbr_xy {a b k d j : Nat} (ha : 0 < a) (hd : d < 4) (h : nbr a b k d = some j) : StepXY a k d j := by
  have hk := Nat.div_add_mod k a
  have hl := Nat.mod_lt k ha
  match d, hd with
  | 0, _ =>
    simp only [nbr, if_true] at h
    split at h
    · rename_i hc
      obtain rfl := Option.some.inj h
      obtain ⟨h1, h2⟩ := xy_of (a := a) (x := k % a + 1) (y := k / a) (j := k + 1) hc (by omega)
      exact .inl ⟨rfl, h1, h2⟩
    · cases h
  | 1, _ =>
    simp only [nbr, Nat.one_ne_zero, if_true, if_false] at h
    split at h
    · obtain rfl := Option.some.inj h
      obtain ⟨h1, h2⟩ := xy_of (a := a) (x := k % a) (y := k / a + 1) (j := k + a) hl (by rw [Nat.mul_add, Nat.mul_one]; omega)
      exact .inr (.inl ⟨rfl, h1, h2⟩)
    · cases h
  | 2, _ =>
    simp only [nbr, if_true, show ¬ (2 : Nat) = 0 by decide, show ¬ (2 : Nat) = 1 by decide, if_false] at h
    split at h
    · rename_i hc
      obtain rfl := Option.some.inj h
      obtain ⟨h1, h2⟩ := xy_of (a := a) (x := k % a - 1) (y := k / a) (j := k - 1) (by omega) (by omega)
      exact .inr (.inr (.inl ⟨rfl, by omega, by omega⟩))
    · cases h
  | 3, _ =>
    simp only [nbr, show ¬ (3 : Nat) = 0 by decide, show ¬ (3 : Nat) = 1 by decide, show ¬ (3 : Nat) = 2 by decide, if_false] at h
    split at h
    · rename_i hc
      obtain rfl := Option.some.inj h
      obtain ⟨y, hy⟩ : ∃ y, k / a = y + 1 := ⟨k / a - 1, by omega⟩
      rw [hy, Nat.mul_add, Nat.mul_one] at hk
      obtain ⟨h1, h2⟩ := xy_of (a := a) (x := k % a) (y := y) (j := k - a) hl (by omega)
      exact .inr (.inr (.inr ⟨rfl, h1.symm, by omega⟩))
    · cases h
/-- The three holes of a line change each element of a class together just once or thrice. -/
theorem line_hit {a b z : Nat} {l : Ln} (ha : 0 < a) (h : isLine a b z l) {j : Nat} (hj : j < 6) : (hitC a l.1.toNat j ^^ hitC a l.2.1.toNat j ^^ hitC a l.2.2.toNat j) = true := by
  obtain ⟨k, o, t, d, hd, hk, hz, h1, h2, rfl⟩ := h
  have s1 := nbr_xy ha hd (stepN_some h1).1
  have s2 := nbr_xy ha hd (stepN_some h2).1
  show (hitC a k j ^^ hitC a o j ^^ hitC a t j) = true
  apply hit_line hj
  rcases s1 with ⟨rfl, e1, e2⟩ | ⟨rfl, e1, e2⟩ | ⟨rfl, e1, e2⟩ | ⟨rfl, e1, e2⟩
  · rcases s2 with ⟨-, e3, e4⟩ | ⟨h0, -⟩ | ⟨h0, -⟩ | ⟨h0, -⟩
    · exact .inl ⟨_, _, ⟨rfl, rfl⟩, .inl ⟨⟨e1, e2⟩, by omega, by omega⟩⟩
    all_goals omega
  · rcases s2 with ⟨h0, -⟩ | ⟨-, e3, e4⟩ | ⟨h0, -⟩ | ⟨h0, -⟩
    · omega
    · exact .inl ⟨_, _, ⟨rfl, rfl⟩, .inr ⟨⟨e1, e2⟩, by omega, by omega⟩⟩
    all_goals omega
  · rcases s2 with ⟨h0, -⟩ | ⟨h0, -⟩ | ⟨-, e3, e4⟩ | ⟨h0, -⟩
    · omega
    · omega
    · exact .inr ⟨_, _, ⟨rfl, rfl⟩, .inl ⟨⟨e3, e4⟩, by omega, by omega⟩⟩
    · omega
  · rcases s2 with ⟨h0, -⟩ | ⟨h0, -⟩ | ⟨h0, -⟩ | ⟨-, e3, e4⟩
    · omega
    · omega
    · omega
    · exact .inr ⟨_, _, ⟨rfl, rfl⟩, .inr ⟨⟨e3, e4⟩, by omega, by omega⟩⟩
theorem lns_hit {W H Z : Int} {l : Ln} (ho : okB W H Z = true) (hl : (lnsOf W H Z).contains l = true) {j : Nat} (hj : j < 6) : (hitC W.toNat l.1.toNat j ^^ hitC W.toNat l.2.1.toNat j ^^ hitC W.toNat l.2.2.toNat j) = true := by
  obtain ⟨a, b, N, z, rfl, rfl, rfl, h⟩ := okNat ho
  obtain ⟨hN, ha, -⟩ := h.nat
  rw [lnsOf_ok h, List.contains_iff_mem] at hl
  exact line_hit ha ((mem_lines hN).1 hl) hj
theorem pos_ok {W H Z P : Int} (h : posB W H Z P = true) : okB W H Z = true := by
  simp only [posB, Bool.and_eq_true] at h; exact h.1.1
/-- An element of a position's class. -/
def cB (W P : Int) (j : Nat) : Bool := parC W.toNat (bitsOf 49 P.toNat) j
/-- A jump turns each element. -/
theorem jump_par {W H Z P : Int} {l : Ln} (h : jumpB W H Z P l = true) {j : Nat} (hj : j < 6) : cB W (flipL P l) j = !cB W P j := by
  obtain ⟨a, b, N, z, p, f, o, t, S, hbef⟩ := jump_set h
  obtain ⟨h1, h2, h3⟩ := jump_parts h
  have hh := lns_hit (pos_ok h1) h2 hj
  obtain ⟨hpb, hf, ho, ht⟩ := S.bounds
  rw [S.flip, S.eP, S.eW]
  rw [S.at'.eq, S.eW] at hh
  exact parC_flip S.at'.fo S.at'.ft S.at'.ot hf ho ht j hh
/-- A game turns each element as often as it has jumps. -/
theorem run_par {W H Z P q : Int} {xs : List Ln} (h : runO (doB W H Z) P xs = some q) {j : Nat} (hj : j < 6) : cB W q j = (cB W P j ^^ decide (xs.length % 2 = 1)) := by
  induction xs generalizing P with
  | nil =>
    obtain rfl := Option.some.inj ((runO_nil _ P).symm.trans h)
    simp
  | cons l xs ih =>
    obtain ⟨hjm, h2⟩ := run_step h
    rw [ih h2, jump_par hjm hj, List.length_cons]
    rcases Nat.mod_two_eq_zero_or_one xs.length with e | e
    · rw [show (xs.length + 1) % 2 = 1 by omega, e]; cases cB W P j <;> rfl
    · rw [show (xs.length + 1) % 2 = 0 by omega, e]; cases cB W P j <;> rfl
theorem classB_six {W H Z P : Int} (h : posB W H Z P = true) : classB W H Z P = [(cB W P 0).toNat, (cB W P 1).toNat, (cB W P 2).toNat, (cB W P 3).toNat, (cB W P 4).toNat, (cB W P 5).toNat] := by
  unfold classB; rw [if_pos h]; rfl
theorem keyB_four {W H Z P : Int} (h : posB W H Z P = true) : keyB W H Z P = [(cB W P 0 ^^ cB W P 1).toNat, (cB W P 1 ^^ cB W P 2).toNat, (cB W P 3 ^^ cB W P 4).toNat, (cB W P 4 ^^ cB W P 5).toNat] := by
  unfold keyB; rw [if_pos h]
  show keyL [(cB W P 0).toNat, (cB W P 1).toNat, (cB W P 2).toNat, (cB W P 3).toNat, (cB W P 4).toNat, (cB W P 5).toNat] = _
  rw [keyL_six, dif_bool, dif_bool, dif_bool, dif_bool]
theorem xor_both (a b e : Bool) : ((a ^^ e) ^^ (b ^^ e)) = (a ^^ b) := by cases a <;> cases b <;> cases e <;> rfl
/-- A game keeps the key. -/
theorem run_key {W H Z P q : Int} {xs : List Ln} (hp : posB W H Z P = true) (hq : posB W H Z q = true) (h : runO (doB W H Z) P xs = some q) : keyB W H Z q = keyB W H Z P := by
  rw [keyB_four hp, keyB_four hq, run_par h (show 0 < 6 by decide), run_par h (show 1 < 6 by decide), run_par h (show 2 < 6 by decide), run_par h (show 3 < 6 by decide), run_par h (show 4 < 6 by decide), run_par h (show 5 < 6 by decide), xor_both, xor_both, xor_both, xor_both]
theorem num_key {W H Z P : Int} (h : posB W H Z P = true) : numB W H Z P = (numL (keyB W H Z P) : Nat) := by
  unfold numB keyB; rw [if_pos h, if_pos h]
theorem run_num {W H Z P q : Int} {xs : List Ln} (hp : posB W H Z P = true) (hq : posB W H Z q = true) (h : runO (doB W H Z) P xs = some q) : numB W H Z q = numB W H Z P := by
  rw [num_key hp, num_key hq, run_key hp hq h]
theorem same_of {W H Z P Q : Int} (hp : posB W H Z P = true) (hq : posB W H Z Q = true) (h : keyB W H Z P = keyB W H Z Q) : sameB W H Z P Q = true := by
  rw [same_yes hp hq, h]; exact beq_self_eq_true _
theorem same_parts {W H Z P Q : Int} (h : sameB W H Z P Q = true) : posB W H Z P = true ∧ posB W H Z Q = true ∧ keyB W H Z P = keyB W H Z Q := by
  simp only [sameB, Bool.and_eq_true] at h
  exact ⟨h.1.1, h.1.2, by simpa using h.2⟩
theorem bits_zero : bitsOf 49 0 = [] := by decide +kernel
/-- The empty position's key. -/
theorem num_zero {W H : Int} {N z : Nat} (ho : Ok W H N z) : numB W H z 0 = 0 := by
  have h : posB W H z (0 : Nat) = true := pos_of ho (part_zero z)
  have e := num_key h
  rw [keyB_four h] at e
  have hc : ∀ j, cB W (0 : Nat) j = false := fun j => by
    unfold cB
    rw [show ((0 : Nat) : Int).toNat = 0 from rfl, bits_zero]; rfl
  simp only [hc] at e
  exact e
/-! single pegs -/
theorem bits_pow {k : Nat} (hk : k < 49) : bitsOf 49 (2 ^ k) = [k] := by
  have h1 : (bitsOf 49 (2 ^ k)).length = 1 := by rw [bitsOf_length, pc_one hk]
  obtain ⟨x, hx⟩ := List.length_eq_one_iff.1 h1
  have h2 : k ∈ bitsOf 49 (2 ^ k) := mem_bitsOf.2 ⟨hk, by rw [bit_pow]; simp⟩
  rw [hx] at h2 ⊢
  rw [List.mem_singleton.1 h2]
theorem one_hole {W H : Int} {N z k : Nat} (ho : Ok W H N z) (hk : k ∈ bitsOf 49 z) : oneB W H z k = ((2 ^ k : Nat) : Int) ∧ k < 49 ∧ bit z k = true := by
  have h1 := mem_bitsOf.1 hk
  rw [ho.list] at hk
  have h2 := mem_bitsOf.1 hk
  have h3 := holeB_in ho h2.1
  refine ⟨?_, h1.1, h1.2⟩
  unfold oneB
  rw [if_pos (by rw [h3]; exact h1.2)]
  simp
theorem cB_one {W : Int} {k : Nat} (hk : k < 49) (j : Nat) : cB W ((2 ^ k : Nat) : Int) j = hitC W.toNat k j := by
  unfold cB
  rw [show ((2 ^ k : Nat) : Int).toNat = 2 ^ k from rfl, bits_pow hk]
  simp [parC]
theorem three_a : ∀ i i' : Fin 3, (decide (i.val = 0) ^^ decide (i.val = 1)) = (decide (i'.val = 0) ^^ decide (i'.val = 1)) → (decide (i.val = 1) ^^ decide (i.val = 2)) = (decide (i'.val = 1) ^^ decide (i'.val = 2)) → i.val = i'.val := by decide
theorem hit_lo (W k : Nat) {j : Nat} (hj : j < 3) : hitC W k j = decide (r1 W k = j) := by
  have := r2_le W k
  unfold hitC
  rw [show decide (r2 W k = j) = false by rw [decide_eq_false_iff_not]; omega, Bool.or_false]
theorem hit_hi (W k : Nat) {j : Nat} (hj : j < 3) : hitC W k (3 + j) = decide ((k % W + 2 * (k / W)) % 3 = j) := by
  have := r1_lt W k
  unfold hitC
  rw [show decide (r1 W k = 3 + j) = false by rw [decide_eq_false_iff_not]; omega, Bool.false_or, decide_eq_decide]
  unfold r2; omega
theorem toNat_inj {a b : Bool} (h : a.toNat = b.toNat) : a = b := by cases a <;> cases b <;> first | rfl | exact absurd h (by decide)
/-- Two single pegs with one key lie three apart. -/
theorem one_apart {W H : Int} {N z k k' : Nat} (ho : Ok W H N z) (hk : k ∈ bitsOf 49 z) (hk' : k' ∈ bitsOf 49 z) (h : keyB W H z (oneB W H z k) = keyB W H z (oneB W H z k')) :
    (k % W.toNat) % 3 = (k' % W.toNat) % 3 ∧ (k / W.toNat) % 3 = (k' / W.toNat) % 3 := by
  obtain ⟨e1, h1, b1⟩ := one_hole ho hk
  obtain ⟨e2, h2, b2⟩ := one_hole ho hk'
  rw [e1, e2, keyB_four (pos_of ho (part_pow b1)), keyB_four (pos_of ho (part_pow b2))] at h
  simp only [cB_one h1, cB_one h2] at h
  injection h with q0 h
  injection h with q1 h
  injection h with q2 h
  injection h with q3 h
  have q0 := toNat_inj q0
  have q1 := toNat_inj q1
  have q2 := toNat_inj q2
  have q3 := toNat_inj q3
  simp only [hit_lo _ _ (show 0 < 3 by decide), hit_lo _ _ (show 1 < 3 by decide), hit_lo _ _ (show 2 < 3 by decide)] at q0 q1
  rw [show (3 : Nat) = 3 + 0 from rfl, show (4 : Nat) = 3 + 1 from rfl, hit_hi _ _ (show 0 < 3 by decide), hit_hi _ _ (show 1 < 3 by decide), hit_hi _ _ (show 0 < 3 by decide), hit_hi _ _ (show 1 < 3 by decide)] at q2
  rw [show (4 : Nat) = 3 + 1 from rfl, show (5 : Nat) = 3 + 2 from rfl, hit_hi _ _ (show 1 < 3 by decide), hit_hi _ _ (show 2 < 3 by decide), hit_hi _ _ (show 1 < 3 by decide), hit_hi _ _ (show 2 < 3 by decide)] at q3
  have a1 := three_a ⟨r1 W.toNat k, r1_lt _ _⟩ ⟨r1 W.toNat k', r1_lt _ _⟩ q0 q1
  have a2 := three_a ⟨(k % W.toNat + 2 * (k / W.toNat)) % 3, Nat.mod_lt _ (by decide)⟩ ⟨(k' % W.toNat + 2 * (k' / W.toNat)) % 3, Nat.mod_lt _ (by decide)⟩ q2 q3
  simp only [r1] at a1
  simp only at a2
  generalize k % W.toNat = x at *
  generalize k / W.toNat = y at *
  generalize k' % W.toNat = x' at *
  generalize k' / W.toNat = y' at *
  omega
theorem final_mem {W H P : Int} {N z k : Nat} (ho : Ok W H N z) : k ∈ finalB W H z P ↔ k ∈ bitsOf 49 z ∧ sameB W H z P (oneB W H z k) = true := by
  unfold finalB holesL
  rw [if_pos ho.ok, show ((z : Nat) : Int).toNat = z from rfl]
  simp [List.mem_filter]
/-- The final holes lie three apart. -/
theorem final_apart {W H P : Int} {N z k k' : Nat} (ho : Ok W H N z) (hk : k ∈ finalB W H z P) (hk' : k' ∈ finalB W H z P) :
    k < 49 ∧ (k % W.toNat) % 3 = (k' % W.toNat) % 3 ∧ (k / W.toNat) % 3 = (k' / W.toNat) % 3 := by
  obtain ⟨h1, s1⟩ := (final_mem ho).1 hk
  obtain ⟨h2, s2⟩ := (final_mem ho).1 hk'
  exact ⟨(mem_bitsOf.1 h1).1, one_apart ho h1 h2 ((same_parts s1).2.2.symm.trans (same_parts s2).2.2)⟩
/-- A last peg stands in a final hole. -/
theorem final_last {W H P : Int} {N z q : Nat} (ho : Ok W H N z) (hp : posB W H z P = true) (hq : Part q z) (hk : keyB W H z q = keyB W H z P) (h1 : countB W H z q = 1) : 0 < (finalB W H z P).length := by
  have hpq := pos_of ho hq
  rw [count_pos hpq] at h1
  have h2 : (bitsOf 49 q).length = 1 := by rw [bitsOf_length]; omega
  obtain ⟨k, hx⟩ := List.length_eq_one_iff.1 h2
  have hm : k ∈ bitsOf 49 q := by rw [hx]; simp
  have hb := mem_bitsOf.1 hm
  have hlt : q < 2 ^ 49 := Nat.lt_of_le_of_lt hq.le ho.z49
  have hs := powSum_all hlt
  rw [hx] at hs
  have hq2 : q = 2 ^ k := by rw [← hs]; simp [powSum]
  have hz : k ∈ bitsOf 49 z := mem_bitsOf.2 ⟨hb.1, hq.bit hb.2⟩
  have e := (one_hole ho hz).1
  rw [← hq2] at e
  have hmem : k ∈ finalB W H z P := (final_mem ho).2 ⟨hz, by rw [e]; exact same_of hp hpq hk.symm⟩
  exact List.length_pos_of_mem hmem
end Go.Proofs.Ytgkmapemnlgldaa

namespace Go.Proofs.Ytgkmapemnlgldaa
open Go.RowKit
variable {T T1 T2 : TypeId}
set_option maxRecDepth 100000 in
theorem sameI_none {b1 b2 : Nat} (va vb : Value) (w : World) (ha : w.ownsRow b1 T1 1 va 0 []) (hb : w.ownsRow b2 T2 1 vb 0 []) :
    Calls Try.prog 18 #[va, vb] w (QuietRet (.bool true) w) := by
  obtain ⟨a, c, rfl⟩ : ∃ a c, va = .slice a 0 c := by rcases Go.Joins.ownsRow_forms ha with ⟨rfl, _⟩ | ⟨g, cap, rfl⟩ <;> exact ⟨_, _, rfl⟩
  obtain ⟨a', c', rfl⟩ : ∃ a c, vb = .slice a 0 c := by rcases Go.Joins.ownsRow_forms hb with ⟨rfl, _⟩ | ⟨g, cap, rfl⟩ <;> exact ⟨_, _, rfl⟩
  clear ha hb
  go_enter Try.func18, Try.ntmps18
  go_wp2
  go_loop [5, 11, 12, 13, 14] (fun i _ _ _ _ => i = .int .i64 0) (fun _ _ _ _ _ => 0)
  case atStart => rfl
  case round =>
    subst hrel
    go_wp2
    go_ret
    exact ⟨rfl, 0, rfl⟩
set_option maxHeartbeats 1000000 in
set_option maxRecDepth 100000 in
theorem sameI_some {b1 b2 ga gb n ca cb : Nat} (xs : List Int) (w : World) (hn : xs.length = n) (hx : n ≤ 1048576)
    (ha : w.ownsRow b1 T1 1 (.slice (some ⟨ga, 0, none⟩) n ca) n (iv xs)) (hb : w.ownsRow b2 T2 1 (.slice (some ⟨gb, 0, none⟩) n cb) n (iv xs)) :
    Calls Try.prog 18 #[.slice (some ⟨ga, 0, none⟩) n ca, .slice (some ⟨gb, 0, none⟩) n cb] w (QuietRet (.bool true) w) := by
  have HN := Lib.hid hn; clear hn
  have HA := Lib.hid ha; clear ha
  have HB := Lib.hid hb; clear hb
  go_enter Try.func18, Try.ntmps18
  go_wp2
  go_loopw [5] (fun i wr => ∃ k q : Nat, k ≤ n ∧ i = .int .i64 k ∧ wr = w.drewN q) (fun i _ => n - (intOf i).toNat)
  case atStart => exact ⟨0, 0, Nat.zero_le _, rfl, rfl⟩
  case round =>
    obtain ⟨k, q, hk, rfl, rfl⟩ := hrel
    by_cases hlt : k < n
    · have h0 : (0 : Int) ≤ (k : Int) := by omega
      have h1 : (k : Int) < (n : Int) := by omega
      obtain ⟨x, hxk⟩ : ∃ x, xs[k]? = some x := ⟨_, List.getElem?_eq_getElem (by rw [HN.out]; exact hlt)⟩
      have hA : w.cell? ⟨ga, k, none⟩ = some (.int .i64 x) := own_cell HA.out k hlt _ (by simp [iv, hxk])
      have hB : w.cell? ⟨gb, k, none⟩ = some (.int .i64 x) := own_cell HB.out k hlt _ (by simp [iv, hxk])
      clear hxk
      go_wp2_with fail
      go_quiet (fail)
      go_wp2
      go_roundw
      case rel => exact ⟨k + 1, _, by omega, by go_num, rfl⟩
      case measure => simp [intOf]; omega
    · go_wp2
      go_ret
      exact ⟨rfl, q, rfl⟩
theorem sameI {b1 b2 n : Nat} (va vb : Value) (xs : List Int) (w : World) (hn : xs.length = n) (hx : n ≤ 1048576) (ha : w.ownsRow b1 T1 1 va n (iv xs)) (hb : w.ownsRow b2 T2 1 vb n (iv xs)) :
    Calls Try.prog 18 #[va, vb] w (QuietRet (.bool true) w) := by
  by_cases h0 : n = 0
  · subst h0
    obtain rfl : xs = [] := List.eq_nil_of_length_eq_zero hn
    exact sameI_none va vb w ha hb
  · rcases Go.Joins.ownsRow_forms ha with ⟨_, h⟩ | ⟨g, cap, rfl⟩
    · exact absurd h h0
    · rcases Go.Joins.ownsRow_forms hb with ⟨_, h⟩ | ⟨g', cap', rfl⟩
      · exact absurd h h0
      · exact sameI_some xs w hn hx ha hb
theorem sameN {b1 b2 n : Nat} (va vb : Value) (xs : List Nat) (w : World) (hn : xs.length = n) (hx : n ≤ 1048576) (ha : w.ownsRow b1 T1 1 va n (Ints xs)) (hb : w.ownsRow b2 T2 1 vb n (Ints xs)) :
    Calls Try.prog 18 #[va, vb] w (QuietRet (.bool true) w) :=
  sameI va vb (natsI xs) w (by rw [natsI_len]; exact hn) hx (by rw [iv_nats]; exact ha) (by rw [iv_nats]; exact hb)
end Go.Proofs.Ytgkmapemnlgldaa
