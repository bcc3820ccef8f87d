/- The library's stable sort as a function on lists: insertion in blocks of twenty, merges in place by rotations, and what it makes of all soldiers; of no program. -/
import Derived.Test.YtoginbmflomjeaaArmyMath
namespace Go.Proofs.Ytoginbmflomjeaa
set_option linter.unusedVariables false
def nth (xs : List Sd) (i : Nat) : Sd := xs.getD i (0, 0)
def swp (xs : List Sd) (i j : Nat) : List Sd := (xs.set i (nth xs j)).set j (nth xs i)
/-- n exchanges, upwards from two places. -/
def swR : Nat → Nat → Nat → List Sd → List Sd
  | 0, _, _, xs => xs
  | n + 1, a, b, xs => swR n (a + 1) (b + 1) (swp xs a b)
def rotL : Nat → Nat → Nat → Nat → List Sd → List Sd
  | 0, _, _, _, xs => xs
  | f + 1, m, i, j, xs =>
    if i = j then swR i (m - i) m xs
    else if j < i then rotL f m (i - j) j (swR j (m - i) m xs)
    else rotL f m i (j - i) (swR i (m - i) (m + j - i) xs)
/-- A search by halves. -/
def bsr (t : Nat → Bool) : Nat → Nat → Nat → Nat
  | 0, i, _ => i
  | f + 1, i, j => if i < j then (if t ((i + j) / 2) = true then bsr t f ((i + j) / 2 + 1) j else bsr t f i ((i + j) / 2)) else i
def upL : Nat → Nat → List Sd → List Sd
  | 0, _, xs => xs
  | c + 1, k, xs => upL c (k + 1) (swp xs k (k + 1))
def dnL : Nat → Nat → List Sd → List Sd
  | 0, _, xs => xs
  | c + 1, k, xs => dnL c (k - 1) (swp xs k (k - 1))
section
variable (lt : Sd → Sd → Bool)
def insJ (a : Nat) : Nat → List Sd → List Sd
  | 0, xs => xs
  | j + 1, xs => if (decide (a < j + 1) && lt (nth xs (j + 1)) (nth xs j)) = true then insJ a j (swp xs (j + 1) j) else xs
def insI (a : Nat) : Nat → Nat → List Sd → List Sd
  | 0, _, xs => xs
  | c + 1, i, xs => insI a c (i + 1) (insJ lt a i xs)
def insL (a b : Nat) (xs : List Sd) : List Sd := insI lt a (b - (a + 1)) (a + 1) xs
def symS (xs : List Sd) (a m b : Nat) : Nat :=
  bsr (fun c => !lt (nth xs ((a + b) / 2 + m - 1 - c)) (nth xs c)) (b - a) (if (a + b) / 2 < m then (a + b) / 2 + m - b else a) (if (a + b) / 2 < m then (a + b) / 2 else m)
def rotS (xs : List Sd) (s m e : Nat) : List Sd := if s < m ∧ m < e then rotL (e - s) m (m - s) (e - m) xs else xs
def symL : Nat → Nat → Nat → Nat → List Sd → List Sd
  | 0, _, _, _, xs => xs
  | f + 1, a, m, b, xs =>
    if m - a = 1 then upL (bsr (fun h => lt (nth xs h) (nth xs a)) (b - m) m b - 1 - a) a xs
    else if b - m = 1 then dnL (m - bsr (fun h => !lt (nth xs m) (nth xs h)) (m - a) a m) m xs
    else
      (fun s => (fun e => (fun ys => (fun zs => if (a + b) / 2 < e ∧ e < b then symL f ((a + b) / 2) e b zs else zs) (if a < s ∧ s < (a + b) / 2 then symL f a s ((a + b) / 2) ys else ys)) (rotS xs s m e)) ((a + b) / 2 + m - s)) (symS lt xs a m b)
def blkL (n : Nat) : Nat → Nat → Nat → List Sd → Nat × List Sd
  | 0, a, _, xs => (a, xs)
  | f + 1, a, b, xs => if b ≤ n then blkL n f b (b + 20) (insL lt a b xs) else (a, xs)
def mrgL (n : Nat) : Nat → Nat → Nat → Nat → List Sd → Nat × List Sd
  | 0, _, a, _, xs => (a, xs)
  | f + 1, B, a, b, xs => if b ≤ n then mrgL n f B b (b + 2 * B) (symL lt n a (a + B) b xs) else (a, xs)
def lastL (n B : Nat) (r : Nat × List Sd) : List Sd := if r.1 + B < n then symL lt n r.1 (r.1 + B) n r.2 else r.2
def mrgsL (n : Nat) : Nat → Nat → List Sd → List Sd
  | 0, _, xs => xs
  | f + 1, B, xs => if B < n then mrgsL n f (2 * B) (lastL lt n B (mrgL lt n n B 0 (2 * B) xs)) else xs
def stabL (n : Nat) (xs : List Sd) : List Sd := mrgsL lt n n 20 ((fun r => insL lt r.1 n r.2) (blkL lt n n 0 20 xs))
end
/-- All soldiers, row by row; and by their distance. -/
def evS : List Sd := (List.range 9).flatMap fun (y : Nat) => (List.range 17).map fun (x : Nat) => ((x : Int) - 8, (y : Int))
def dS (s : Sd) : Nat := s.1.natAbs + s.2.toNat
def srtS : List Sd := (List.range 17).flatMap fun d => evS.filter fun s => dS s = d
theorem stab_none : stabL (fun _ _ => false) 153 evS = evS := by decide +kernel
end Go.Proofs.Ytoginbmflomjeaa
