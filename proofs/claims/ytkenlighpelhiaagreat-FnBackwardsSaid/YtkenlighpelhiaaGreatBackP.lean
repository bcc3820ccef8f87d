/- Pairs of holes, of the model: PairsOf, for every three ints. -/
import Derived.Test.YtkenlighpelhiaaGreatBackA
import Derived.Test.YtkenlighpelhiaaGreatNest
import Derived.Test.YtkenlighpelhiaaGreatBoards
namespace Go.Proofs.YtkenlighpelhiaaGreat
open Go.RowKit
set_option linter.unusedVariables false
set_option linter.unusedSimpArgs false
def pairRow (W H Z : Int) (k : Nat) (hs : List Nat) : List (List Int) := (hs.filter (fun (m : Nat) => reachB false W H Z (butB W H Z k) ((2 ^ m : Nat) : Int))).map (fun (m : Nat) => [(k : Int), (m : Int)])
def pairL (W H Z : Int) : List (List Int) := if (smallB W H Z && decide ((holesR W H Z).length ≤ 12)) = true then (holesR W H Z).flatMap (fun k => pairRow W H Z k (holesR W H Z)) else []
/-- A list of lists of ints in new memory. -/
def OwnSS (xss : List (List Int)) (w : World) (e : Ending) (w' : World) : Prop := ∃ v n vs, e = .returned v ∧ NestI w.heap.size w'.heap.size 28 3 v n vs xss w' ∧ Below w.heap.size w w'
theorem row_snoc (W H Z : Int) (k : Nat) {hs : List Nat} (i : Nat) {m : Nat} (hi : hs[i]? = some m) : pairRow W H Z k (hs.take (i + 1)) = pairRow W H Z k (hs.take i) ++ (if reachB false W H Z (butB W H Z k) ((2 ^ m : Nat) : Int) = true then [[(k : Int), (m : Int)]] else []) := by
  unfold pairRow
  rw [take_one hi, List.filter_append, List.map_append]
  congr 1
  cases hc : reachB false W H Z (butB W H Z k) ((2 ^ m : Nat) : Int) <;> simp only [List.filter_cons, List.filter_nil, hc, Bool.false_eq_true, if_false, if_true, List.map_nil, List.map_cons]
theorem pairs_snoc (W H Z : Int) (all : List Nat) {hs : List Nat} (i : Nat) {k : Nat} (hi : hs[i]? = some k) : (hs.take (i + 1)).flatMap (fun k => pairRow W H Z k all) = (hs.take i).flatMap (fun k => pairRow W H Z k all) ++ pairRow W H Z k all := by
  rw [take_one hi, List.flatMap_append]
  simp
theorem row_len (W H Z : Int) (k : Nat) (hs : List Nat) : (pairRow W H Z k hs).length ≤ hs.length := by unfold pairRow; rw [List.length_map]; exact List.length_filter_le ..
theorem pairs_len (W H Z : Int) (all : List Nat) : ∀ hs : List Nat, (hs.flatMap (fun k => pairRow W H Z k all)).length ≤ hs.length * all.length
  | [] => by simp
  | k :: hs => by
    rw [List.flatMap_cons, List.length_append, List.length_cons]
    have h1 := row_len W H Z k all
    have h2 := pairs_len W H Z all hs
    rw [Nat.succ_mul]
    omega
/-- The board, the holes, the marks. -/
def PrS (w0 : World) (W H Z : Int) (ha : Option Addr) (m hc : Nat) (hs : List Nat) (v gs : Value) (M : Nat) (s : Nat → Bool) (w : World) : Prop :=
  Box w0.heap.size W H Z w0 w ∧ w.ownsRow w0.heap.size 3 1 (.slice ha m hc) m (Ints hs) ∧ w.ownsRow w0.heap.size 4 1 gs M (bv M s)
theorem closed_prs {w0 : World} {W H Z : Int} {ha : Option Addr} {m hc : Nat} {hs : List Nat} {v gs : Value} {M : Nat} {s : Nat → Bool} : Closed (PrS w0 W H Z ha m hc hs v gs M s) := fun _ _ h k => ⟨h.1.later k, own_below h.2.1 k, own_below h.2.2 k⟩
theorem PrS.grown {w0 w w' : World} {W H Z : Int} {ha : Option Addr} {m hc n b : Nat} {hs : List Nat} {v gs : Value} {M : Nat} {s : Nat → Bool} {vs : List Value} (h : PrS w0 W H Z ha m hc hs v gs M s w) (ho : w.ownsRow b 28 1 v n vs) (hg : w.grownBy w' v.ownBlock) (hb : Below (w0.heap.size + 1) w w') : PrS w0 W H Z ha m hc hs v gs M s w' :=
  ⟨h.1.kept hb (Nat.lt_succ_self _) (Nat.le_succ _), h.2.1.kept hg (own_ne h.2.1 ho (by decide)), h.2.2.kept hg (own_ne h.2.2 ho (by decide))⟩
theorem closed_nest {b B n : Nat} {TO TI : TypeId} {v : Value} {vs : List Value} {xss : List (List Int)} : Closed (NestI b B TO TI v n vs xss) := fun _ _ h k => h.later k
end Go.Proofs.YtkenlighpelhiaaGreat
