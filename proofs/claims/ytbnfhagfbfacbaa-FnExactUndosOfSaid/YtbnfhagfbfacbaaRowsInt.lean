/- The three helpers of the exact laws on lists of ints: equal lists are found equal; the marks are written into an owned list; the marks are found again. Of owned lists of at most 1048576 ints and marks up to ten digits. -/
import Derived.Test.YtbnfhagfbfacbaaProg
import Derived.Test.YtbnfhagfbfacbaaBase
import Derived.WalkKit
import Derived.WalkSpells
import Derived.BigQuiet
import Derived.Deep.QuietTactic
import Derived.Deep.Draws
import Derived.Lib.Hide
import Derived.Lib.SmallJoins
namespace Go.Proofs.Ytbnfhagfbfacbaa
open Go.RowKit
/-- A list of ints as values. -/
def iv (xs : List Int) : List Value := xs.map (Value.int .i64)
/-- It returns v, and only draws. -/
def QuietRet (v : Value) (w : World) (e : Ending) (w' : World) : Prop := e = .returned v ∧ ∃ n, w' = w.drewN n
theorem drewN_ownI {w : World} {base : Nat} {e : TypeId} {size : Nat} {v : Value} {n : Nat} {xs : List Value} (h : w.ownsRow base e size v n xs) (q : Nat) : (w.drewN q).ownsRow base e size v n xs := h
theorem drewN_belowI (w : World) (q : Nat) : Below w.heap.size w (w.drewN q) := ⟨rfl, rfl, rfl, Nat.le_refl _, fun _ _ => rfl⟩
/-- The n marks from K on. -/
def imarks (K n : Nat) : List Int := (List.range n).map fun (i : Nat) => ((K + i : Nat) : Int)
theorem imarks_length (K n : Nat) : (imarks K n).length = n := by simp [imarks]
theorem imarks_succ (K n : Nat) : imarks K (n + 1) = imarks K n ++ [((K + n : Nat) : Int)] := by simp [imarks, List.range_succ]
theorem iset_mark (l : List Int) (K k : Nat) (x : Int) (r : List Int) (h : l.drop k = x :: r) :
    (iv (imarks K k ++ l.drop k)).set k (.int .i64 ((K + k : Nat) : Int)) = iv (imarks K (k + 1) ++ l.drop (k + 1)) := by
  have h1 : l.drop (k + 1) = r := by rw [← List.drop_drop, h]; rfl
  unfold iv
  rw [h1, h, imarks_succ, List.map_append, List.set_append_right _ _ (by simp [imarks_length])]
  simp [imarks_length]
def IMarked (b K n : Nat) (v : Value) (w : World) (e : Ending) (w' : World) : Prop :=
  e = .returned (.int .i64 (K + n : Nat)) ∧ w'.ownsRow b 3 1 v n (iv (imarks K n)) ∧ w.grownBy w' v.ownBlock
end Go.Proofs.Ytbnfhagfbfacbaa
