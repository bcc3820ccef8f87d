/- The three helpers of the exact laws on lists of strings: equal lists are found equal; the marks are written into an owned list; the marks are found again. Of owned lists of at most 1048576 strings and marks of at most four digits. -/
import Derived.Test.YtpdhdogllejdbaaProg
import Derived.Test.YtpdhdogllejdbaaBoards
import Derived.WalkKit
import Derived.WalkSpells
import Derived.BigQuiet
import Derived.Deep.QuietTactic
import Derived.Deep.Draws
import Derived.Lib.Hide
import Derived.Lib.SmallJoins
import Derived.Lib.Strings
import Derived.Deep.RegionHeld3
import Derived.Maps.AppendAt
import Derived.Maps.RangeWalk
namespace Go.Proofs.Ytpdhdogllejdbaa
open Go.RowKit
theorem drewN_own {w : World} {base : Nat} {e : TypeId} {size : Nat} {v : Value} {n : Nat} {xs : List Value} (h : w.ownsRow base e size v n xs) (q : Nat) : (w.drewN q).ownsRow base e size v n xs := h
theorem drewN_below (w : World) (q : Nat) : Below w.heap.size w (w.drewN q) := ⟨rfl, rfl, rfl, Nat.le_refl _, fun _ _ => rfl⟩
/-- It returns true, and only draws. -/
def QuietTrue (w : World) (e : Ending) (w' : World) : Prop := e = .returned (.bool true) ∧ ∃ n, w' = w.drewN n

/-- The digits of n ahead of out. -/
def mt : Nat → Nat → ByteArray → ByteArray
  | 0, _, out => out
  | f + 1, n, out => if n = 0 then out else mt f (n / 10) (strOfNums [48 + (n % 10 : Nat)] ++ out)
theorem mt_fuel : ∀ (f n : Nat) (out : ByteArray), n ≤ f → mt f n out = mt n n out
  | 0, n, out, h => by obtain rfl : n = 0 := by omega
                       rfl
  | f + 1, 0, out, _ => by simp [mt]
  | f + 1, n + 1, out, h => by
    simp only [mt, Nat.add_one_ne_zero, if_false]
    rw [mt_fuel f ((n + 1) / 10) _ (by omega), mt_fuel n ((n + 1) / 10) _ (by omega)]
theorem mt_step (n : Nat) (out : ByteArray) (h : 0 < n) : mt n n out = mt (n / 10) (n / 10) (strOfNums [48 + (n % 10 : Nat)] ++ out) := by
  match n, h with
  | n + 1, _ =>
    simp only [mt, Nat.add_one_ne_zero, if_false]
    rw [mt_fuel n ((n + 1) / 10) _ (by omega)]
def mtext (k : Nat) : ByteArray := ⟨#[109]⟩ ++ mt k k ⟨#[]⟩
theorem one_text (w : World) (d : Int) : (convert 22 9 (.slice (some ⟨w.heap.size, 0, none⟩) 1 1)).run Try.prog (w.alloc (.cells #[.int .u8 d] 5)) = .ok (.string (strOfNums [d])) (w.alloc (.cells #[.int .u8 d] 5)) := by
  have h : (w.alloc (.cells #[.int .u8 d] 5)).ownsRow w.heap.size 5 1 (.slice (some ⟨w.heap.size, 0, none⟩) 1 1) 1 ([d].map (Value.int .u8)) := World.ownsRow_lit w #[.int .u8 d] 1 (Nat.le_refl _) (by unfold maxLen; omega) rfl
  exact convert_own _ 22 5 9 Try.underlying22 Try.underlying5 Try.underlying9 h
def MarkPost (K : Nat) (w : World) (e : Ending) (w' : World) : Prop := e = .returned (.string (mtext K)) ∧ Below w.heap.size w w'
def marks (K n : Nat) : List ByteArray := (List.range n).map fun i => mtext (K + i)
theorem marks_length (K n : Nat) : (marks K n).length = n := by simp [marks]
theorem marks_succ (K n : Nat) : marks K (n + 1) = marks K n ++ [mtext (K + n)] := by simp [marks, List.range_succ]
theorem set_mark (l : List ByteArray) (K k : Nat) (x : ByteArray) (r : List ByteArray) (h : l.drop k = x :: r) :
    ((marks K k ++ l.drop k).map Value.string).set k (.string (mtext (K + k))) = (marks K (k + 1) ++ l.drop (k + 1)).map Value.string := by
  have h1 : l.drop (k + 1) = r := by rw [← List.drop_drop, h]; rfl
  rw [h1, h, marks_succ, List.map_append, List.set_append_right _ _ (by simp [marks_length])]
  simp [marks_length]
def MarkedPost (b K n : Nat) (v : Value) (w : World) (e : Ending) (w' : World) : Prop :=
  e = .returned (.int .i64 (K + n : Nat)) ∧ w'.ownsRow b 9 1 v n ((marks K n).map Value.string) ∧ w.grownBy w' v.ownBlock
end Go.Proofs.Ytpdhdogllejdbaa
