/- The three helpers of the exact laws on lists of ints: equal lists are found equal; the marks are written into an owned list; the marks are found again. Of owned lists of at most 1048576 ints and marks up to ten digits. Lines of a board as a list of triples of numbers, and as cells. Of no program. -/
import Derived.Test.YtoginbmflomjeaaProg
import Derived.Test.YtoginbmflomjeaaBoards
import Derived.WalkKit
import Derived.WalkSpells
import Derived.BigQuiet
import Derived.Deep.QuietTactic
import Derived.Deep.Draws
import Derived.Lib.Hide
import Derived.Lib.SmallJoins
namespace Go.Proofs.Ytoginbmflomjeaa
open Go.RowKit
variable {T T1 T2 : TypeId}
/-- A list of ints as values. -/
def iv (xs : List Int) : List Value := xs.map (Value.int .i64)
/-- It returns a list of ints in new memory. -/
def OwnIv (xs : List Int) (w : World) (e : Ending) (w' : World) : Prop :=
  ∃ v, e = .returned v ∧ w'.ownsRow w.heap.size 3 1 v xs.length (iv xs) ∧ Below w.heap.size w w'
theorem iv_snoc (xs : List Int) (x : Int) : iv (xs ++ [x]) = iv xs ++ [Value.int .i64 x] := by simp [iv]
theorem iv_len (xs : List Int) : (iv xs).length = xs.length := by simp [iv]
/-- It returns v, and only draws. -/
def QuietRet (v : Value) (w : World) (e : Ending) (w' : World) : Prop := e = .returned v ∧ ∃ n, w' = w.drewN n
theorem drewN_ownI {w : World} {base : Nat} {e : TypeId} {size : Nat} {v : Value} {n : Nat} {xs : List Value} (h : w.ownsRow base e size v n xs) (q : Nat) : (w.drewN q).ownsRow base e size v n xs := h
theorem drewN_belowI (w : World) (q : Nat) : Below w.heap.size w (w.drewN q) := ⟨rfl, rfl, rfl, Nat.le_refl _, fun _ _ => rfl⟩
/-- The n marks from K on. -/
def imarks (K n : Nat) : List Int := (List.range n).map fun (i : Nat) => ((K + i : Nat) : Int)
theorem imarks_length (K n : Nat) : (imarks K n).length = n := by simp [imarks]
theorem imarks_succ (K n : Nat) : imarks K (n + 1) = imarks K n ++ [((K + n : Nat) : Int)] := by simp [imarks, List.range_succ]
theorem iset_mark (l : List Int) (K k : Nat) (x : Int) (r : List Int) (h : l.drop k = x :: r) :
    (iv (imarks K k ++ l.drop k)).set k (.int .i64 ((K + k : Nat) : Int)) = iv (imarks K (k + 1) ++ l.drop (k + 1)) := by
  have h1 : l.drop (k + 1) = r := by rw [← List.drop_drop, h]; rfl
  unfold iv
  rw [h1, h, imarks_succ, List.map_append, List.set_append_right _ _ (by simp [imarks_length])]
  simp [imarks_length]
def IMarked (T : TypeId) (b K n : Nat) (v : Value) (w : World) (e : Ending) (w' : World) : Prop :=
  e = .returned (.int .i64 (K + n : Nat)) ∧ w'.ownsRow b T 1 v n (iv (imarks K n)) ∧ w.grownBy w' v.ownBlock
end Go.Proofs.Ytoginbmflomjeaa

namespace Go.Proofs.Ytoginbmflomjeaa
/-- A line: From, Over, To. -/
abbrev Ln := Int × Int × Int
def lnC (l : Ln) : List Value := [.int .i64 l.1, .int .i64 l.2.1, .int .i64 l.2.2]
def lnV (l : Ln) : Value := .agg #[.int .i64 l.1, .int .i64 l.2.1, .int .i64 l.2.2]
def lv (xs : List Ln) : List Value := xs.flatMap lnC
theorem lv_append (a b : List Ln) : lv (a ++ b) = lv a ++ lv b := by simp [lv]
theorem lv_one (l : Ln) : lv [l] = lnC l := by simp [lv]
theorem lv_length (xs : List Ln) : (lv xs).length = xs.length * 3 := by
  induction xs with
  | nil => rfl
  | cons x xs ih => show (lnC x ++ lv xs).length = _; rw [List.length_append, ih]; simp [lnC]; omega
theorem lv_get {xs : List Ln} {k : Nat} {l : Ln} (h : xs[k]? = some l) : (lv xs)[k * 3]? = some (.int .i64 l.1) ∧ (lv xs)[k * 3 + 1]? = some (.int .i64 l.2.1) ∧ (lv xs)[k * 3 + 2]? = some (.int .i64 l.2.2) := by
  induction xs generalizing k with
  | nil => simp at h
  | cons x xs ih =>
    have e : lv (x :: xs) = .int .i64 x.1 :: .int .i64 x.2.1 :: .int .i64 x.2.2 :: lv xs := rfl
    cases k with
    | zero => simp at h; subst h; rw [e]; simp
    | succ k =>
      simp only [List.getElem?_cons_succ] at h
      obtain ⟨h1, h2, h3⟩ := ih h
      rw [e, show (k + 1) * 3 = k * 3 + 1 + 1 + 1 from by omega]
      simp only [List.getElem?_cons_succ]
      exact ⟨h1, h2, h3⟩
theorem lv_cells (xs : List Ln) : ∀ u ∈ lv xs, u.oneCell' = true := by
  intro u hu
  simp only [lv, List.mem_flatMap, lnC] at hu
  obtain ⟨l, _, hl⟩ := hu
  simp at hl
  rcases hl with rfl | rfl | rfl <;> rfl
/-- The index beside k in the grid, in a direction. -/
def nbr (w h k d : Nat) : Option Nat :=
  if d = 0 then (if k % w + 1 < w then some (k + 1) else none)
  else if d = 1 then (if k / w + 1 < h then some (k + w) else none)
  else if d = 2 then (if 1 ≤ k % w then some (k - 1) else none)
  else (if 1 ≤ k / w then some (k - w) else none)
/-- The hole beside k in a direction. -/
def stepN (w h z k d : Nat) : Option Nat := match nbr w h k d with
  | none => none
  | some j => if bit z j then some j else none
def lineN (w h z k d : Nat) : Option Ln := match stepN w h z k d with
  | none => none
  | some o => match stepN w h z o d with
    | none => none
    | some t => some ((k : Int), (o : Int), (t : Int))
/-- The lines of a hole in the first n directions. -/
def lineRow (w h z k n : Nat) : List Ln := (List.range n).filterMap (lineN w h z k)
theorem lineRow_zero (w h z k : Nat) : lineRow w h z k 0 = [] := rfl
theorem lineRow_no {w h z k n : Nat} (e : lineN w h z k n = none) : lineRow w h z k (n + 1) = lineRow w h z k n := by
  unfold lineRow; rw [List.range_succ, List.filterMap_append]; simp [e]
theorem lineRow_yes {w h z k n : Nat} {l : Ln} (e : lineN w h z k n = some l) : lineRow w h z k (n + 1) = lineRow w h z k n ++ [l] := by
  unfold lineRow; rw [List.range_succ, List.filterMap_append]; simp [e]
theorem lineRow_le (w h z k n : Nat) : (lineRow w h z k n).length ≤ n := by
  have := List.length_filterMap_le (lineN w h z k) (List.range n)
  simpa [lineRow] using this
/-- The lines of the holes of a list. -/
def linesOf (w h z : Nat) (ks : List Nat) : List Ln := ks.flatMap fun k => lineRow w h z k 4
theorem linesOf_snoc (w h z : Nat) (ks : List Nat) (k : Nat) : linesOf w h z (ks ++ [k]) = linesOf w h z ks ++ lineRow w h z k 4 := by simp [linesOf]
theorem linesOf_le (w h z : Nat) (ks : List Nat) : (linesOf w h z ks).length ≤ 4 * ks.length := by
  induction ks with
  | nil => simp [linesOf]
  | cons k ks ih =>
    show (lineRow w h z k 4 ++ linesOf w h z ks).length ≤ _
    rw [List.length_append, List.length_cons]
    have := lineRow_le w h z k 4
    omega
theorem linesOf_take {w h z i k : Nat} {ks : List Nat} (hk : ks[i]? = some k) : linesOf w h z (ks.take (i + 1)) = linesOf w h z (ks.take i) ++ lineRow w h z k 4 := by
  obtain ⟨hi, rfl⟩ := List.getElem?_eq_some_iff.1 hk
  rw [List.take_succ_eq_append_getElem hi, linesOf_snoc]
/-- A place of the grid. -/
theorem place_of {w h k : Nat} (hw : 0 < w) (hk : k < w * h) : k % w < w ∧ k / w < h ∧ (k / w) * w + k % w = k := by
  refine ⟨Nat.mod_lt _ hw, Nat.div_lt_of_lt_mul hk, ?_⟩
  rw [Nat.mul_comm]; exact Nat.div_add_mod k w
theorem place_in {w h x y : Nat} (hx : x < w) (hy : y < h) : y * w + x < w * h := by
  have h1 : (y + 1) * w ≤ h * w := Nat.mul_le_mul_right w hy
  rw [Nat.succ_mul] at h1
  rw [Nat.mul_comm w h]; omega
theorem nbr_lt {w h k d j : Nat} (hw : 0 < w) (hk : k < w * h) (hn : nbr w h k d = some j) : j < w * h := by
  obtain ⟨h1, h2, h3⟩ := place_of hw hk
  unfold nbr at hn
  repeat' split at hn
  all_goals first | (simp at hn; done) | (simp only [Option.some.injEq] at hn; subst hn)
  · have := place_in (x := k % w + 1) (y := k / w) (w := w) (h := h) (by omega) h2; omega
  · have := place_in (x := k % w) (y := k / w + 1) (w := w) (h := h) h1 (by omega); rw [Nat.succ_mul] at this; omega
  · omega
  · omega
theorem stepN_lt {w h z k d j : Nat} (hw : 0 < w) (hk : k < w * h) (hn : stepN w h z k d = some j) : j < w * h := by
  unfold stepN at hn
  split at hn
  · cases hn
  · rename_i j' hj
    split at hn
    · obtain rfl := Option.some.inj hn; exact nbr_lt hw hk hj
    · cases hn
/-- The line of a list with this From and this To. -/
def betwL (xs : List Ln) (f t : Int) : Option Ln := xs.find? fun l => l.1 == f && l.2.2 == t
/-- The lines of a list that contain k. -/
def onB (k : Int) (l : Ln) : Bool := l.1 == k || l.2.1 == k || l.2.2 == k
def thrL (xs : List Ln) (k : Int) : List Ln := xs.filter (onB k)
theorem split_at {α : Type} {xs : List α} {k : Nat} {l : α} (hk : xs[k]? = some l) : xs = xs.take k ++ l :: xs.drop (k + 1) := by
  obtain ⟨hi, rfl⟩ := List.getElem?_eq_some_iff.1 hk
  rw [← List.drop_eq_getElem_cons hi, List.take_append_drop]
theorem take_one {α : Type} {xs : List α} {k : Nat} {l : α} (hk : xs[k]? = some l) : xs.take (k + 1) = xs.take k ++ [l] := by
  obtain ⟨hi, rfl⟩ := List.getElem?_eq_some_iff.1 hk
  exact List.take_succ_eq_append_getElem hi
theorem find_at {α : Type} {p : α → Bool} {xs : List α} {k : Nat} {l : α} (h0 : (xs.take k).find? p = none) (hk : xs[k]? = some l) (hp : p l = true) : xs.find? p = some l := by
  rw [split_at hk, List.find?_append, h0]
  simp [hp]
theorem find_step {α : Type} {p : α → Bool} {xs : List α} {k : Nat} {l : α} (h0 : (xs.take k).find? p = none) (hk : xs[k]? = some l) (hp : p l = false) : (xs.take (k + 1)).find? p = none := by
  rw [take_one hk, List.find?_append, h0]
  simp [hp]
theorem filter_yes {α : Type} {p : α → Bool} {xs : List α} {k : Nat} {l : α} (hk : xs[k]? = some l) (hp : p l = true) : (xs.take (k + 1)).filter p = (xs.take k).filter p ++ [l] := by
  rw [take_one hk, List.filter_append]
  simp [hp]
theorem filter_no {α : Type} {p : α → Bool} {xs : List α} {k : Nat} {l : α} (hk : xs[k]? = some l) (hp : p l = false) : (xs.take (k + 1)).filter p = (xs.take k).filter p := by
  rw [take_one hk, List.filter_append]
  simp [hp]
end Go.Proofs.Ytoginbmflomjeaa
