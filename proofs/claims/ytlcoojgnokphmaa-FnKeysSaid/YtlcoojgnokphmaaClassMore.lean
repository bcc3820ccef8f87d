/- The lists of classes, keys and final holes as lists of ints. -/
import Derived.Test.YtlcoojgnokphmaaClassD
import Derived.Test.YtlcoojgnokphmaaLinesAll
namespace Go.Proofs.Ytlcoojgnokphmaa
open Go.RowKit
set_option linter.unusedVariables false
def natsI (xs : List Nat) : List Int := xs.map fun (k : Nat) => (k : Int)
theorem natsI_len (xs : List Nat) : (natsI xs).length = xs.length := by simp [natsI]
theorem iv_nats (xs : List Nat) : iv (natsI xs) = Ints xs := by simp [iv, Ints, natsI]
/-- A list of ints in new memory, in a block of a given type. -/
def OwnI (T : TypeId) (xs : List Int) (w : World) (e : Ending) (w' : World) : Prop :=
  ∃ v, e = .returned v ∧ w'.ownsRow w.heap.size T 1 v xs.length (iv xs) ∧ Below w.heap.size w w'
theorem OwnN.ints {T : TypeId} {xs : List Nat} {w : World} {e : Ending} {w' : World} (h : OwnN T xs w e w') : OwnI T (natsI xs) w e w' := by
  obtain ⟨v, h1, h2, h3⟩ := h
  exact ⟨v, h1, by rw [natsI_len, iv_nats]; exact h2, h3⟩
theorem own_ints {xs : List Nat} {w : World} {e : Ending} {w' : World} (h : OwnInts xs w e w') : OwnI 3 (natsI xs) w e w' := OwnN.ints h
theorem specClassI (W H Z P : Int) (hP : P ≤ 9223372036854775807) (w : World) : Calls Try.prog 19 #[.agg #[.int .i64 W, .int .i64 H, .int .i64 Z], .int .i64 P] w (OwnI 3 (natsI (classB W H Z P)) w) := (specClassOf W H Z P hP w).mono fun _ _ h => own_ints h
theorem implClassI (W H Z P : Int) (hP : P ≤ 9223372036854775807) (w : World) : Calls Try.prog 12 #[.agg #[.int .i64 W, .int .i64 H, .int .i64 Z], .int .i64 P] w (OwnI 52 (natsI (classB W H Z P)) w) := (implClassOf W H Z P hP w).mono fun _ _ h => h.ints
theorem specKeyI (W H Z P : Int) (hP : P ≤ 9223372036854775807) (w : World) : Calls Try.prog 24 #[.agg #[.int .i64 W, .int .i64 H, .int .i64 Z], .int .i64 P] w (OwnI 3 (natsI (keyB W H Z P)) w) := (specKeyOf W H Z P hP w).mono fun _ _ h => own_ints h
theorem implKeyI (W H Z P : Int) (hP : P ≤ 9223372036854775807) (w : World) : Calls Try.prog 13 #[.agg #[.int .i64 W, .int .i64 H, .int .i64 Z], .int .i64 P] w (OwnI 55 (natsI (keyB W H Z P)) w) := (implKeyOf W H Z P hP w).mono fun _ _ h => h.ints
theorem specFinalI (W H Z P : Int) (hP : P ≤ 9223372036854775807) (w : World) : Calls Try.prog 26 #[.agg #[.int .i64 W, .int .i64 H, .int .i64 Z], .int .i64 P] w (OwnI 3 (natsI (finalB W H Z P)) w) := (specFinal W H Z P hP w).mono fun _ _ h => own_ints h
theorem implFinalI (W H Z P : Int) (hP : P ≤ 9223372036854775807) (w : World) : Calls Try.prog 14 #[.agg #[.int .i64 W, .int .i64 H, .int .i64 Z], .int .i64 P] w (OwnI 3 (natsI (finalB W H Z P)) w) := (implFinal W H Z P hP w).mono fun _ _ h => own_ints h
theorem class_le (W H Z P : Int) : (natsI (classB W H Z P)).length ≤ 6 := by
  rw [natsI_len]; unfold classB; split
  · exact Nat.le_of_eq (clsL_length _ _)
  · simp
theorem key_le (W H Z P : Int) : (natsI (keyB W H Z P)).length ≤ 4 := by
  rw [natsI_len]; unfold keyB; split
  · exact Nat.le_refl _
  · simp
theorem final_le (W H Z P : Int) : (natsI (finalB W H Z P)).length ≤ 49 := by
  rw [natsI_len]; exact Nat.le_trans (List.length_filter_le _ _) (holesL_le W H Z)
end Go.Proofs.Ytlcoojgnokphmaa
