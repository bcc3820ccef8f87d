/- CrossBoard of the program. -/
import Derived.Test.YtdplgjjpgeoppaaRect
namespace Go.Proofs.Ytdplgjjpgeoppaa
open Go.RowKit
theorem armB_eq (k : Nat) : armB k = (inB ((k : Int) % 7) 2 4 || inB ((k : Int) / 7) 2 4) := by
  rw [Bool.eq_iff_iff]
  simp only [armB, inB, Bool.or_eq_true, Bool.and_eq_true, decide_eq_true_eq]
  omega
end Go.Proofs.Ytdplgjjpgeoppaa
