/- DrawClamp gives three ints and leaves all that was there as it was. Of codes of at most 1048576 bytes. -/
import Derived.Test.YtfmafledakchhaaProg
import Derived.Test.YtfmafledakchhaaBase
import Derived.WalkKit
import Derived.WalkSpells
import Derived.BigQuiet
import Derived.Deep.QuietTactic
import Derived.Deep.Draws
import Derived.Lib.Hide
import Derived.Lib.SmallJoins
import Derived.IntWalk
import Derived.Maps.AppendAt
import Derived.Maps.RangeWalk
import Derived.Test.YtfmafledakchhaaDraw
namespace Go.Proofs.Ytfmafledakchhaa
open Go.RowKit
def DrawClampPost (w : World) (e : Ending) (w' : World) : Prop :=
  ∃ n a b : Int, -9223372036854775808 ≤ n ∧ n ≤ 9223372036854775807 ∧ -9223372036854775808 ≤ a ∧ a ≤ 9223372036854775807 ∧ -9223372036854775808 ≤ b ∧ b ≤ 9223372036854775807 ∧ e = .returned (.tuple #[.int .i64 n, .int .i64 a, .int .i64 b]) ∧ Below w.heap.size w w'
set_option maxHeartbeats 1000000 in
set_option maxRecDepth 100000 in
theorem drawClamp {a : Option Addr} {len cap : Nat} (w : World) (hcode : CodeAt w a len) :
    Calls Try.prog 9 #[.slice a len cap] w (DrawClampPost w) := by
  have HCO := Lib.hid hcode
  clear hcode
  go_enter Try.func9, Try.ntmps9
  go_wp2_with fail
  refine (curNew w HCO.out).mono ?_
  rintro e w1 ⟨p, rfl, hd1⟩
  have HD1 := Lib.hid hd1; clear hd1
  go_wp2_with fail
  refine (once HCO.out 4 _ HD1.out (by omega) (by omega)).mono ?_
  rintro e w2 ⟨x, rfl, hd2, hg2⟩
  have HD2 := Lib.hid hd2; clear hd2 hg2
  cases x with
  | true =>
    go_wp2_with fail
    refine (number HCO.out _ HD2.out).mono ?_
    rintro e w3 ⟨n, n0, n1, rfl, hd3, hg3⟩
    have HD3 := Lib.hid hd3; clear hd3 hg3
    have N1 := Lib.hid (And.intro n0 n1); clear n0 n1
    go_wp2_with fail
    refine (number HCO.out _ HD3.out).mono ?_
    rintro e w4 ⟨m, m0, m1, rfl, hd4, hg4⟩
    have HD4 := Lib.hid hd4; clear hd4 hg4
    have N2 := Lib.hid (And.intro m0 m1); clear m0 m1
    go_wp2_with fail
    refine (number HCO.out _ HD4.out).mono ?_
    rintro e w5 ⟨k, k0, k1, rfl, hd5, hg5⟩
    have HD5 := Lib.hid hd5; clear hd5 hg5
    have N3 := Lib.hid (And.intro k0 k1); clear k0 k1
    go_wp2_with fail
    go_ret3
    exact ⟨n, m, k, N1.out.1, N1.out.2, N2.out.1, N2.out.2, N3.out.1, N3.out.2, rfl, HD5.out.2.1⟩
  | false =>
    go_wp2_with fail
    refine (below HCO.out 40 _ HD2.out (by omega) (by omega)).mono ?_
    rintro e w3 ⟨n, n0, rfl, hd3, hg3⟩
    have HD3 := Lib.hid hd3; clear hd3 hg3
    go_wp2_with fail
    refine (below HCO.out 80 _ HD3.out (by omega) (by omega)).mono ?_
    rintro e w4 ⟨m, m0, rfl, hd4, hg4⟩
    have HD4 := Lib.hid hd4; clear hd4 hg4
    go_wp2_with fail
    refine (below HCO.out 30 _ HD4.out (by omega) (by omega)).mono ?_
    rintro e w5 ⟨k, k0, rfl, hd5, hg5⟩
    have HD5 := Lib.hid hd5; clear hd5 hg5
    go_wp2_with fail
    go_ret3
    exact ⟨_, _, _, by omega, by omega, by omega, by omega, by omega, by omega, rfl, HD5.out.2.1⟩
end Go.Proofs.Ytfmafledakchhaa
