/- DrawFormatInt gives an int and leaves all that was there as it was. Of codes of at most 1048576 bytes. -/
import Derived.Test.YtfmafledakchhaaDoorProg
import Derived.Test.YtfmafledakchhaaDoorBase
import Derived.Test.YtfmafledakchhaaDoorDraw
import Derived.WalkKit
import Derived.WalkSpells
import Derived.Lib.Hide
namespace Go.Proofs.YtfmafledakchhaaDoor
open Go.RowKit
def DrawFmtPost (w : World) (e : Ending) (w' : World) : Prop := ∃ n : Int, -9223372036854775808 ≤ n ∧ n ≤ 9223372036854775807 ∧ e = .returned (.int .i64 n) ∧ Below w.heap.size w w'
theorem wrap_bd (n : Int) : -9223372036854775808 ≤ wrap64 n ∧ wrap64 n ≤ 9223372036854775807 := by unfold wrap64; omega
set_option maxHeartbeats 1000000 in
set_option maxRecDepth 100000 in
theorem drawFmt {a : Option Addr} {len cap : Nat} (w : World) (hcode : CodeAt w a len) :
    Calls Tryd.prog 13 #[.slice a len cap] w (DrawFmtPost w) := by
  have HCO := Lib.hid hcode
  clear hcode
  go_enter Tryd.func13, Tryd.ntmps13
  go_wp2_with fail
  refine (curNew w HCO.out).mono ?_
  rintro e w1 ⟨p, rfl, hd1⟩
  have HD1 := Lib.hid hd1; clear hd1
  go_wp2_with fail
  refine (once HCO.out 3 _ HD1.out (by omega) (by omega)).mono ?_
  rintro e w2 ⟨x, rfl, hd2, hg2⟩
  have HD2 := Lib.hid hd2; clear hd2 hg2
  cases x with
  | true =>
    go_wp2_with fail
    refine (below HCO.out 1000000 _ HD2.out (by omega) (by omega)).mono ?_
    rintro e w3 ⟨n, n0, rfl, hd3, hg3⟩
    have HD3 := Lib.hid hd3; clear hd3 hg3
    go_wp2_with fail
    refine (below HCO.out 2000000 _ HD3.out (by omega) (by omega)).mono ?_
    rintro e w4 ⟨m, m0, rfl, hd4, hg4⟩
    have HD4 := Lib.hid hd4; clear hd4 hg4
    go_wp2_with fail
    go_ret
    exact ⟨_, (wrap_bd _).1, (wrap_bd _).2, rfl, HD4.out.2.1⟩
  | false =>
    go_wp2_with fail
    refine (number HCO.out _ HD2.out).mono ?_
    rintro e w3 ⟨n, n0, n1, rfl, hd3, hg3⟩
    have HD3 := Lib.hid hd3; clear hd3 hg3
    have N1 := Lib.hid (And.intro n0 n1); clear n0 n1
    go_wp2_with fail
    go_ret
    exact ⟨n, N1.out.1, N1.out.2, rfl, HD3.out.2.1⟩
end Go.Proofs.YtfmafledakchhaaDoor
