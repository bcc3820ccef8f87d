/- The cursor of the drawing functions: a draw gives a number in its range, writes into the cursor alone, and leaves all that the law was called with as it was. Of codes of at most 1048576 bytes. -/
import Derived.Test.YtpdhdogllejdbaaDoorProg
import Derived.Test.YtpdhdogllejdbaaDoorBase
import Derived.WalkKit
import Derived.WalkSpells
import Derived.BigQuiet
import Derived.Deep.QuietTactic
import Derived.Deep.Draws
import Derived.Lib.Hide
import Derived.Lib.SmallJoins
import Derived.IntWalk
import Derived.Maps.AppendAt
import Derived.Maps.RangeWalk
namespace Go.Proofs.YtpdhdogllejdbaaDoor
open Go.RowKit
theorem i64_and255 (n : Int) : bits .and .i64 n 255 = n % 256 := by
  have h255 : (BitVec.ofInt 64 255).toNat = 2 ^ 8 - 1 := by decide
  have key : (BitVec.ofInt 64 n &&& BitVec.ofInt 64 255).toNat = (n % ((2 ^ 64 : Nat) : Int)).toNat % 2 ^ 8 := by
    rw [BitVec.toNat_and, BitVec.toNat_ofInt, h255, Nat.and_two_pow_sub_one_eq_mod]
  show IntKind.i64.wrap ((BitVec.ofInt 64 n &&& BitVec.ofInt 64 255).toNat : Nat) = n % 256
  rw [key, IntKind.wrap_i64]
  omega
/-- The bytes that came in: in the world in which the law was called. -/
def CodeAt (w0 : World) (a : Option Addr) (len : Nat) : Prop :=
  len ≤ 1048576 ∧ (len = 0 ∨ ∃ b off, a = some ⟨b, off, none⟩ ∧ b < w0.heap.size ∧ ∀ k, k < len → ∃ c : Nat, c < 256 ∧ w0.cell? ⟨b, off + k, none⟩ = some (.int .u8 c))
/-- The cursor at block p, in the midst of a draw. -/
def Dr (w0 : World) (a : Option Addr) (len cap p : Nat) (w : World) : Prop :=
  w0.heap.size ≤ p ∧ Below w0.heap.size w0 w ∧ ∃ (i : Nat) (h : Int), i ≤ len ∧ w.heap[p]? = some (.cells #[.slice a len cap, .int .i64 i, .int .i64 h] 52 (0, 0))
def DrawByte (w0 : World) (a : Option Addr) (len cap p : Nat) (w : World) (e : Ending) (w' : World) : Prop :=
  ∃ x : Nat, x ≤ 255 ∧ e = .returned (.int .i64 x) ∧ Dr w0 a len cap p w' ∧ w.grownBy w' (some p)
theorem grown_set (w : World) (p j : Nat) (u : Value) : w.grownBy (w.setCell ⟨p, j, none⟩ u) (some p) :=
  ⟨rfl, rfl, rfl, by simp, fun k _ hk => heap_setCell_other w ⟨p, j, none⟩ k u (fun e => hk (by simp [e]))⟩
theorem grown_drewN {w w' : World} {r : Option Nat} (h : w.grownBy w' r) (q : Nat) : w.grownBy (w'.drewN q) r := ⟨h.os, h.tape, h.output, h.size, h.block⟩
theorem Dr.of {w0 w w' : World} {a : Option Addr} {len cap p : Nat} (h : Dr w0 a len cap p w) (hg : w.grownBy w' (some p)) {i : Nat} {x : Int} (hi : i ≤ len) (hc : w'.heap[p]? = some (.cells #[.slice a len cap, .int .i64 i, .int .i64 x] 52 (0, 0))) : Dr w0 a len cap p w' :=
  ⟨h.1, h.2.1.grown hg h.2.1.size (fun k hk => by cases hk; exact h.1), i, x, hi, hc⟩

theorem byte_end1 {w0 w : World} {a : Option Addr} {len cap p i n : Nat} {h h2 : Int} (HD : Dr w0 a len cap p w) (HC : w.heap[p]? = some (.cells #[.slice a len cap, .int .i64 i, .int .i64 h] 52 (0, 0))) (hi : i ≤ len) (hn : n ≤ 255) (q1 q2 : Nat) :
    DrawByte w0 a len cap p w (.returned (.int .i64 n)) (((w.setCell ⟨p, 2, none⟩ (.int .i64 h2)).drewN q1).drewN q2) := by
  have hg : w.grownBy (((w.setCell ⟨p, 2, none⟩ (.int .i64 h2)).drewN q1).drewN q2) (some p) := grown_drewN (grown_drewN (grown_set w p 2 (.int .i64 h2)) _) _
  exact ⟨n, hn, rfl, HD.of hg hi (x := h2) (heap_setCell_same w p 2 _ 52 _ HC), hg⟩
theorem byte_end2 {w0 w : World} {a : Option Addr} {len cap p i n : Nat} {h h2 : Int} (HD : Dr w0 a len cap p w) (HC : w.heap[p]? = some (.cells #[.slice a len cap, .int .i64 i, .int .i64 h] 52 (0, 0))) (hi : i < len) (hn : n ≤ 255) (q : Nat) :
    DrawByte w0 a len cap p w (.returned (.int .i64 n)) (((w.setCell ⟨p, 2, none⟩ (.int .i64 h2)).drewN q).setCell ⟨p, 1, none⟩ (.int .i64 ((i : Int) + 1))) := by
  have hg : w.grownBy (((w.setCell ⟨p, 2, none⟩ (.int .i64 h2)).drewN q).setCell ⟨p, 1, none⟩ (.int .i64 ((i : Int) + 1))) (some p) :=
    (grown_drewN (grown_set w p 2 (.int .i64 h2)) _).trans (grown_set _ p 1 _)
  refine ⟨n, hn, rfl, HD.of hg (i := i + 1) (by omega) (x := h2) ?_, hg⟩
  exact heap_setCell_same _ p 1 #[.slice a len cap, .int .i64 i, .int .i64 h2] 52 _ (heap_setCell_same w p 2 _ 52 _ HC)
set_option maxHeartbeats 1000000 in
set_option maxRecDepth 100000 in
theorem byte {w0 : World} {a : Option Addr} {len cap p : Nat} (hcode : CodeAt w0 a len) (w : World) (hd : Dr w0 a len cap p w) :
    Calls Tryd.prog 37 #[.pointer (some ⟨p, 0, none⟩)] w (DrawByte w0 a len cap p w) := by
  have hd0 := hd
  obtain ⟨hp, hb, i, h, hi, hc⟩ := hd
  have k0 : w.cell? ⟨p, 0, none⟩ = some (.slice a len cap) := by rw [cell_of_row w p 0 _ _ _ hc]; rfl
  have k1 : w.cell? ⟨p, 1, none⟩ = some (.int .i64 i) := by rw [cell_of_row w p 1 _ _ _ hc]; rfl
  have k2 : w.cell? ⟨p, 2, none⟩ = some (.int .i64 h) := by rw [cell_of_row w p 2 _ _ _ hc]; rfl
  have f1 : w.frozen? ⟨p, 1, none⟩ = false := frozen_of_row w p 1 _ _ hc
  have f2 : w.frozen? ⟨p, 2, none⟩ = false := frozen_of_row w p 2 _ _ hc
  have hand := i64_and255
  have HC := Lib.hid hc; clear hc
  have HD := Lib.hid hd0; clear hd0
  have hl := hcode.1
  by_cases hlt : i < len
  · have g1 : (i : Int) < (len : Int) := by omega
    have g0 : (0 : Int) ≤ (i : Int) := by omega
    obtain ⟨b, off, rfl, hbw, hcs⟩ : ∃ b off, a = some ⟨b, off, none⟩ ∧ b < w0.heap.size ∧ ∀ k, k < len → ∃ c : Nat, c < 256 ∧ w0.cell? ⟨b, off + k, none⟩ = some (.int .u8 c) := by
      rcases hcode.2 with h | h
      · omega
      · exact h
    obtain ⟨c, hc1, hc2⟩ := hcs i hlt
    clear hcs
    have kc : w.cell? ⟨b, off + i, none⟩ = some (.int .u8 c) := (hb.cell (by exact hbw)).trans hc2
    have hne : ¬ b = p := by omega
    clear hc2
    go_enter Tryd.func37, Tryd.ntmps37
    go_wp2_with fail
    generalize wrap64 (wrap64 (h * 6364136223846793005) + 1442695040888963407) = h2
    go_quiet (fail)
    go_wp2_with fail
    generalize bits BinOp.xor IntKind.i64 (h2 / 8589934592) (h2 / 35184372088832) = y
    have hy0 : 0 ≤ y % 256 := by omega
    have hy1 : y % 256 ≤ 255 := by omega
    generalize y % 256 = x at *
    go_quiet (fail)
    go_wp2_with fail
    go_quiet (fail)
    go_wp2_with fail
    go_ret
    have hz0 : 0 ≤ (x + (c : Int)) % 256 := by omega
    have hz1 : (x + (c : Int)) % 256 ≤ 255 := by omega
    generalize (x + (c : Int)) % 256 = z at *
    obtain ⟨n, rfl⟩ := Int.eq_ofNat_of_zero_le hz0
    exact byte_end2 (n := n) HD.out HC.out hlt (by omega) _
  · have g1 : ¬ (i : Int) < (len : Int) := by omega
    go_enter Tryd.func37, Tryd.ntmps37
    go_wp2_with fail
    generalize wrap64 (wrap64 (h * 6364136223846793005) + 1442695040888963407) = h2
    go_quiet (fail)
    go_wp2_with fail
    generalize bits BinOp.xor IntKind.i64 (h2 / 8589934592) (h2 / 35184372088832) = y
    have hy0 : 0 ≤ y % 256 := by omega
    have hy1 : y % 256 ≤ 255 := by omega
    generalize y % 256 = x at *
    go_quiet (fail)
    go_wp2_with fail
    go_ret
    obtain ⟨n, rfl⟩ := Int.eq_ofNat_of_zero_le hy0
    exact byte_end1 (n := n) HD.out HC.out hi (by omega) _ _
def DrawBelow (w0 : World) (a : Option Addr) (len cap p : Nat) (n : Int) (w : World) (e : Ending) (w' : World) : Prop :=
  ∃ x : Nat, (x : Int) < n ∧ e = .returned (.int .i64 x) ∧ Dr w0 a len cap p w' ∧ w.grownBy w' (some p)
set_option maxHeartbeats 1000000 in
set_option maxRecDepth 100000 in
theorem below {w0 : World} {a : Option Addr} {len cap p : Nat} (hcode : CodeAt w0 a len) (n : Int) (w : World) (hd : Dr w0 a len cap p w) (h0 : 0 < n) (h1 : n ≤ 4294967296) :
    Calls Tryd.prog 32 #[.pointer (some ⟨p, 0, none⟩), .int .i64 n] w (DrawBelow w0 a len cap p n w) := by
  have HB := Lib.hid (fun w hd => byte (cap := cap) (p := p) hcode w hd)
  have HD := Lib.hid hd
  clear hd hcode
  by_cases h2 : n ≤ 256
  · go_enter Tryd.func32, Tryd.ntmps32
    go_wp2_with fail
    refine (HB.out _ HD.out).mono ?_
    rintro e w1 ⟨x, hx, rfl, hd1, hg1⟩
    have HD1 := Lib.hid hd1; clear hd1
    have HG1 := Lib.hid hg1; clear hg1
    have hxi : (x : Int) ≤ 255 := by omega
    go_wp2_with fail
    go_ret
    have hz0 : 0 ≤ (x : Int) % n := Int.emod_nonneg _ (by omega)
    have hz1 : (x : Int) % n < n := Int.emod_lt_of_pos _ h0
    generalize (x : Int) % n = z at *
    obtain ⟨m, rfl⟩ := Int.eq_ofNat_of_zero_le hz0
    exact ⟨m, hz1, rfl, HD1.out, HG1.out⟩
  · go_enter Tryd.func32, Tryd.ntmps32
    go_wp2_with fail
    refine (HB.out _ HD.out).mono ?_
    rintro e w1 ⟨x, hx, rfl, hd1, hg1⟩
    have HD1 := Lib.hid hd1; clear hd1
    have HG1 := Lib.hid hg1; clear hg1
    go_wp2_with fail
    refine (HB.out _ HD1.out).mono ?_
    rintro e w2 ⟨y, hy, rfl, hd2, hg2⟩
    have HD2 := Lib.hid hd2; clear hd2
    have HG2 := Lib.hid (HG1.out.trans hg2); clear hg2
    go_wp2_with fail
    refine (HB.out _ HD2.out).mono ?_
    rintro e w3 ⟨z, hz, rfl, hd3, hg3⟩
    have HD3 := Lib.hid hd3; clear hd3
    have HG3 := Lib.hid (HG2.out.trans hg3); clear hg3
    go_wp2_with fail
    refine (HB.out _ HD3.out).mono ?_
    rintro e w4 ⟨u, hu, rfl, hd4, hg4⟩
    have HD4 := Lib.hid hd4; clear hd4
    have HG4 := Lib.hid (HG3.out.trans hg4); clear hg4
    go_wp2_with fail
    go_ret
    have hs0 : 0 ≤ (x : Int) * 16777216 + y * 65536 + z * 256 + u := by omega
    generalize (x : Int) * 16777216 + y * 65536 + z * 256 + u = s at *
    have hz0 : 0 ≤ s % n := Int.emod_nonneg _ (by omega)
    have hz1 : s % n < n := Int.emod_lt_of_pos _ h0
    generalize s % n = r at *
    obtain ⟨m, rfl⟩ := Int.eq_ofNat_of_zero_le hz0
    exact ⟨m, hz1, rfl, HD4.out, HG4.out⟩
/-- The cursor is kept by what writes into no block that was there. -/
theorem Dr.below {w0 w w' : World} {a : Option Addr} {len cap p : Nat} (h : Dr w0 a len cap p w) (hb : Below w.heap.size w w') : Dr w0 a len cap p w' := by
  obtain ⟨hp, h1, i, x, hi, hc⟩ := h
  have hlt : p < w.heap.size := by
    rcases Nat.lt_or_ge p w.heap.size with h | h
    · exact h
    · rw [Array.getElem?_eq_none h] at hc; cases hc
  exact ⟨hp, h1.trans (hb.mono h1.size), i, x, hi, (hb.block p hlt).trans hc⟩
def DrawAny (w0 : World) (a : Option Addr) (len cap p : Nat) (w : World) (e : Ending) (w' : World) : Prop :=
  ∃ x : Int, -9223372036854775808 ≤ x ∧ x ≤ 9223372036854775807 ∧ e = .returned (.int .i64 x) ∧ Dr w0 a len cap p w' ∧ w.grownBy w' (some p)
def NewPost (a : Option Addr) (len cap : Nat) (w : World) (e : Ending) (w' : World) : Prop := ∃ p, e = .returned (.pointer (some ⟨p, 0, none⟩)) ∧ Dr w a len cap p w'
theorem new_post {a : Option Addr} {len cap : Nat} {h : Int} (w : World) : NewPost a len cap w (.returned (.pointer (some ⟨w.heap.size, 0, none⟩))) (w.alloc (.cells #[.slice a len cap, .int .i64 0, .int .i64 h] 52)) :=
  ⟨w.heap.size, rfl, Nat.le_refl _, (Below.refl _ _).alloc (Nat.le_refl _) _, 0, h, Nat.zero_le _, heap_alloc_new w _⟩
set_option maxHeartbeats 1000000 in
set_option maxRecDepth 100000 in
theorem curNew {a : Option Addr} {len cap : Nat} (w : World) (hcode : CodeAt w a len) :
    Calls Tryd.prog 19 #[.slice a len cap] w (NewPost a len cap w) := by
  have hl := hcode.1
  go_enter Tryd.func19, Tryd.ntmps19
  go_wp2_with fail
  go_loop [3, 4] (fun t i => ∃ (k : Nat) (h : Int), k ≤ len ∧ k ≤ 4000 ∧ i = .int .i64 k ∧ t = .int .i64 h) (fun _ i => 4000 - (intOf i).toNat)
  case atStart => exact ⟨0, _, Nat.zero_le _, Nat.zero_le _, rfl, rfl⟩
  case round =>
    obtain ⟨k, h, hk, hk2, rfl, rfl⟩ := hrel
    by_cases h1 : k < len
    · by_cases h2 : k < 4000
      · have g0 : (0 : Int) ≤ (k : Int) := by omega
        have g1 : (k : Int) < (len : Int) := by omega
        have g2 : (k : Int) < 4000 := by omega
        obtain ⟨b, off, rfl, hbw, hcs⟩ : ∃ b off, a = some ⟨b, off, none⟩ ∧ b < w.heap.size ∧ ∀ k, k < len → ∃ c : Nat, c < 256 ∧ w.cell? ⟨b, off + k, none⟩ = some (.int .u8 c) := by
          rcases hcode.2 with h | h
          · omega
          · exact h
        obtain ⟨c, hc1, hc2⟩ := hcs k h1
        clear hcs hcode
        go_wp2_with fail
        go_round
        case rel => exact ⟨k + 1, _, by omega, by omega, by go_num, rfl⟩
        case measure => simp [intOf]; omega
      · have g1 : (k : Int) < (len : Int) := by omega
        have g2 : ¬ (k : Int) < 4000 := by omega
        clear hcode
        go_wp2_with fail
        go_ret
        exact new_post w
    · have g1 : ¬ (k : Int) < (len : Int) := by omega
      clear hcode
      go_wp2_with fail
      go_ret
      exact new_post w

end Go.Proofs.YtpdhdogllejdbaaDoor
