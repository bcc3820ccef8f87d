/- The cursor of the drawing functions: a draw gives a number in its range, writes into the cursor alone, and leaves all that the law was called with as it was. Of codes of at most 1048576 bytes. What every law over a code begins with: whether the code is too long; what is told of its bytes. The drawn boards: l02Small and DrawBoard of the model give a valid board of at most sixteen places; 'at' gives a byte. Of codes of at most 1048576 bytes. The drawn positions: l04Some and DrawPosition of the model give a valid board of at most sixteen places and a position of it. Of codes of at most 1048576 bytes. -/
import Derived.Test.YtoginbmflomjeaaProg
import Derived.Test.YtoginbmflomjeaaBoards
import Derived.WalkKit
import Derived.WalkSpells
import Derived.BigQuiet
import Derived.Deep.QuietTactic
import Derived.Deep.Draws
import Derived.Lib.Hide
import Derived.Lib.SmallJoins
import Derived.IntWalk
import Derived.Maps.AppendAt
import Derived.Maps.RangeWalk
import Derived.OpenShut
import Derived.Test.YtoginbmflomjeaaPegsAll
namespace Go.Proofs.Ytoginbmflomjeaa
open Go.RowKit
theorem i64_and255 (n : Int) : bits .and .i64 n 255 = n % 256 := by
  have h255 : (BitVec.ofInt 64 255).toNat = 2 ^ 8 - 1 := by decide
  have key : (BitVec.ofInt 64 n &&& BitVec.ofInt 64 255).toNat = (n % ((2 ^ 64 : Nat) : Int)).toNat % 2 ^ 8 := by
    rw [BitVec.toNat_and, BitVec.toNat_ofInt, h255, Nat.and_two_pow_sub_one_eq_mod]
  show IntKind.i64.wrap ((BitVec.ofInt 64 n &&& BitVec.ofInt 64 255).toNat : Nat) = n % 256
  rw [key, IntKind.wrap_i64]
  omega
/-- The bytes that came in: in the world in which the law was called. -/
def CodeAt (w0 : World) (a : Option Addr) (len : Nat) : Prop :=
  len ≤ 1048576 ∧ (len = 0 ∨ ∃ b off, a = some ⟨b, off, none⟩ ∧ b < w0.heap.size ∧ ∀ k, k < len → ∃ c : Nat, c < 256 ∧ w0.cell? ⟨b, off + k, none⟩ = some (.int .u8 c))
/-- The cursor at block p, in the midst of a draw. -/
def Dr (w0 : World) (a : Option Addr) (len cap p : Nat) (w : World) : Prop :=
  w0.heap.size ≤ p ∧ Below w0.heap.size w0 w ∧ ∃ (i : Nat) (h : Int), i ≤ len ∧ w.heap[p]? = some (.cells #[.slice a len cap, .int .i64 i, .int .i64 h] 64 (0, 0))
def DrawByte (w0 : World) (a : Option Addr) (len cap p : Nat) (w : World) (e : Ending) (w' : World) : Prop :=
  ∃ x : Nat, x ≤ 255 ∧ e = .returned (.int .i64 x) ∧ Dr w0 a len cap p w' ∧ w.grownBy w' (some p)
theorem grown_set (w : World) (p j : Nat) (u : Value) : w.grownBy (w.setCell ⟨p, j, none⟩ u) (some p) :=
  ⟨rfl, rfl, rfl, by simp, fun k _ hk => heap_setCell_other w ⟨p, j, none⟩ k u (fun e => hk (by simp [e]))⟩
theorem grown_drewN {w w' : World} {r : Option Nat} (h : w.grownBy w' r) (q : Nat) : w.grownBy (w'.drewN q) r := ⟨h.os, h.tape, h.output, h.size, h.block⟩
theorem Dr.of {w0 w w' : World} {a : Option Addr} {len cap p : Nat} (h : Dr w0 a len cap p w) (hg : w.grownBy w' (some p)) {i : Nat} {x : Int} (hi : i ≤ len) (hc : w'.heap[p]? = some (.cells #[.slice a len cap, .int .i64 i, .int .i64 x] 64 (0, 0))) : Dr w0 a len cap p w' :=
  ⟨h.1, h.2.1.grown hg h.2.1.size (fun k hk => by cases hk; exact h.1), i, x, hi, hc⟩

theorem byte_end1 {w0 w : World} {a : Option Addr} {len cap p i n : Nat} {h h2 : Int} (HD : Dr w0 a len cap p w) (HC : w.heap[p]? = some (.cells #[.slice a len cap, .int .i64 i, .int .i64 h] 64 (0, 0))) (hi : i ≤ len) (hn : n ≤ 255) (q1 q2 : Nat) :
    DrawByte w0 a len cap p w (.returned (.int .i64 n)) (((w.setCell ⟨p, 2, none⟩ (.int .i64 h2)).drewN q1).drewN q2) := by
  have hg : w.grownBy (((w.setCell ⟨p, 2, none⟩ (.int .i64 h2)).drewN q1).drewN q2) (some p) := grown_drewN (grown_drewN (grown_set w p 2 (.int .i64 h2)) _) _
  exact ⟨n, hn, rfl, HD.of hg hi (x := h2) (heap_setCell_same w p 2 _ 64 _ HC), hg⟩
theorem byte_end2 {w0 w : World} {a : Option Addr} {len cap p i n : Nat} {h h2 : Int} (HD : Dr w0 a len cap p w) (HC : w.heap[p]? = some (.cells #[.slice a len cap, .int .i64 i, .int .i64 h] 64 (0, 0))) (hi : i < len) (hn : n ≤ 255) (q : Nat) :
    DrawByte w0 a len cap p w (.returned (.int .i64 n)) (((w.setCell ⟨p, 2, none⟩ (.int .i64 h2)).drewN q).setCell ⟨p, 1, none⟩ (.int .i64 ((i : Int) + 1))) := by
  have hg : w.grownBy (((w.setCell ⟨p, 2, none⟩ (.int .i64 h2)).drewN q).setCell ⟨p, 1, none⟩ (.int .i64 ((i : Int) + 1))) (some p) :=
    (grown_drewN (grown_set w p 2 (.int .i64 h2)) _).trans (grown_set _ p 1 _)
  refine ⟨n, hn, rfl, HD.of hg (i := i + 1) (by omega) (x := h2) ?_, hg⟩
  exact heap_setCell_same _ p 1 #[.slice a len cap, .int .i64 i, .int .i64 h2] 64 _ (heap_setCell_same w p 2 _ 64 _ HC)
set_option maxHeartbeats 1000000 in
set_option maxRecDepth 100000 in
theorem byte {w0 : World} {a : Option Addr} {len cap p : Nat} (hcode : CodeAt w0 a len) (w : World) (hd : Dr w0 a len cap p w) :
    Calls Try.prog 54 #[.pointer (some ⟨p, 0, none⟩)] w (DrawByte w0 a len cap p w) := by
  have hd0 := hd
  obtain ⟨hp, hb, i, h, hi, hc⟩ := hd
  have k0 : w.cell? ⟨p, 0, none⟩ = some (.slice a len cap) := by rw [cell_of_row w p 0 _ _ _ hc]; rfl
  have k1 : w.cell? ⟨p, 1, none⟩ = some (.int .i64 i) := by rw [cell_of_row w p 1 _ _ _ hc]; rfl
  have k2 : w.cell? ⟨p, 2, none⟩ = some (.int .i64 h) := by rw [cell_of_row w p 2 _ _ _ hc]; rfl
  have f1 : w.frozen? ⟨p, 1, none⟩ = false := frozen_of_row w p 1 _ _ hc
  have f2 : w.frozen? ⟨p, 2, none⟩ = false := frozen_of_row w p 2 _ _ hc
  have hand := i64_and255
  have HC := Lib.hid hc; clear hc
  have HD := Lib.hid hd0; clear hd0
  have hl := hcode.1
  by_cases hlt : i < len
  · have g1 : (i : Int) < (len : Int) := by omega
    have g0 : (0 : Int) ≤ (i : Int) := by omega
    obtain ⟨b, off, rfl, hbw, hcs⟩ : ∃ b off, a = some ⟨b, off, none⟩ ∧ b < w0.heap.size ∧ ∀ k, k < len → ∃ c : Nat, c < 256 ∧ w0.cell? ⟨b, off + k, none⟩ = some (.int .u8 c) := by
      rcases hcode.2 with h | h
      · omega
      · exact h
    obtain ⟨c, hc1, hc2⟩ := hcs i hlt
    clear hcs
    have kc : w.cell? ⟨b, off + i, none⟩ = some (.int .u8 c) := (hb.cell (by exact hbw)).trans hc2
    have hne : ¬ b = p := by omega
    clear hc2
    go_enter Try.func54, Try.ntmps54
    go_wp2_with fail
    generalize wrap64 (wrap64 (h * 6364136223846793005) + 1442695040888963407) = h2
    go_quiet (fail)
    go_wp2_with fail
    generalize bits BinOp.xor IntKind.i64 (h2 / 8589934592) (h2 / 35184372088832) = y
    have hy0 : 0 ≤ y % 256 := by omega
    have hy1 : y % 256 ≤ 255 := by omega
    generalize y % 256 = x at *
    go_quiet (fail)
    go_wp2_with fail
    go_quiet (fail)
    go_wp2_with fail
    go_ret
    have hz0 : 0 ≤ (x + (c : Int)) % 256 := by omega
    have hz1 : (x + (c : Int)) % 256 ≤ 255 := by omega
    generalize (x + (c : Int)) % 256 = z at *
    obtain ⟨n, rfl⟩ := Int.eq_ofNat_of_zero_le hz0
    exact byte_end2 (n := n) HD.out HC.out hlt (by omega) _
  · have g1 : ¬ (i : Int) < (len : Int) := by omega
    go_enter Try.func54, Try.ntmps54
    go_wp2_with fail
    generalize wrap64 (wrap64 (h * 6364136223846793005) + 1442695040888963407) = h2
    go_quiet (fail)
    go_wp2_with fail
    generalize bits BinOp.xor IntKind.i64 (h2 / 8589934592) (h2 / 35184372088832) = y
    have hy0 : 0 ≤ y % 256 := by omega
    have hy1 : y % 256 ≤ 255 := by omega
    generalize y % 256 = x at *
    go_quiet (fail)
    go_wp2_with fail
    go_ret
    obtain ⟨n, rfl⟩ := Int.eq_ofNat_of_zero_le hy0
    exact byte_end1 (n := n) HD.out HC.out hi (by omega) _ _
def DrawBelow (w0 : World) (a : Option Addr) (len cap p : Nat) (n : Int) (w : World) (e : Ending) (w' : World) : Prop :=
  ∃ x : Nat, (x : Int) < n ∧ e = .returned (.int .i64 x) ∧ Dr w0 a len cap p w' ∧ w.grownBy w' (some p)
set_option maxHeartbeats 1000000 in
set_option maxRecDepth 100000 in
theorem below {w0 : World} {a : Option Addr} {len cap p : Nat} (hcode : CodeAt w0 a len) (n : Int) (w : World) (hd : Dr w0 a len cap p w) (h0 : 0 < n) (h1 : n ≤ 4294967296) :
    Calls Try.prog 45 #[.pointer (some ⟨p, 0, none⟩), .int .i64 n] w (DrawBelow w0 a len cap p n w) := by
  have HB := Lib.hid (fun w hd => byte (cap := cap) (p := p) hcode w hd)
  have HD := Lib.hid hd
  clear hd hcode
  by_cases h2 : n ≤ 256
  · go_enter Try.func45, Try.ntmps45
    go_wp2_with fail
    refine (HB.out _ HD.out).mono ?_
    rintro e w1 ⟨x, hx, rfl, hd1, hg1⟩
    have HD1 := Lib.hid hd1; clear hd1
    have HG1 := Lib.hid hg1; clear hg1
    have hxi : (x : Int) ≤ 255 := by omega
    go_wp2_with fail
    go_ret
    have hz0 : 0 ≤ (x : Int) % n := Int.emod_nonneg _ (by omega)
    have hz1 : (x : Int) % n < n := Int.emod_lt_of_pos _ h0
    generalize (x : Int) % n = z at *
    obtain ⟨m, rfl⟩ := Int.eq_ofNat_of_zero_le hz0
    exact ⟨m, hz1, rfl, HD1.out, HG1.out⟩
  · go_enter Try.func45, Try.ntmps45
    go_wp2_with fail
    refine (HB.out _ HD.out).mono ?_
    rintro e w1 ⟨x, hx, rfl, hd1, hg1⟩
    have HD1 := Lib.hid hd1; clear hd1
    have HG1 := Lib.hid hg1; clear hg1
    go_wp2_with fail
    refine (HB.out _ HD1.out).mono ?_
    rintro e w2 ⟨y, hy, rfl, hd2, hg2⟩
    have HD2 := Lib.hid hd2; clear hd2
    have HG2 := Lib.hid (HG1.out.trans hg2); clear hg2
    go_wp2_with fail
    refine (HB.out _ HD2.out).mono ?_
    rintro e w3 ⟨z, hz, rfl, hd3, hg3⟩
    have HD3 := Lib.hid hd3; clear hd3
    have HG3 := Lib.hid (HG2.out.trans hg3); clear hg3
    go_wp2_with fail
    refine (HB.out _ HD3.out).mono ?_
    rintro e w4 ⟨u, hu, rfl, hd4, hg4⟩
    have HD4 := Lib.hid hd4; clear hd4
    have HG4 := Lib.hid (HG3.out.trans hg4); clear hg4
    go_wp2_with fail
    go_ret
    have hs0 : 0 ≤ (x : Int) * 16777216 + y * 65536 + z * 256 + u := by omega
    generalize (x : Int) * 16777216 + y * 65536 + z * 256 + u = s at *
    have hz0 : 0 ≤ s % n := Int.emod_nonneg _ (by omega)
    have hz1 : s % n < n := Int.emod_lt_of_pos _ h0
    generalize s % n = r at *
    obtain ⟨m, rfl⟩ := Int.eq_ofNat_of_zero_le hz0
    exact ⟨m, hz1, rfl, HD4.out, HG4.out⟩
/-- The cursor is kept by what writes into no block that was there. -/
theorem Dr.below {w0 w w' : World} {a : Option Addr} {len cap p : Nat} (h : Dr w0 a len cap p w) (hb : Below w.heap.size w w') : Dr w0 a len cap p w' := by
  obtain ⟨hp, h1, i, x, hi, hc⟩ := h
  have hlt : p < w.heap.size := by
    rcases Nat.lt_or_ge p w.heap.size with h | h
    · exact h
    · rw [Array.getElem?_eq_none h] at hc; cases hc
  exact ⟨hp, h1.trans (hb.mono h1.size), i, x, hi, (hb.block p hlt).trans hc⟩
def DrawAny (w0 : World) (a : Option Addr) (len cap p : Nat) (w : World) (e : Ending) (w' : World) : Prop :=
  ∃ x : Int, -9223372036854775808 ≤ x ∧ x ≤ 9223372036854775807 ∧ e = .returned (.int .i64 x) ∧ Dr w0 a len cap p w' ∧ w.grownBy w' (some p)
def NewPost (a : Option Addr) (len cap : Nat) (w : World) (e : Ending) (w' : World) : Prop := ∃ p, e = .returned (.pointer (some ⟨p, 0, none⟩)) ∧ Dr w a len cap p w'
theorem new_post {a : Option Addr} {len cap : Nat} {h : Int} (w : World) : NewPost a len cap w (.returned (.pointer (some ⟨w.heap.size, 0, none⟩))) (w.alloc (.cells #[.slice a len cap, .int .i64 0, .int .i64 h] 64)) :=
  ⟨w.heap.size, rfl, Nat.le_refl _, (Below.refl _ _).alloc (Nat.le_refl _) _, 0, h, Nat.zero_le _, heap_alloc_new w _⟩
set_option maxHeartbeats 1000000 in
set_option maxRecDepth 100000 in
theorem curNew {a : Option Addr} {len cap : Nat} (w : World) (hcode : CodeAt w a len) :
    Calls Try.prog 30 #[.slice a len cap] w (NewPost a len cap w) := by
  have hl := hcode.1
  go_enter Try.func30, Try.ntmps30
  go_wp2_with fail
  go_loop [3, 4] (fun t i => ∃ (k : Nat) (h : Int), k ≤ len ∧ k ≤ 4000 ∧ i = .int .i64 k ∧ t = .int .i64 h) (fun _ i => 4000 - (intOf i).toNat)
  case atStart => exact ⟨0, _, Nat.zero_le _, Nat.zero_le _, rfl, rfl⟩
  case round =>
    obtain ⟨k, h, hk, hk2, rfl, rfl⟩ := hrel
    by_cases h1 : k < len
    · by_cases h2 : k < 4000
      · have g0 : (0 : Int) ≤ (k : Int) := by omega
        have g1 : (k : Int) < (len : Int) := by omega
        have g2 : (k : Int) < 4000 := by omega
        obtain ⟨b, off, rfl, hbw, hcs⟩ : ∃ b off, a = some ⟨b, off, none⟩ ∧ b < w.heap.size ∧ ∀ k, k < len → ∃ c : Nat, c < 256 ∧ w.cell? ⟨b, off + k, none⟩ = some (.int .u8 c) := by
          rcases hcode.2 with h | h
          · omega
          · exact h
        obtain ⟨c, hc1, hc2⟩ := hcs k h1
        clear hcs hcode
        go_wp2_with fail
        go_round
        case rel => exact ⟨k + 1, _, by omega, by omega, by go_num, rfl⟩
        case measure => simp [intOf]; omega
      · have g1 : (k : Int) < (len : Int) := by omega
        have g2 : ¬ (k : Int) < 4000 := by omega
        clear hcode
        go_wp2_with fail
        go_ret
        exact new_post w
    · have g1 : ¬ (k : Int) < (len : Int) := by omega
      clear hcode
      go_wp2_with fail
      go_ret
      exact new_post w

end Go.Proofs.Ytoginbmflomjeaa

namespace Go.Proofs.Ytoginbmflomjeaa
open Go.RowKit
theorem big_no {a : Option Addr} {len cap : Nat} (w : World) (h : len ≤ 1048576) : Calls Try.prog 9 #[.slice a len cap] w fun e w' => e = .returned (.bool false) ∧ w = w' := by
  have hf : ¬ (1048576 : Int) < (len : Int) := by omega
  have hd : decide ((1048576 : Int) < (len : Int)) = false := decide_eq_false hf
  go_enter Try.func9, Try.ntmps9
  go_wp2
  go_ret
  exact ⟨rfl, rfl⟩
theorem big_yes {a : Option Addr} {len cap : Nat} (w : World) (h : 1048576 < len) : Calls Try.prog 9 #[.slice a len cap] w fun e w' => e = .returned (.bool true) ∧ w = w' := by
  have hf : (1048576 : Int) < (len : Int) := by omega
  have hd : decide ((1048576 : Int) < (len : Int)) = true := decide_eq_true hf
  go_enter Try.func9, Try.ntmps9
  go_wp2
  go_ret
  exact ⟨rfl, rfl⟩
/-- What the frame tells of the bytes, in the cursor's words. -/
theorem code_of {w : World} {a : Option Addr} {len cap : Nat} {zs : List Int} (h : (a = none ∧ len = 0 ∧ cap = 0 ∧ zs = []) ∨ ∃ x, a = some x ∧ len ≤ cap ∧ cap ≤ maxLen ∧ zs.length = cap ∧ (∀ i, i < zs.length → w.cell? (x.add i) = some (.int .u8 (zs.getD i 0))) ∧ ∀ n ∈ zs, (Lit.int .u8 n).wf = true) (hl : len ≤ 1048576) : CodeAt w a len := by
  refine ⟨hl, ?_⟩
  by_cases h0 : len = 0
  · exact .inl h0
  · right
    rcases h with ⟨_, h1, _, _⟩ | ⟨x, rfl, hlc, _, hz, hcell, hwf⟩
    · exact absurd h1 h0
    · obtain ⟨b, off, spot⟩ := x
      have hc := hcell 0 (by omega)
      have hspot : spot = none := by simpa [Addr.add] using World.cell?_spot hc
      subst hspot
      refine ⟨b, off, rfl, ?_, ?_⟩
      · exact World.block_lt_of_cell? w _ hc
      · intro k hk
        have hk' : k < zs.length := by omega
        have hck := hcell k hk'
        have hw := hwf (zs.getD k 0) (by rw [List.getD, List.getElem?_eq_getElem hk']; exact List.getElem_mem _)
        have hb := bounds_u8 hw
        obtain ⟨c, hcn⟩ := Int.eq_ofNat_of_zero_le hb.1
        refine ⟨c, by omega, ?_⟩
        have e : (⟨b, off, none⟩ : Addr).add k = ⟨b, off + k, none⟩ := by unfold Addr.add; split <;> simp_all
        rw [e, hcn] at hck
        exact hck
end Go.Proofs.Ytoginbmflomjeaa

namespace Go.Proofs.Ytoginbmflomjeaa
open Go.RowKit
theorem pc_pow : ∀ n i, pc n (2 ^ i) ≤ 1
  | 0, i => by simp [pc]
  | n + 1, 0 => by show 1 % 2 + pc n (1 / 2) ≤ 1; rw [show 1 / 2 = 0 from rfl, pc_zero]; decide
  | n + 1, i + 1 => by
    have h := pc_pow n i
    show 2 ^ (i + 1) % 2 + pc n (2 ^ (i + 1) / 2) ≤ 1
    have e1 : 2 ^ (i + 1) % 2 = 0 := by rw [Nat.pow_succ]; omega
    have e2 : 2 ^ (i + 1) / 2 = 2 ^ i := by rw [Nat.pow_succ]; omega
    rw [e1, e2]; omega
theorem bit_le {z i : Nat} (h : bit z i = true) : 2 ^ i ≤ z := by
  unfold bit at h
  have h' : z / 2 ^ i % 2 = 1 := by simpa using h
  rcases Nat.lt_or_ge z (2 ^ i) with h0 | h0
  · rw [Nat.div_eq_of_lt h0] at h'; simp at h'
  · exact h0
theorem bit_lt {z i n : Nat} (h : bit z i = true) (hn : 1 < (bitsOf n z).length) : 2 ^ i < z := by
  rcases Nat.lt_or_ge (2 ^ i) z with h0 | h0
  · exact h0
  · have e : z = 2 ^ i := by have := bit_le h; omega
    rw [e, bitsOf_length] at hn
    have := pc_pow n i
    omega
theorem Ok.drop {W H : Int} {N z i : Nat} (h : Ok W H N z) (hb : bit z i = true) (hn : 5 < (bitsOf N z).length) : Ok W H N (z - 2 ^ i) :=
  ⟨h.wh, h.n1, h.n49, by have := bit_lt (n := N) hb (by omega); omega, Nat.lt_of_le_of_lt (Nat.sub_le _ _) h.zlt, h.w1, h.w7, h.h1, h.h7⟩
theorem Ok.rect {W H : Int} {N : Nat} (wh : W * H = N) (n1 : 1 ≤ N) (n49 : N ≤ 49) (w1 : 1 ≤ W) (w7 : W ≤ 7) (h1 : 1 ≤ H) (h7 : H ≤ 7) : Ok W H N (2 ^ N - 1) := by
  have hp : 2 ^ 1 ≤ 2 ^ N := Nat.pow_le_pow_right (by decide) n1
  exact ⟨wh, n1, n49, by omega, by omega, w1, w7, h1, h7⟩
theorem Dr.lt {w0 w : World} {a : Option Addr} {len cap p : Nat} (h : Dr w0 a len cap p w) : p < w.heap.size := by
  obtain ⟨_, _, i, y, _, hc⟩ := h
  rcases Nat.lt_or_ge p w.heap.size with h | h
  · exact h
  · rw [Array.getElem?_eq_none h] at hc; cases hc
theorem Dr.set {w0 w : World} {a : Option Addr} {len cap p b j : Nat} {v : Value} (h : Dr w0 a len cap p w) (hb : w0.heap.size ≤ b ∧ ¬ p = b) : Dr w0 a len cap p (w.setCell ⟨b, j, none⟩ v) := by
  obtain ⟨h1, h2, i, y, hi, hc⟩ := h
  exact ⟨h1, set_below h2 hb.1, i, y, hi, (heap_setCell_other w ⟨b, j, none⟩ p _ hb.2).trans hc⟩
theorem Dr.drew {w0 w : World} {a : Option Addr} {len cap p : Nat} (h : Dr w0 a len cap p w) : Dr w0 a len cap p w.drew := ⟨h.1, h.2.1.drew, h.2.2⟩
theorem grown_drew {w w' : World} {r : Option Nat} (h : w.grownBy w' r) : w.grownBy w'.drew r := ⟨h.os, h.tape, h.output, h.size, h.block⟩
theorem grown_set_new {w w' : World} {r : Option Nat} {b j : Nat} {v : Value} (h : w.grownBy w' r) (hb : w.heap.size ≤ b) : w.grownBy (w'.setCell ⟨b, j, none⟩ v) r :=
  ⟨h.os, h.tape, h.output, by simpa using h.size, fun k hk hr => (heap_setCell_other w' ⟨b, j, none⟩ k _ (by show ¬ k = b; omega)).trans (h.block k hk hr)⟩
def SmallPost (w0 : World) (a : Option Addr) (len cap p : Nat) (w : World) (e : Ending) (w' : World) : Prop :=
  ∃ (W H : Int) (N z : Nat), Ok W H N z ∧ N ≤ 16 ∧ e = .returned (bd W H z) ∧ Dr w0 a len cap p w' ∧ w.grownBy w' (some p)
theorem dims (x m : Nat) (hx : x < 5) (hm : (16 : Int) / (1 + x) = m) (y : Nat) (h4 : y < 4) (hy : y < m) :
    (¬ (1 + (x : Int) < 3 ∧ 1 + (y : Int) < 3) → ∃ N : Nat, (1 + (x : Int)) * (1 + y) = N ∧ 3 ≤ N ∧ N ≤ 16) ∧ (1 + (x : Int) < 3 → ∃ N : Nat, (1 + (x : Int)) * 3 = N ∧ 3 ≤ N ∧ N ≤ 16) := by
  match x, hx with
  | 0, _ | 1, _ | 2, _ | 3, _ | 4, _ =>
    simp at hm
    exact ⟨fun h => ⟨_, (Int.toNat_of_nonneg (by omega)).symm, by omega, by omega⟩, fun h => ⟨_, (Int.toNat_of_nonneg (by omega)).symm, by omega, by omega⟩⟩
  | x + 5, h => omega
theorem CodeAt.below {w w' : World} {a : Option Addr} {len : Nat} (h : CodeAt w a len) (hb : Below w.heap.size w w') : CodeAt w' a len := by
  refine ⟨h.1, ?_⟩
  rcases h.2 with h | ⟨b, off, ha, hlt, hc⟩
  · exact .inl h
  · refine .inr ⟨b, off, ha, Nat.lt_of_lt_of_le hlt hb.size, fun k hk => ?_⟩
    obtain ⟨c, h1, h2⟩ := hc k hk
    exact ⟨c, h1, (hb.cell (p := ⟨b, off + k, none⟩) hlt).trans h2⟩
def DrawBoardPost (w : World) (e : Ending) (w' : World) : Prop := ∃ (W H : Int) (N z : Nat), Ok W H N z ∧ N ≤ 16 ∧ e = .returned (bd W H z) ∧ Below w.heap.size w w'
def AtPost (w : World) (e : Ending) (w' : World) : Prop := ∃ x : Nat, x ≤ 255 ∧ e = .returned (.int .i64 x) ∧ w = w'
theorem byteAt {a : Option Addr} {len cap : Nat} (i : Nat) (hi : i ≤ 1000) (w : World) (hcode : CodeAt w a len) :
    Calls Try.prog 11 #[.slice a len cap, .int .i64 i] w (AtPost w) := by
  by_cases h0 : len = 0
  · subst h0
    have hp : AtPost w (.returned (.int .i64 0)) w := ⟨0, by omega, rfl, rfl⟩
    have HP := Lib.hid hp
    clear hp hcode
    go_enter Try.func11, Try.ntmps11
    go_wp2_with fail
    go_ret
    exact HP.out
  · obtain ⟨b, off, rfl, hlt, hc⟩ : ∃ b off, a = some ⟨b, off, none⟩ ∧ b < w.heap.size ∧ ∀ k, k < len → ∃ c : Nat, c < 256 ∧ w.cell? ⟨b, off + k, none⟩ = some (.int .u8 c) := by
      rcases hcode.2 with h | h
      · exact absurd h h0
      · exact h
    have hl := hcode.1
    have hj : (i * 5 + 1) % len < len := Nat.mod_lt _ (by omega)
    obtain ⟨c, hc1, hc2⟩ := hc _ hj
    have e1 : ((i : Int) * 5 + 1) % (len : Int) = (((i * 5 + 1) % len : Nat) : Int) := by simp
    generalize (i * 5 + 1) % len = j at hj hc2 e1
    have hp : AtPost w (.returned (.int .i64 c)) w := ⟨c, by omega, rfl, rfl⟩
    have HP := Lib.hid hp
    have h0' : ¬ (len : Int) = 0 := by omega
    have hjl : (j : Int) < (len : Int) := by omega
    clear hp hcode hc
    go_enter Try.func11, Try.ntmps11
    go_wp2_with fail
    go_ret
    exact HP.out
end Go.Proofs.Ytoginbmflomjeaa

namespace Go.Proofs.Ytoginbmflomjeaa
open Go.RowKit
set_option linter.unusedSimpArgs false
theorem bits_ne {W H : Int} {N z : Nat} (h : Ok W H N z) : 0 < (bitsOf N z).length := by
  rcases Nat.eq_zero_or_pos (bitsOf N z).length with h0 | h0
  · have e := powSum_all h.zlt
    rw [List.eq_nil_of_length_eq_zero h0] at e
    have := h.z1
    simp [powSum] at e
    omega
  · exact h0
def SomePost (w0 : World) (a : Option Addr) (len cap p z : Nat) (w : World) (e : Ending) (w' : World) : Prop :=
  ∃ r : Nat, Part r z ∧ e = .returned (.int .i64 r) ∧ Dr w0 a len cap p w' ∧ w.grownBy w' (some p)
theorem row_lt {w : World} {b : Nat} {o : Obj} (h : w.heap[b]? = some o) : b < w.heap.size := by
  rcases Nat.lt_or_ge b w.heap.size with h' | h'
  · exact h'
  · rw [Array.getElem?_eq_none h'] at h; cases h
theorem row_grown {w w' : World} {p b : Nat} {o : Obj} (h : w.heap[b]? = some o) (hg : w.grownBy w' (some p)) (hne : b ≠ p) : w'.heap[b]? = some o :=
  (hg.block b (row_lt h) (by intro h'; injection h' with h'; exact hne h')).trans h
theorem row_set3_other {w : World} {b c : Nat} {x y z : Value} {o : Obj} (h : w.heap[c]? = some o) (hne : ¬ c = b) : (set3 w b x y z).heap[c]? = some o :=
  (heap_setCell_other _ ⟨b, 2, none⟩ c _ hne).trans ((heap_setCell_other _ ⟨b, 1, none⟩ c _ hne).trans ((heap_setCell_other _ ⟨b, 0, none⟩ c _ hne).trans h))
theorem own_kept {w w' : World} {b n p : Nat} {e : TypeId} {size : Nat} {v : Value} {xs : List Value} (h : w.ownsRow b e size v n xs) (hg : w.grownBy w' (some p)) (hp : p < b) : w'.ownsRow b e size v n xs :=
  h.kept hg (by
    cases hv : v.ownBlock with
    | none => exact .inl rfl
    | some g => right; intro h'; have := (h.lt g hv).1; injection h' with h'; omega)
theorem closed_dr {w0 : World} {a : Option Addr} {len cap p : Nat} : Closed (Dr w0 a len cap p) := fun _ _ h k => h.below k
theorem closed_grown {w : World} {p : Nat} : Closed (fun w' => w.grownBy w' (some p)) := fun _ _ h k => World.grownBy.trans h (grown_below k _)
theorem lines_at' {w : World} {B n gc : Nat} {ga : Option Addr} {xs : List Value} {T : TypeId} {s : Nat} (h : w.ownsRow B T s (.slice ga n gc) n xs) (h0 : 0 < n) : ∃ g, ga = some ⟨g, 0, none⟩ := by
  rcases Go.Joins.ownsRow_forms h with ⟨h1, h2⟩ | ⟨g, cap, h1⟩
  · omega
  · injection h1 with h1 h2 h3; exact ⟨g, h1⟩
theorem grown_then {w w' w'' : World} {p B : Nat} (h : w.grownBy w' (some p)) (hb : Below B w' w'') (hB : w.heap.size ≤ B) : w.grownBy w'' (some p) :=
  ⟨hb.os.trans h.os, hb.tape.trans h.tape, hb.output.trans h.output, Nat.le_trans h.size hb.size, fun k hk hr => (hb.block k (Nat.lt_of_lt_of_le hk hB)).trans (h.block k hk hr)⟩
theorem Dr.kept {w0 w w' : World} {a : Option Addr} {len cap p B : Nat} (h : Dr w0 a len cap p w) (hb : Below B w w') (hp : p < B) : Dr w0 a len cap p w' := by
  obtain ⟨h1, h2, i, x, hi, hc⟩ := h
  exact ⟨h1, h2.trans (hb.mono (by omega)), i, x, hi, (hb.block p hp).trans hc⟩
def DrawPosPost (w : World) (e : Ending) (w' : World) : Prop :=
  ∃ (W H : Int) (N z r : Nat), Ok W H N z ∧ N ≤ 16 ∧ Part r z ∧ e = .returned (.tuple #[bd W H z, .int .i64 r]) ∧ Below w.heap.size w w'
end Go.Proofs.Ytoginbmflomjeaa
