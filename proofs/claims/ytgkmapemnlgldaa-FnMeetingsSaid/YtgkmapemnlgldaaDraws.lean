/- The cursor of the drawing functions: a draw gives a number in its range, writes into the cursor alone, and leaves all that the law was called with as it was. Of codes of at most 1048576 bytes. What every law over a code begins with: whether the code is too long; what is told of its bytes. The drawn boards: l02Small and DrawBoard of the model give a valid board of at most sixteen places; 'at' gives a byte. Of codes of at most 1048576 bytes. The drawn positions: l04Some and DrawPosition of the model give a valid board of at most sixteen places and a position of it. Of codes of at most 1048576 bytes. -/
import Derived.Test.YtgkmapemnlgldaaProg
import Derived.Test.YtgkmapemnlgldaaBoards
import Derived.WalkKit
import Derived.WalkSpells
import Derived.BigQuiet
import Derived.Deep.QuietTactic
import Derived.Deep.Draws
import Derived.Lib.Hide
import Derived.Lib.SmallJoins
import Derived.IntWalk
import Derived.Maps.AppendAt
import Derived.Maps.RangeWalk
import Derived.OpenShut
import Derived.Test.YtgkmapemnlgldaaPegsAll
namespace Go.Proofs.Ytgkmapemnlgldaa
open Go.RowKit
theorem i64_and255 (n : Int) : bits .and .i64 n 255 = n % 256 := by
  have h255 : (BitVec.ofInt 64 255).toNat = 2 ^ 8 - 1 := by decide
  have key : (BitVec.ofInt 64 n &&& BitVec.ofInt 64 255).toNat = (n % ((2 ^ 64 : Nat) : Int)).toNat % 2 ^ 8 := by
    rw [BitVec.toNat_and, BitVec.toNat_ofInt, h255, Nat.and_two_pow_sub_one_eq_mod]
  show IntKind.i64.wrap ((BitVec.ofInt 64 n &&& BitVec.ofInt 64 255).toNat : Nat) = n % 256
  rw [key, IntKind.wrap_i64]
  omega
/-- The bytes that came in: in the world in which the law was called. -/
def CodeAt (w0 : World) (a : Option Addr) (len : Nat) : Prop :=
  len ≤ 1048576 ∧ (len = 0 ∨ ∃ b off, a = some ⟨b, off, none⟩ ∧ b < w0.heap.size ∧ ∀ k, k < len → ∃ c : Nat, c < 256 ∧ w0.cell? ⟨b, off + k, none⟩ = some (.int .u8 c))
/-- The cursor at block p, in the midst of a draw. -/
def Dr (w0 : World) (a : Option Addr) (len cap p : Nat) (w : World) : Prop :=
  w0.heap.size ≤ p ∧ Below w0.heap.size w0 w ∧ ∃ (i : Nat) (h : Int), i ≤ len ∧ w.heap[p]? = some (.cells #[.slice a len cap, .int .i64 i, .int .i64 h] 73 (0, 0))
def DrawByte (w0 : World) (a : Option Addr) (len cap p : Nat) (w : World) (e : Ending) (w' : World) : Prop :=
  ∃ x : Nat, x ≤ 255 ∧ e = .returned (.int .i64 x) ∧ Dr w0 a len cap p w' ∧ w.grownBy w' (some p)
theorem grown_set (w : World) (p j : Nat) (u : Value) : w.grownBy (w.setCell ⟨p, j, none⟩ u) (some p) :=
  ⟨rfl, rfl, rfl, by simp, fun k _ hk => heap_setCell_other w ⟨p, j, none⟩ k u (fun e => hk (by simp [e]))⟩
theorem grown_drewN {w w' : World} {r : Option Nat} (h : w.grownBy w' r) (q : Nat) : w.grownBy (w'.drewN q) r := ⟨h.os, h.tape, h.output, h.size, h.block⟩
theorem Dr.of {w0 w w' : World} {a : Option Addr} {len cap p : Nat} (h : Dr w0 a len cap p w) (hg : w.grownBy w' (some p)) {i : Nat} {x : Int} (hi : i ≤ len) (hc : w'.heap[p]? = some (.cells #[.slice a len cap, .int .i64 i, .int .i64 x] 73 (0, 0))) : Dr w0 a len cap p w' :=
  ⟨h.1, h.2.1.grown hg h.2.1.size (fun k hk => by cases hk; exact h.1), i, x, hi, hc⟩

theorem byte_end1 {w0 w : World} {a : Option Addr} {len cap p i n : Nat} {h h2 : Int} (HD : Dr w0 a len cap p w) (HC : w.heap[p]? = some (.cells #[.slice a len cap, .int .i64 i, .int .i64 h] 73 (0, 0))) (hi : i ≤ len) (hn : n ≤ 255) (q1 q2 : Nat) :
    DrawByte w0 a len cap p w (.returned (.int .i64 n)) (((w.setCell ⟨p, 2, none⟩ (.int .i64 h2)).drewN q1).drewN q2) := by
  have hg : w.grownBy (((w.setCell ⟨p, 2, none⟩ (.int .i64 h2)).drewN q1).drewN q2) (some p) := grown_drewN (grown_drewN (grown_set w p 2 (.int .i64 h2)) _) _
  exact ⟨n, hn, rfl, HD.of hg hi (x := h2) (heap_setCell_same w p 2 _ 73 _ HC), hg⟩
theorem byte_end2 {w0 w : World} {a : Option Addr} {len cap p i n : Nat} {h h2 : Int} (HD : Dr w0 a len cap p w) (HC : w.heap[p]? = some (.cells #[.slice a len cap, .int .i64 i, .int .i64 h] 73 (0, 0))) (hi : i < len) (hn : n ≤ 255) (q : Nat) :
    DrawByte w0 a len cap p w (.returned (.int .i64 n)) (((w.setCell ⟨p, 2, none⟩ (.int .i64 h2)).drewN q).setCell ⟨p, 1, none⟩ (.int .i64 ((i : Int) + 1))) := by
  have hg : w.grownBy (((w.setCell ⟨p, 2, none⟩ (.int .i64 h2)).drewN q).setCell ⟨p, 1, none⟩ (.int .i64 ((i : Int) + 1))) (some p) :=
    (grown_drewN (grown_set w p 2 (.int .i64 h2)) _).trans (grown_set _ p 1 _)
  refine ⟨n, hn, rfl, HD.of hg (i := i + 1) (by omega) (x := h2) ?_, hg⟩
  exact heap_setCell_same _ p 1 #[.slice a len cap, .int .i64 i, .int .i64 h2] 73 _ (heap_setCell_same w p 2 _ 73 _ HC)
set_option maxHeartbeats 1000000 in
set_option maxRecDepth 100000 in
theorem byte {w0 : World} {a : Option Addr} {len cap p : Nat} (hcode : CodeAt w0 a len) (w : World) (hd : Dr w0 a len cap p w) :
    Calls Try.prog 74 #[.pointer (some ⟨p, 0, none⟩)] w (DrawByte w0 a len cap p w) := by
  have hd0 := hd
  obtain ⟨hp, hb, i, h, hi, hc⟩ := hd
  have k0 : w.cell? ⟨p, 0, none⟩ = some (.slice a len cap) := by rw [cell_of_row w p 0 _ _ _ hc]; rfl
  have k1 : w.cell? ⟨p, 1, none⟩ = some (.int .i64 i) := by rw [cell_of_row w p 1 _ _ _ hc]; rfl
  have k2 : w.cell? ⟨p, 2, none⟩ = some (.int .i64 h) := by rw [cell_of_row w p 2 _ _ _ hc]; rfl
  have f1 : w.frozen? ⟨p, 1, none⟩ = false := frozen_of_row w p 1 _ _ hc
  have f2 : w.frozen? ⟨p, 2, none⟩ = false := frozen_of_row w p 2 _ _ hc
  have hand := i64_and255
  have HC := Lib.hid hc; clear hc
  have HD := Lib.hid hd0; clear hd0
  have hl := hcode.1
  by_cases hlt : i < len
  · have g1 : (i : Int) < (len : Int) := by omega
    have g0 : (0 : Int) ≤ (i : Int) := by omega
    obtain ⟨b, off, rfl, hbw, hcs⟩ : ∃ b off, a = some ⟨b, off, none⟩ ∧ b < w0.heap.size ∧ ∀ k, k < len → ∃ c : Nat, c < 256 ∧ w0.cell? ⟨b, off + k, none⟩ = some (.int .u8 c) := by
      rcases hcode.2 with h | h
      · omega
      · exact h
    obtain ⟨c, hc1, hc2⟩ := hcs i hlt
    clear hcs
    have kc : w.cell? ⟨b, off + i, none⟩ = some (.int .u8 c) := (hb.cell (by exact hbw)).trans hc2
    have hne : ¬ b = p := by omega
    clear hc2
    go_enter Try.func74, Try.ntmps74
    go_wp2_with fail
    generalize wrap64 (wrap64 (h * 6364136223846793005) + 1442695040888963407) = h2
    go_quiet (fail)
    go_wp2_with fail
    generalize bits BinOp.xor IntKind.i64 (h2 / 8589934592) (h2 / 35184372088832) = y
    have hy0 : 0 ≤ y % 256 := by omega
    have hy1 : y % 256 ≤ 255 := by omega
    generalize y % 256 = x at *
    go_quiet (fail)
    go_wp2_with fail
    go_quiet (fail)
    go_wp2_with fail
    go_ret
    have hz0 : 0 ≤ (x + (c : Int)) % 256 := by omega
    have hz1 : (x + (c : Int)) % 256 ≤ 255 := by omega
    generalize (x + (c : Int)) % 256 = z at *
    obtain ⟨n, rfl⟩ := Int.eq_ofNat_of_zero_le hz0
    exact byte_end2 (n := n) HD.out HC.out hlt (by omega) _
  · have g1 : ¬ (i : Int) < (len : Int) := by omega
    go_enter Try.func74, Try.ntmps74
    go_wp2_with fail
    generalize wrap64 (wrap64 (h * 6364136223846793005) + 1442695040888963407) = h2
    go_quiet (fail)
    go_wp2_with fail
    generalize bits BinOp.xor IntKind.i64 (h2 / 8589934592) (h2 / 35184372088832) = y
    have hy0 : 0 ≤ y % 256 := by omega
    have hy1 : y % 256 ≤ 255 := by omega
    generalize y % 256 = x at *
    go_quiet (fail)
    go_wp2_with fail
    go_ret
    obtain ⟨n, rfl⟩ := Int.eq_ofNat_of_zero_le hy0
    exact byte_end1 (n := n) HD.out HC.out hi (by omega) _ _
def DrawBelow (w0 : World) (a : Option Addr) (len cap p : Nat) (n : Int) (w : World) (e : Ending) (w' : World) : Prop :=
  ∃ x : Nat, (x : Int) < n ∧ e = .returned (.int .i64 x) ∧ Dr w0 a len cap p w' ∧ w.grownBy w' (some p)
set_option maxHeartbeats 1000000 in
set_option maxRecDepth 100000 in
theorem below {w0 : World} {a : Option Addr} {len cap p : Nat} (hcode : CodeAt w0 a len) (n : Int) (w : World) (hd : Dr w0 a len cap p w) (h0 : 0 < n) (h1 : n ≤ 4294967296) :
    Calls Try.prog 55 #[.pointer (some ⟨p, 0, none⟩), .int .i64 n] w (DrawBelow w0 a len cap p n w) := by
  have HB := Lib.hid (fun w hd => byte (cap := cap) (p := p) hcode w hd)
  have HD := Lib.hid hd
  clear hd hcode
  by_cases h2 : n ≤ 256
  · go_enter Try.func55, Try.ntmps55
    go_wp2_with fail
    refine (HB.out _ HD.out).mono ?_
    rintro e w1 ⟨x, hx, rfl, hd1, hg1⟩
    have HD1 := Lib.hid hd1; clear hd1
    have HG1 := Lib.hid hg1; clear hg1
    have hxi : (x : Int) ≤ 255 := by omega
    go_wp2_with fail
    go_ret
    have hz0 : 0 ≤ (x : Int) % n := Int.emod_nonneg _ (by omega)
    have hz1 : (x : Int) % n < n := Int.emod_lt_of_pos _ h0
    generalize (x : Int) % n = z at *
    obtain ⟨m, rfl⟩ := Int.eq_ofNat_of_zero_le hz0
    exact ⟨m, hz1, rfl, HD1.out, HG1.out⟩
  · go_enter Try.func55, Try.ntmps55
    go_wp2_with fail
    refine (HB.out _ HD.out).mono ?_
    rintro e w1 ⟨x, hx, rfl, hd1, hg1⟩
    have HD1 := Lib.hid hd1; clear hd1
    have HG1 := Lib.hid hg1; clear hg1
    go_wp2_with fail
    refine (HB.out _ HD1.out).mono ?_
    rintro e w2 ⟨y, hy, rfl, hd2, hg2⟩
    have HD2 := Lib.hid hd2; clear hd2
    have HG2 := Lib.hid (HG1.out.trans hg2); clear hg2
    go_wp2_with fail
    refine (HB.out _ HD2.out).mono ?_
    rintro e w3 ⟨z, hz, rfl, hd3, hg3⟩
    have HD3 := Lib.hid hd3; clear hd3
    have HG3 := Lib.hid (HG2.out.trans hg3); clear hg3
    go_wp2_with fail
    refine (HB.out _ HD3.out).mono ?_
    rintro e w4 ⟨u, hu, rfl, hd4, hg4⟩
    have HD4 := Lib.hid hd4; clear hd4
    have HG4 := Lib.hid (HG3.out.trans hg4); clear hg4
    go_wp2_with fail
    go_ret
    have hs0 : 0 ≤ (x : Int) * 16777216 + y * 65536 + z * 256 + u := by omega
    generalize (x : Int) * 16777216 + y * 65536 + z * 256 + u = s at *
    have hz0 : 0 ≤ s % n := Int.emod_nonneg _ (by omega)
    have hz1 : s % n < n := Int.emod_lt_of_pos _ h0
    generalize s % n = r at *
    obtain ⟨m, rfl⟩ := Int.eq_ofNat_of_zero_le hz0
    exact ⟨m, hz1, rfl, HD4.out, HG4.out⟩
def DrawBool (w0 : World) (a : Option Addr) (len cap p : Nat) (w : World) (e : Ending) (w' : World) : Prop :=
  ∃ x : Bool, e = .returned (.bool x) ∧ Dr w0 a len cap p w' ∧ w.grownBy w' (some p)
set_option maxRecDepth 100000 in
theorem once {w0 : World} {a : Option Addr} {len cap p : Nat} (hcode : CodeAt w0 a len) (n : Int) (w : World) (hd : Dr w0 a len cap p w) (h0 : 0 < n) (h1 : n ≤ 4294967296) :
    Calls Try.prog 56 #[.pointer (some ⟨p, 0, none⟩), .int .i64 n] w (DrawBool w0 a len cap p w) := by
  have HB := Lib.hid (below hcode n w hd h0 h1)
  clear hd hcode h0 h1
  go_enter Try.func56, Try.ntmps56
  go_wp2_with fail
  refine HB.out.mono ?_
  rintro e w1 ⟨x, hx, rfl, hd1, hg1⟩
  have HD1 := Lib.hid hd1; clear hd1
  have HG1 := Lib.hid hg1; clear hg1
  go_wp2_with fail
  go_ret
  exact ⟨_, rfl, HD1.out, HG1.out⟩
/-- The cursor is kept by what writes into no block that was there. -/
theorem Dr.below {w0 w w' : World} {a : Option Addr} {len cap p : Nat} (h : Dr w0 a len cap p w) (hb : Below w.heap.size w w') : Dr w0 a len cap p w' := by
  obtain ⟨hp, h1, i, x, hi, hc⟩ := h
  have hlt : p < w.heap.size := by
    rcases Nat.lt_or_ge p w.heap.size with h | h
    · exact h
    · rw [Array.getElem?_eq_none h] at hc; cases hc
  exact ⟨hp, h1.trans (hb.mono h1.size), i, x, hi, (hb.block p hlt).trans hc⟩
def DrawAny (w0 : World) (a : Option Addr) (len cap p : Nat) (w : World) (e : Ending) (w' : World) : Prop :=
  ∃ x : Int, -9223372036854775808 ≤ x ∧ x ≤ 9223372036854775807 ∧ e = .returned (.int .i64 x) ∧ Dr w0 a len cap p w' ∧ w.grownBy w' (some p)
def NewPost (a : Option Addr) (len cap : Nat) (w : World) (e : Ending) (w' : World) : Prop := ∃ p, e = .returned (.pointer (some ⟨p, 0, none⟩)) ∧ Dr w a len cap p w'
theorem new_post {a : Option Addr} {len cap : Nat} {h : Int} (w : World) : NewPost a len cap w (.returned (.pointer (some ⟨w.heap.size, 0, none⟩))) (w.alloc (.cells #[.slice a len cap, .int .i64 0, .int .i64 h] 73)) :=
  ⟨w.heap.size, rfl, Nat.le_refl _, (Below.refl _ _).alloc (Nat.le_refl _) _, 0, h, Nat.zero_le _, heap_alloc_new w _⟩
set_option maxHeartbeats 1000000 in
set_option maxRecDepth 100000 in
theorem curNew {a : Option Addr} {len cap : Nat} (w : World) (hcode : CodeAt w a len) :
    Calls Try.prog 31 #[.slice a len cap] w (NewPost a len cap w) := by
  have hl := hcode.1
  go_enter Try.func31, Try.ntmps31
  go_wp2_with fail
  go_loop [3, 4] (fun t i => ∃ (k : Nat) (h : Int), k ≤ len ∧ k ≤ 4000 ∧ i = .int .i64 k ∧ t = .int .i64 h) (fun _ i => 4000 - (intOf i).toNat)
  case atStart => exact ⟨0, _, Nat.zero_le _, Nat.zero_le _, rfl, rfl⟩
  case round =>
    obtain ⟨k, h, hk, hk2, rfl, rfl⟩ := hrel
    by_cases h1 : k < len
    · by_cases h2 : k < 4000
      · have g0 : (0 : Int) ≤ (k : Int) := by omega
        have g1 : (k : Int) < (len : Int) := by omega
        have g2 : (k : Int) < 4000 := by omega
        obtain ⟨b, off, rfl, hbw, hcs⟩ : ∃ b off, a = some ⟨b, off, none⟩ ∧ b < w.heap.size ∧ ∀ k, k < len → ∃ c : Nat, c < 256 ∧ w.cell? ⟨b, off + k, none⟩ = some (.int .u8 c) := by
          rcases hcode.2 with h | h
          · omega
          · exact h
        obtain ⟨c, hc1, hc2⟩ := hcs k h1
        clear hcs hcode
        go_wp2_with fail
        go_round
        case rel => exact ⟨k + 1, _, by omega, by omega, by go_num, rfl⟩
        case measure => simp [intOf]; omega
      · have g1 : (k : Int) < (len : Int) := by omega
        have g2 : ¬ (k : Int) < 4000 := by omega
        clear hcode
        go_wp2_with fail
        go_ret
        exact new_post w
    · have g1 : ¬ (k : Int) < (len : Int) := by omega
      clear hcode
      go_wp2_with fail
      go_ret
      exact new_post w

end Go.Proofs.Ytgkmapemnlgldaa

namespace Go.Proofs.Ytgkmapemnlgldaa
open Go.RowKit
theorem big_no {a : Option Addr} {len cap : Nat} (w : World) (h : len ≤ 1048576) : Calls Try.prog 9 #[.slice a len cap] w fun e w' => e = .returned (.bool false) ∧ w = w' := by
  have hf : ¬ (1048576 : Int) < (len : Int) := by omega
  have hd : decide ((1048576 : Int) < (len : Int)) = false := decide_eq_false hf
  go_enter Try.func9, Try.ntmps9
  go_wp2
  go_ret
  exact ⟨rfl, rfl⟩
theorem big_yes {a : Option Addr} {len cap : Nat} (w : World) (h : 1048576 < len) : Calls Try.prog 9 #[.slice a len cap] w fun e w' => e = .returned (.bool true) ∧ w = w' := by
  have hf : (1048576 : Int) < (len : Int) := by omega
  have hd : decide ((1048576 : Int) < (len : Int)) = true := decide_eq_true hf
  go_enter Try.func9, Try.ntmps9
  go_wp2
  go_ret
  exact ⟨rfl, rfl⟩
/-- What the frame tells of the bytes, in the cursor's words. -/
theorem code_of {w : World} {a : Option Addr} {len cap : Nat} {zs : List Int} (h : (a = none ∧ len = 0 ∧ cap = 0 ∧ zs = []) ∨ ∃ x, a = some x ∧ len ≤ cap ∧ cap ≤ maxLen ∧ zs.length = cap ∧ (∀ i, i < zs.length → w.cell? (x.add i) = some (.int .u8 (zs.getD i 0))) ∧ ∀ n ∈ zs, (Lit.int .u8 n).wf = true) (hl : len ≤ 1048576) : CodeAt w a len := by
  refine ⟨hl, ?_⟩
  by_cases h0 : len = 0
  · exact .inl h0
  · right
    rcases h with ⟨_, h1, _, _⟩ | ⟨x, rfl, hlc, _, hz, hcell, hwf⟩
    · exact absurd h1 h0
    · obtain ⟨b, off, spot⟩ := x
      have hc := hcell 0 (by omega)
      have hspot : spot = none := by simpa [Addr.add] using World.cell?_spot hc
      subst hspot
      refine ⟨b, off, rfl, ?_, ?_⟩
      · exact World.block_lt_of_cell? w _ hc
      · intro k hk
        have hk' : k < zs.length := by omega
        have hck := hcell k hk'
        have hw := hwf (zs.getD k 0) (by rw [List.getD, List.getElem?_eq_getElem hk']; exact List.getElem_mem _)
        have hb := bounds_u8 hw
        obtain ⟨c, hcn⟩ := Int.eq_ofNat_of_zero_le hb.1
        refine ⟨c, by omega, ?_⟩
        have e : (⟨b, off, none⟩ : Addr).add k = ⟨b, off + k, none⟩ := by unfold Addr.add; split <;> simp_all
        rw [e, hcn] at hck
        exact hck
end Go.Proofs.Ytgkmapemnlgldaa

namespace Go.Proofs.Ytgkmapemnlgldaa
open Go.RowKit
theorem pc_pow : ∀ n i, pc n (2 ^ i) ≤ 1
  | 0, i => by simp [pc]
  | n + 1, 0 => by show 1 % 2 + pc n (1 / 2) ≤ 1; rw [show 1 / 2 = 0 from rfl, pc_zero]; decide
  | n + 1, i + 1 => by
    have h := pc_pow n i
    show 2 ^ (i + 1) % 2 + pc n (2 ^ (i + 1) / 2) ≤ 1
    have e1 : 2 ^ (i + 1) % 2 = 0 := by rw [Nat.pow_succ]; omega
    have e2 : 2 ^ (i + 1) / 2 = 2 ^ i := by rw [Nat.pow_succ]; omega
    rw [e1, e2]; omega
theorem bit_le {z i : Nat} (h : bit z i = true) : 2 ^ i ≤ z := by
  unfold bit at h
  have h' : z / 2 ^ i % 2 = 1 := by simpa using h
  rcases Nat.lt_or_ge z (2 ^ i) with h0 | h0
  · rw [Nat.div_eq_of_lt h0] at h'; simp at h'
  · exact h0
theorem bit_lt {z i n : Nat} (h : bit z i = true) (hn : 1 < (bitsOf n z).length) : 2 ^ i < z := by
  rcases Nat.lt_or_ge (2 ^ i) z with h0 | h0
  · exact h0
  · have e : z = 2 ^ i := by have := bit_le h; omega
    rw [e, bitsOf_length] at hn
    have := pc_pow n i
    omega
theorem Ok.drop {W H : Int} {N z i : Nat} (h : Ok W H N z) (hb : bit z i = true) (hn : 5 < (bitsOf N z).length) : Ok W H N (z - 2 ^ i) :=
  ⟨h.wh, h.n1, h.n49, by have := bit_lt (n := N) hb (by omega); omega, Nat.lt_of_le_of_lt (Nat.sub_le _ _) h.zlt, h.w1, h.w7, h.h1, h.h7⟩
theorem Ok.rect {W H : Int} {N : Nat} (wh : W * H = N) (n1 : 1 ≤ N) (n49 : N ≤ 49) (w1 : 1 ≤ W) (w7 : W ≤ 7) (h1 : 1 ≤ H) (h7 : H ≤ 7) : Ok W H N (2 ^ N - 1) := by
  have hp : 2 ^ 1 ≤ 2 ^ N := Nat.pow_le_pow_right (by decide) n1
  exact ⟨wh, n1, n49, by omega, by omega, w1, w7, h1, h7⟩
theorem Dr.lt {w0 w : World} {a : Option Addr} {len cap p : Nat} (h : Dr w0 a len cap p w) : p < w.heap.size := by
  obtain ⟨_, _, i, y, _, hc⟩ := h
  rcases Nat.lt_or_ge p w.heap.size with h | h
  · exact h
  · rw [Array.getElem?_eq_none h] at hc; cases hc
theorem Dr.set {w0 w : World} {a : Option Addr} {len cap p b j : Nat} {v : Value} (h : Dr w0 a len cap p w) (hb : w0.heap.size ≤ b ∧ ¬ p = b) : Dr w0 a len cap p (w.setCell ⟨b, j, none⟩ v) := by
  obtain ⟨h1, h2, i, y, hi, hc⟩ := h
  exact ⟨h1, set_below h2 hb.1, i, y, hi, (heap_setCell_other w ⟨b, j, none⟩ p _ hb.2).trans hc⟩
theorem Dr.drew {w0 w : World} {a : Option Addr} {len cap p : Nat} (h : Dr w0 a len cap p w) : Dr w0 a len cap p w.drew := ⟨h.1, h.2.1.drew, h.2.2⟩
theorem grown_drew {w w' : World} {r : Option Nat} (h : w.grownBy w' r) : w.grownBy w'.drew r := ⟨h.os, h.tape, h.output, h.size, h.block⟩
theorem grown_set_new {w w' : World} {r : Option Nat} {b j : Nat} {v : Value} (h : w.grownBy w' r) (hb : w.heap.size ≤ b) : w.grownBy (w'.setCell ⟨b, j, none⟩ v) r :=
  ⟨h.os, h.tape, h.output, by simpa using h.size, fun k hk hr => (heap_setCell_other w' ⟨b, j, none⟩ k _ (by show ¬ k = b; omega)).trans (h.block k hk hr)⟩
def row3 (w : World) (b : Nat) (W H Z : Int) : Prop := w.heap[b]? = some (.cells #[.int .i64 W, .int .i64 H, .int .i64 Z] 25 (0, 0))
def SmallPost (w0 : World) (a : Option Addr) (len cap p : Nat) (w : World) (e : Ending) (w' : World) : Prop :=
  ∃ (W H : Int) (N z : Nat), Ok W H N z ∧ N ≤ 16 ∧ e = .returned (bd W H z) ∧ Dr w0 a len cap p w' ∧ w.grownBy w' (some p)
theorem dims (x m : Nat) (hx : x < 5) (hm : (16 : Int) / (1 + x) = m) (y : Nat) (h4 : y < 4) (hy : y < m) :
    (¬ (1 + (x : Int) < 3 ∧ 1 + (y : Int) < 3) → ∃ N : Nat, (1 + (x : Int)) * (1 + y) = N ∧ 3 ≤ N ∧ N ≤ 16) ∧ (1 + (x : Int) < 3 → ∃ N : Nat, (1 + (x : Int)) * 3 = N ∧ 3 ≤ N ∧ N ≤ 16) := by
  match x, hx with
  | 0, _ | 1, _ | 2, _ | 3, _ | 4, _ =>
    simp at hm
    exact ⟨fun h => ⟨_, (Int.toNat_of_nonneg (by omega)).symm, by omega, by omega⟩, fun h => ⟨_, (Int.toNat_of_nonneg (by omega)).symm, by omega, by omega⟩⟩
  | x + 5, h => omega
set_option maxHeartbeats 4000000 in
set_option maxRecDepth 100000 in
theorem small {w0 : World} {a : Option Addr} {len cap p : Nat} (hcode : CodeAt w0 a len) (w : World) (hd : Dr w0 a len cap p w) :
    Calls Try.prog 70 #[.pointer (some ⟨p, 0, none⟩)] w (SmallPost w0 a len cap p w) := by
  have HCO := Lib.hid hcode
  have HD := Lib.hid hd
  have hpw := Dr.lt hd
  have hw0 := hd.2.1.size
  clear hd hcode
  go_enter Try.func70, Try.ntmps70
  go_wp2_with fail
  have hA : zero3 (w.alloc (.cells #[.int .i64 0, .int .i64 0, .int .i64 0] 25)) w.heap.size := heap_alloc_new w _
  have hS : (w.alloc (.cells #[.int .i64 0, .int .i64 0, .int .i64 0] 25)).heap.size = w.heap.size + 1 := by simp
  have hB : Below w.heap.size w (w.alloc (.cells #[.int .i64 0, .int .i64 0, .int .i64 0] 25)) := (Below.refl _ _).alloc (Nat.le_refl _) _
  have HD1 := Lib.hid (HD.out.below hB)
  have HG1 := Lib.hid (grown_below hB (some p))
  have HA := Lib.hid hA
  clear hA hB
  generalize w.alloc (.cells #[.int .i64 0, .int .i64 0, .int .i64 0] 25) = W1 at *
  refine (below HCO.out 5 _ HD1.out (by omega) (by omega)).mono ?_
  rintro e w1 ⟨x, hx, rfl, hd1, hg1⟩
  have HD2 := Lib.hid hd1
  have HG2 := Lib.hid (HG1.out.trans hg1)
  have HA2 : Hid (zero3 w1 w.heap.size) := (hg1.block _ (by omega) (by intro h; injection h; omega)).trans HA.out
  have hlt2 : w.heap.size < w1.heap.size := by have := hg1.size; omega
  clear hd1 hg1 HD1 HG1 HA hS
  obtain ⟨m, hm, hm3, hm16⟩ : ∃ m : Nat, (16 : Int) / (1 + x) = m ∧ 3 ≤ m ∧ m ≤ 16 := by
    have h1 : 0 ≤ (16 : Int) / (1 + x) := Int.ediv_nonneg (by omega) (by omega)
    obtain ⟨m, hm⟩ := Int.eq_ofNat_of_zero_le h1
    refine ⟨m, hm, ?_, ?_⟩
    · match x, hx with
      | 0, _ | 1, _ | 2, _ | 3, _ | 4, _ => simp at hm; omega
      | x + 5, h => omega
    · match x, hx with
      | 0, _ | 1, _ | 2, _ | 3, _ | 4, _ => simp at hm; omega
      | x + 5, h => omega
  have HDI := Lib.hid (fun y => dims x m (by omega) hm y)
  obtain ⟨W, hW⟩ : ∃ W : Int, 1 + (x : Int) = W := ⟨_, rfl⟩
  rw [hW] at hm HDI
  have hW1 : 1 ≤ W := by omega
  have hW5 : W ≤ 5 := by omega
  go_wp2_with fail
  all_goals
    refine (below HCO.out _ _ HD2.out (by omega) (by omega)).mono ?_
    rintro e w2 ⟨y, hy, rfl, hd2, hg2⟩
    have HD3 := Lib.hid hd2
    have HG3 := Lib.hid (HG2.out.trans hg2)
    have HA3 : Hid (zero3 w2 w.heap.size) := (hg2.block _ (by omega) (by intro h; injection h; omega)).trans HA2.out
    have hlt3 : w.heap.size < w2.heap.size := by have := hg2.size; omega
    clear hd2 hg2
    obtain ⟨H, hH⟩ : ∃ H : Int, 1 + (y : Int) = H := ⟨_, rfl⟩
    have HDY := HDI.out y (by omega) (by omega)
    rw [hH] at HDY
    have hH1 : 1 ≤ H := by omega
    have hH4 : H ≤ 4 := by omega
    by_cases hcc : W < 3 ∧ H < 3
    · obtain ⟨hc1, hc2⟩ := hcc
      obtain ⟨N, hN, hN3, hN16⟩ := HDY.2 hc1
      clear HDY HDI
      have hsW : sideB W = true := by simp only [sideB, Bool.and_eq_true, decide_eq_true_eq]; omega
      have hsH : sideB 3 = true := by simp only [sideB, Bool.and_eq_true, decide_eq_true_eq]; omega
      have HR := Lib.hid (rect_yes hsW hsH hN)
      have HO := Lib.hid (Ok.rect hN (by omega) (by omega) (by omega) (by omega) (by omega) (by omega))
      clear hsW hsH
      go_wp2_with fail
      refine (specRect _ _ _).mono ?_
      rintro e w3 ⟨rfl, hb3⟩
      rw [HR.out]
      unfold bd
      have HD4 := Lib.hid (HD3.out.below hb3)
      have HG4 := Lib.hid (HG3.out.trans (grown_below hb3 (some p)))
      have HA4 : Hid (zero3 w3 w.heap.size) := row_later HA3.out hb3 hlt3
      have hlt4 : w.heap.size < w3.heap.size := Nat.lt_of_lt_of_le hlt3 hb3.size
      clear hb3 HD3 HG3 HA3 hlt3
      go_wp2_with fail
      have hq : row3 (w3.alloc (.cells #[.int .i64 W, .int .i64 3, .int .i64 (2 ^ N - 1)] 25)) w3.heap.size W 3 (2 ^ N - 1) := heap_alloc_new w3 _
      have hB5 : Below w3.heap.size w3 (w3.alloc (.cells #[.int .i64 W, .int .i64 3, .int .i64 (2 ^ N - 1)] 25)) := (Below.refl _ _).alloc (Nat.le_refl _) _
      have HD5 := Lib.hid (HD4.out.below hB5)
      have HG5 := Lib.hid (HG4.out.trans (grown_below hB5 (some p)))
      have HA5 : Hid (zero3 (w3.alloc (.cells #[.int .i64 W, .int .i64 3, .int .i64 (2 ^ N - 1)] 25)) w.heap.size) := row_later HA4.out hB5 hlt4
      have hpq : p < w3.heap.size := Dr.lt HD4.out
      have HQ := Lib.hid hq
      clear hq hB5 HD4 HG4 HA4
      have hz5 : (w3.alloc (.cells #[.int .i64 W, .int .i64 3, .int .i64 (2 ^ N - 1)] 25)).heap.size = w3.heap.size + 1 := by simp
      generalize w3.alloc (.cells #[.int .i64 W, .int .i64 3, .int .i64 (2 ^ N - 1)] 25) = w4 at *
      generalize hqq : w3.heap.size = q at *
      clear hqq
      refine (below HCO.out 3 _ HD5.out (by omega) (by omega)).mono ?_
      rintro e w5 ⟨v, hv, rfl, hd6, hg6⟩
      have HD6 := Lib.hid hd6
      have HG6 := Lib.hid (HG5.out.trans hg6)
      have HA6 : Hid (zero3 w5 w.heap.size) := (hg6.block _ (by omega) (by intro h; injection h; omega)).trans HA5.out
      have HQ6 : Hid (row3 w5 q W 3 ((2 ^ N - 1 : Nat) : Int)) := by
        unfold Hid
        rw [Int.natCast_sub (Nat.two_pow_pos N), ← pow_cast]
        exact (hg6.block _ (by omega) (by intro h; injection h; omega)).trans HQ.out
      have hz6 : q + 1 ≤ w5.heap.size := by have := hg6.size; omega
      clear hd6 hg6 HD5 HG5 HA5 HQ hz5 HR
      go_wp2_with fail
      go_loopw [6] (fun i wr => ∃ (k z : Nat), k ≤ 2 ∧ i = .int .i64 k ∧ Hid (Ok W 3 N z) ∧ Hid (Dr w0 a len cap p wr) ∧ Hid (w.grownBy wr (some p)) ∧ Hid (zero3 wr w.heap.size) ∧ Hid (row3 wr q W 3 z) ∧ q + 1 ≤ wr.heap.size) (fun i _ => (intOf i).toNat)
      case atStart => exact ⟨v, _, by omega, rfl, HO, HD6, HG6, HA6, HQ6, hz6⟩
      case round =>
        obtain ⟨k, z, hk, rfl, ho, hd, hg, hz3, hq3, hzz⟩ := hrel
        clear HO HD6 HG6 HA6 HQ6 hz6
        obtain ⟨a0, a1, a2, f0, f1, f2⟩ := row_facts hz3.out
        obtain ⟨c0, c1, c2, g0, g1, g2⟩ := row_facts hq3.out
        have hne : ¬ w.heap.size = q := by omega
        by_cases hk0 : 0 < k
        · go_wp2_with fail
          refine (specCount ho.out _).mono ?_
          rintro e w6 ⟨rfl, hb6⟩
          have hd6 := Lib.hid (hd.out.below hb6)
          have hg6 := Lib.hid (hg.out.trans (grown_below hb6 (some p)))
          have hz36 : Hid (zero3 w6 w.heap.size) := row_later hz3.out hb6 (by omega)
          have hq36 : Hid (row3 w6 q W 3 z) := row_later hq3.out hb6 (by omega)
          have hzz6 : q + 1 ≤ w6.heap.size := by have := hb6.size; omega
          clear a0 a1 a2 f0 f1 f2 c0 c1 c2 g0 g1 g2 hd hg hz3 hq3 hzz hb6
          obtain ⟨a0, a1, a2, f0, f1, f2⟩ := row_facts hz36.out
          obtain ⟨c0, c1, c2, g0, g1, g2⟩ := row_facts hq36.out
          by_cases hc : 5 < (bitsOf N z).length
          · have hci : (5 : Int) < ((bitsOf N z).length : Int) := by omega
            clear a0 a1 a2 f0 f1 f2
            go_wp2_with fail
            clear hci c0 c1 c2 g0 g1 g2
            refine (below HCO.out (N : Int) _ hd6.out (by omega) (by omega)).mono ?_
            rintro e w7 ⟨j, hj, rfl, hd7, hg7⟩
            have hd7' := Lib.hid hd7
            have hg7' := Lib.hid (hg6.out.trans hg7)
            have hz37 : Hid (zero3 w7 w.heap.size) := (hg7.block _ (by omega) (by intro h; injection h; omega)).trans hz36.out
            have hq37 : Hid (row3 w7 q W 3 z) := (hg7.block _ (by omega) (by intro h; injection h; omega)).trans hq36.out
            have hzz7 : q + 1 ≤ w7.heap.size := by have := hg7.size; omega
            clear hd7 hg7 hd6 hg6 hz36 hq36 hzz6
            obtain ⟨c0, c1, c2, g0, g1, g2⟩ := row_facts hq37.out
            have hand := hand1
            cases hbit : bit z j
            · have hb1 : ((z : Int) / 2 ^ j % 2 == 1) = false := by rw [bit_int]; exact hbit
              clear hbit
              go_wp2_with fail
              go_roundw
              case rel => exact ⟨k - 1, z, by omega, by rw [show (((k - 1 : Nat) : Int)) = (k : Int) - 1 by omega], ho, hd7', hg7', hz37, hq37, hzz7⟩
              case measure => simp [intOf]; omega
            · have hb1 : ((z : Int) / 2 ^ j % 2 == 1) = true := by rw [bit_int]; exact hbit
              have hlez := bit_lt (n := N) hbit (by omega)
              have ho' := Lib.hid (ho.out.drop hbit hc)
              have hzb := ho.out.zbig
              obtain ⟨p1, p2⟩ := pow_le49 (show j ≤ 49 by omega)
              have hcast : (((z - 2 ^ j : Nat) : Int)) = (z : Int) - 2 ^ j := by rw [Int.natCast_sub (Nat.le_of_lt hlez), ← pow_cast]
              have hsub0 : (0 : Int) ≤ (z : Int) - 2 ^ j := by rw [← hcast]; omega
              have HC := Lib.hid hcast
              have hw8 : IntKind.i64.wrap ((z : Int) - 2 ^ j) = (z : Int) - 2 ^ j := IntWalk.i64_in _ (by omega)
              have hw9 : IntKind.i64.wrap ((2 : Int) ^ j) = (2 : Int) ^ j := IntWalk.i64_in _ (by omega)
              clear hbit hlez hcast
              go_wp2_with fail
              go_region
              all_goals
                clear hw8 hw9
                have hd8 : Hid (Dr w0 a len cap p (w7.setCell ⟨q, 2, none⟩ (.int .i64 ((z : Int) - 2 ^ j))).drew) := Dr.drew (Dr.set (b := q) hd7'.out (by omega))
                have hg8 : Hid (w.grownBy (w7.setCell ⟨q, 2, none⟩ (.int .i64 ((z : Int) - 2 ^ j))).drew (some p)) := grown_drew (grown_set_new (b := q) hg7'.out (by omega))
                have hz38 : Hid (zero3 (w7.setCell ⟨q, 2, none⟩ (.int .i64 ((z : Int) - 2 ^ j))).drew w.heap.size) := (heap_setCell_other w7 ⟨q, 2, none⟩ w.heap.size _ hne).trans hz37.out
                have hq38 : Hid (row3 (w7.setCell ⟨q, 2, none⟩ (.int .i64 ((z : Int) - 2 ^ j))).drew q W 3 ((z - 2 ^ j : Nat) : Int)) := by
                  unfold Hid
                  rw [HC.out]
                  exact heap_setCell_same w7 q 2 _ 25 _ hq37.out
                have hzz8 : q + 1 ≤ (w7.setCell ⟨q, 2, none⟩ (.int .i64 ((z : Int) - 2 ^ j))).drew.heap.size := by show _ ≤ (w7.setCell _ _).heap.size; simpa using hzz7
                clear c0 c1 c2 g0 g1 g2
                go_wp2_with fail
                go_roundw
                case rel => exact ⟨k - 1, _, by omega, by rw [show (((k - 1 : Nat) : Int)) = (k : Int) - 1 by omega], ho', hd8, hg8, hz38, hq38, hzz8⟩
                case measure => simp [intOf]; omega
          · have hci : ¬ (5 : Int) < ((bitsOf N z).length : Int) := by omega
            go_wp2_with fail
            refine bodyPost_ret (v := bd W 3 z) (by simp [results, Try.results70, go_sem, bd, a0, a1, a2]) rfl ⟨W, 3, N, z, ho.out, by omega, rfl, ?_, ?_⟩
            · exact Dr.set (Dr.set (Dr.set (b := w.heap.size) hd6.out (by omega)) (by omega)) (by omega)
            · exact grown_set_new (grown_set_new (grown_set_new hg6.out (Nat.le_refl _)) (Nat.le_refl _)) (Nat.le_refl _)
        · obtain rfl : k = 0 := by omega
          go_wp2_with fail
          refine bodyPost_ret (v := bd W 3 z) (by simp [results, Try.results70, go_sem, bd, a0, a1, a2]) rfl ⟨W, 3, N, z, ho.out, by omega, rfl, ?_, ?_⟩
          · exact Dr.set (Dr.set (Dr.set (b := w.heap.size) hd.out (by omega)) (by omega)) (by omega)
          · exact grown_set_new (grown_set_new (grown_set_new hg.out (Nat.le_refl _)) (Nat.le_refl _)) (Nat.le_refl _)
    · obtain ⟨N, hN, hN3, hN16⟩ := HDY.1 hcc
      clear HDY HDI
      have hcd : W < 3 → ¬ H < 3 := fun h1 h2 => hcc ⟨h1, h2⟩
      clear hcc
      by_cases hc1 : W < 3
      all_goals
        first | (have hc2 := hcd hc1) | skip
        clear hcd
        have hsW : sideB W = true := by simp only [sideB, Bool.and_eq_true, decide_eq_true_eq]; omega
        have hsH : sideB H = true := by simp only [sideB, Bool.and_eq_true, decide_eq_true_eq]; omega
        have HR := Lib.hid (rect_yes hsW hsH hN)
        have HO := Lib.hid (Ok.rect hN (by omega) (by omega) (by omega) (by omega) (by omega) (by omega))
        clear hsW hsH
        go_wp2_with fail
        refine (specRect _ _ _).mono ?_
        rintro e w3 ⟨rfl, hb3⟩
        rw [HR.out]
        unfold bd
        have HD4 := Lib.hid (HD3.out.below hb3)
        have HG4 := Lib.hid (HG3.out.trans (grown_below hb3 (some p)))
        have HA4 : Hid (zero3 w3 w.heap.size) := row_later HA3.out hb3 hlt3
        have hlt4 : w.heap.size < w3.heap.size := Nat.lt_of_lt_of_le hlt3 hb3.size
        clear hb3 HD3 HG3 HA3 hlt3
        go_wp2_with fail
        have hq : row3 (w3.alloc (.cells #[.int .i64 W, .int .i64 H, .int .i64 (2 ^ N - 1)] 25)) w3.heap.size W H (2 ^ N - 1) := heap_alloc_new w3 _
        have hB5 : Below w3.heap.size w3 (w3.alloc (.cells #[.int .i64 W, .int .i64 H, .int .i64 (2 ^ N - 1)] 25)) := (Below.refl _ _).alloc (Nat.le_refl _) _
        have HD5 := Lib.hid (HD4.out.below hB5)
        have HG5 := Lib.hid (HG4.out.trans (grown_below hB5 (some p)))
        have HA5 : Hid (zero3 (w3.alloc (.cells #[.int .i64 W, .int .i64 H, .int .i64 (2 ^ N - 1)] 25)) w.heap.size) := row_later HA4.out hB5 hlt4
        have hpq : p < w3.heap.size := Dr.lt HD4.out
        have HQ := Lib.hid hq
        clear hq hB5 HD4 HG4 HA4
        have hz5 : (w3.alloc (.cells #[.int .i64 W, .int .i64 H, .int .i64 (2 ^ N - 1)] 25)).heap.size = w3.heap.size + 1 := by simp
        generalize w3.alloc (.cells #[.int .i64 W, .int .i64 H, .int .i64 (2 ^ N - 1)] 25) = w4 at *
        generalize hqq : w3.heap.size = q at *
        clear hqq
        refine (below HCO.out 3 _ HD5.out (by omega) (by omega)).mono ?_
        rintro e w5 ⟨v, hv, rfl, hd6, hg6⟩
        have HD6 := Lib.hid hd6
        have HG6 := Lib.hid (HG5.out.trans hg6)
        have HA6 : Hid (zero3 w5 w.heap.size) := (hg6.block _ (by omega) (by intro h; injection h; omega)).trans HA5.out
        have HQ6 : Hid (row3 w5 q W H ((2 ^ N - 1 : Nat) : Int)) := by
          unfold Hid
          rw [Int.natCast_sub (Nat.two_pow_pos N), ← pow_cast]
          exact (hg6.block _ (by omega) (by intro h; injection h; omega)).trans HQ.out
        have hz6 : q + 1 ≤ w5.heap.size := by have := hg6.size; omega
        clear hd6 hg6 HD5 HG5 HA5 HQ hz5 HR
        go_wp2_with fail
        go_loopw [6] (fun i wr => ∃ (k z : Nat), k ≤ 2 ∧ i = .int .i64 k ∧ Hid (Ok W H N z) ∧ Hid (Dr w0 a len cap p wr) ∧ Hid (w.grownBy wr (some p)) ∧ Hid (zero3 wr w.heap.size) ∧ Hid (row3 wr q W H z) ∧ q + 1 ≤ wr.heap.size) (fun i _ => (intOf i).toNat)
        case atStart => exact ⟨v, _, by omega, rfl, HO, HD6, HG6, HA6, HQ6, hz6⟩
        case round =>
          obtain ⟨k, z, hk, rfl, ho, hd, hg, hz3, hq3, hzz⟩ := hrel
          clear HO HD6 HG6 HA6 HQ6 hz6
          obtain ⟨a0, a1, a2, f0, f1, f2⟩ := row_facts hz3.out
          obtain ⟨c0, c1, c2, g0, g1, g2⟩ := row_facts hq3.out
          have hne : ¬ w.heap.size = q := by omega
          by_cases hk0 : 0 < k
          · go_wp2_with fail
            refine (specCount ho.out _).mono ?_
            rintro e w6 ⟨rfl, hb6⟩
            have hd6 := Lib.hid (hd.out.below hb6)
            have hg6 := Lib.hid (hg.out.trans (grown_below hb6 (some p)))
            have hz36 : Hid (zero3 w6 w.heap.size) := row_later hz3.out hb6 (by omega)
            have hq36 : Hid (row3 w6 q W H z) := row_later hq3.out hb6 (by omega)
            have hzz6 : q + 1 ≤ w6.heap.size := by have := hb6.size; omega
            clear a0 a1 a2 f0 f1 f2 c0 c1 c2 g0 g1 g2 hd hg hz3 hq3 hzz hb6
            obtain ⟨a0, a1, a2, f0, f1, f2⟩ := row_facts hz36.out
            obtain ⟨c0, c1, c2, g0, g1, g2⟩ := row_facts hq36.out
            by_cases hc : 5 < (bitsOf N z).length
            · have hci : (5 : Int) < ((bitsOf N z).length : Int) := by omega
              clear a0 a1 a2 f0 f1 f2
              go_wp2_with fail
              clear hci c0 c1 c2 g0 g1 g2
              refine (below HCO.out (N : Int) _ hd6.out (by omega) (by omega)).mono ?_
              rintro e w7 ⟨j, hj, rfl, hd7, hg7⟩
              have hd7' := Lib.hid hd7
              have hg7' := Lib.hid (hg6.out.trans hg7)
              have hz37 : Hid (zero3 w7 w.heap.size) := (hg7.block _ (by omega) (by intro h; injection h; omega)).trans hz36.out
              have hq37 : Hid (row3 w7 q W H z) := (hg7.block _ (by omega) (by intro h; injection h; omega)).trans hq36.out
              have hzz7 : q + 1 ≤ w7.heap.size := by have := hg7.size; omega
              clear hd7 hg7 hd6 hg6 hz36 hq36 hzz6
              obtain ⟨c0, c1, c2, g0, g1, g2⟩ := row_facts hq37.out
              have hand := hand1
              cases hbit : bit z j
              · have hb1 : ((z : Int) / 2 ^ j % 2 == 1) = false := by rw [bit_int]; exact hbit
                clear hbit
                go_wp2_with fail
                go_roundw
                case rel => exact ⟨k - 1, z, by omega, by rw [show (((k - 1 : Nat) : Int)) = (k : Int) - 1 by omega], ho, hd7', hg7', hz37, hq37, hzz7⟩
                case measure => simp [intOf]; omega
              · have hb1 : ((z : Int) / 2 ^ j % 2 == 1) = true := by rw [bit_int]; exact hbit
                have hlez := bit_lt (n := N) hbit (by omega)
                have ho' := Lib.hid (ho.out.drop hbit hc)
                have hzb := ho.out.zbig
                obtain ⟨p1, p2⟩ := pow_le49 (show j ≤ 49 by omega)
                have hcast : (((z - 2 ^ j : Nat) : Int)) = (z : Int) - 2 ^ j := by rw [Int.natCast_sub (Nat.le_of_lt hlez), ← pow_cast]
                have hsub0 : (0 : Int) ≤ (z : Int) - 2 ^ j := by rw [← hcast]; omega
                have HC := Lib.hid hcast
                have hw8 : IntKind.i64.wrap ((z : Int) - 2 ^ j) = (z : Int) - 2 ^ j := IntWalk.i64_in _ (by omega)
                have hw9 : IntKind.i64.wrap ((2 : Int) ^ j) = (2 : Int) ^ j := IntWalk.i64_in _ (by omega)
                clear hbit hlez hcast
                go_wp2_with fail
                go_region
                all_goals
                  clear hw8 hw9
                  have hd8 : Hid (Dr w0 a len cap p (w7.setCell ⟨q, 2, none⟩ (.int .i64 ((z : Int) - 2 ^ j))).drew) := Dr.drew (Dr.set (b := q) hd7'.out (by omega))
                  have hg8 : Hid (w.grownBy (w7.setCell ⟨q, 2, none⟩ (.int .i64 ((z : Int) - 2 ^ j))).drew (some p)) := grown_drew (grown_set_new (b := q) hg7'.out (by omega))
                  have hz38 : Hid (zero3 (w7.setCell ⟨q, 2, none⟩ (.int .i64 ((z : Int) - 2 ^ j))).drew w.heap.size) := (heap_setCell_other w7 ⟨q, 2, none⟩ w.heap.size _ hne).trans hz37.out
                  have hq38 : Hid (row3 (w7.setCell ⟨q, 2, none⟩ (.int .i64 ((z : Int) - 2 ^ j))).drew q W H ((z - 2 ^ j : Nat) : Int)) := by
                    unfold Hid
                    rw [HC.out]
                    exact heap_setCell_same w7 q 2 _ 25 _ hq37.out
                  have hzz8 : q + 1 ≤ (w7.setCell ⟨q, 2, none⟩ (.int .i64 ((z : Int) - 2 ^ j))).drew.heap.size := by show _ ≤ (w7.setCell _ _).heap.size; simpa using hzz7
                  clear c0 c1 c2 g0 g1 g2
                  go_wp2_with fail
                  go_roundw
                  case rel => exact ⟨k - 1, _, by omega, by rw [show (((k - 1 : Nat) : Int)) = (k : Int) - 1 by omega], ho', hd8, hg8, hz38, hq38, hzz8⟩
                  case measure => simp [intOf]; omega
            · have hci : ¬ (5 : Int) < ((bitsOf N z).length : Int) := by omega
              go_wp2_with fail
              refine bodyPost_ret (v := bd W H z) (by simp [results, Try.results70, go_sem, bd, a0, a1, a2]) rfl ⟨W, H, N, z, ho.out, by omega, rfl, ?_, ?_⟩
              · exact Dr.set (Dr.set (Dr.set (b := w.heap.size) hd6.out (by omega)) (by omega)) (by omega)
              · exact grown_set_new (grown_set_new (grown_set_new hg6.out (Nat.le_refl _)) (Nat.le_refl _)) (Nat.le_refl _)
          · obtain rfl : k = 0 := by omega
            go_wp2_with fail
            refine bodyPost_ret (v := bd W H z) (by simp [results, Try.results70, go_sem, bd, a0, a1, a2]) rfl ⟨W, H, N, z, ho.out, by omega, rfl, ?_, ?_⟩
            · exact Dr.set (Dr.set (Dr.set (b := w.heap.size) hd.out (by omega)) (by omega)) (by omega)
            · exact grown_set_new (grown_set_new (grown_set_new hg.out (Nat.le_refl _)) (Nat.le_refl _)) (Nat.le_refl _)
theorem CodeAt.below {w w' : World} {a : Option Addr} {len : Nat} (h : CodeAt w a len) (hb : Below w.heap.size w w') : CodeAt w' a len := by
  refine ⟨h.1, ?_⟩
  rcases h.2 with h | ⟨b, off, ha, hlt, hc⟩
  · exact .inl h
  · refine .inr ⟨b, off, ha, Nat.lt_of_lt_of_le hlt hb.size, fun k hk => ?_⟩
    obtain ⟨c, h1, h2⟩ := hc k hk
    exact ⟨c, h1, (hb.cell (p := ⟨b, off + k, none⟩) hlt).trans h2⟩
def DrawBoardPost (w : World) (e : Ending) (w' : World) : Prop := ∃ (W H : Int) (N z : Nat), Ok W H N z ∧ N ≤ 16 ∧ e = .returned (bd W H z) ∧ Below w.heap.size w w'
def AtPost (w : World) (e : Ending) (w' : World) : Prop := ∃ x : Nat, x ≤ 255 ∧ e = .returned (.int .i64 x) ∧ w = w'
end Go.Proofs.Ytgkmapemnlgldaa

namespace Go.Proofs.Ytgkmapemnlgldaa
open Go.RowKit
set_option linter.unusedSimpArgs false
theorem bits_ne {W H : Int} {N z : Nat} (h : Ok W H N z) : 0 < (bitsOf N z).length := by
  rcases Nat.eq_zero_or_pos (bitsOf N z).length with h0 | h0
  · have e := powSum_all h.zlt
    rw [List.eq_nil_of_length_eq_zero h0] at e
    have := h.z1
    simp [powSum] at e
    omega
  · exact h0
def SomePost (w0 : World) (a : Option Addr) (len cap p z : Nat) (w : World) (e : Ending) (w' : World) : Prop :=
  ∃ r : Nat, Part r z ∧ e = .returned (.int .i64 r) ∧ Dr w0 a len cap p w' ∧ w.grownBy w' (some p)
set_option maxHeartbeats 4000000 in
set_option maxRecDepth 100000 in
theorem somePos {w0 : World} {a : Option Addr} {len cap p N z : Nat} {W H : Int} (hcode : CodeAt w0 a len) (ho : Ok W H N z) (w : World) (hd : Dr w0 a len cap p w) :
    Calls Try.prog 57 #[.pointer (some ⟨p, 0, none⟩), .agg #[.int .i64 W, .int .i64 H, .int .i64 z]] w (SomePost w0 a len cap p z w) := by
  have HCO := Lib.hid hcode
  have HD := Lib.hid hd
  have hpw := Dr.lt hd
  have C1 := Lib.hid (fun w => specHoles ho w)
  have hz := ho.zbig
  have hN := ho.n49
  have HMEM : Hid (∀ k, k < (bitsOf N z).length → ∃ j, (bitsOf N z)[k]? = some j ∧ j < 49 ∧ bit z j = true) := fun k hk => by
    have hm := List.getElem_mem hk
    have := mem_bitsOf.1 hm
    exact ⟨_, List.getElem?_eq_getElem hk, by omega, this.2⟩
  have hn0 := bits_ne ho
  have hnle := bitsOf_le N z
  clear hd hcode ho
  go_enter Try.func57, Try.ntmps57
  go_wp2_with fail
  have hB : Below w.heap.size w (w.alloc (.cells #[.int .i64 W, .int .i64 H, .int .i64 z] 25)) := (Below.refl _ _).alloc (Nat.le_refl _) _
  have B0 := Lib.hid (box_newT 25 W H z w)
  have HD1 := Lib.hid (HD.out.below hB)
  have HG1 := Lib.hid (grown_below hB (some p))
  generalize w.alloc (.cells #[.int .i64 W, .int .i64 H, .int .i64 z] 25) = W1 at *
  obtain ⟨c0, c1, c2, hlt, hbw⟩ := B0.out
  clear hB
  go_wp2_with fail
  refine (C1.out _).mono ?_
  rintro e w1 ⟨v, rfl, hown, hb1⟩
  have HD2 := Lib.hid (HD1.out.below hb1)
  have HG2 := Lib.hid (HG1.out.trans (grown_below hb1 (some p)))
  have HO := Lib.hid hown
  have hW1 := hbw.size
  clear hown hb1 B0 c0 c1 c2 hlt hbw HD1 HG1
  obtain ⟨xs, hxs⟩ : ∃ xs, bitsOf N z = xs := ⟨_, rfl⟩
  rw [hxs] at HO HMEM hn0 hnle
  obtain ⟨n, hn⟩ : ∃ n, xs.length = n := ⟨_, rfl⟩
  rw [hn] at HO HMEM hn0 hnle
  have HN := Lib.hid hn
  clear hxs hn
  obtain ⟨g, gc, rfl⟩ := Go.Joins.ownsRow_form HO.out hn0
  have hgne : (Value.slice (some ⟨g, 0, none⟩) n gc).ownBlock = none ∨ (Value.slice (some ⟨g, 0, none⟩) n gc).ownBlock ≠ some p := by
    right
    have := (HO.out.lt g rfl).1
    intro h
    have : g = p := by simpa [Value.ownBlock] using h
    omega
  have HGN := Lib.hid hgne
  clear hgne
  go_wp2_with fail
  go_loopw [5, 7] (fun s i wr => ∃ (k r : Nat), k ≤ n ∧ i = .int .i64 k ∧ s = .int .i64 r ∧ Hid (Part r z) ∧ r < 562949953421312 ∧ Hid (Dr w0 a len cap p wr) ∧ Hid (w.grownBy wr (some p)) ∧ Hid (wr.ownsRow W1.heap.size 3 1 (.slice (some ⟨g, 0, none⟩) n gc) n (Ints xs))) (fun _ i _ => n - (intOf i).toNat)
  case atStart => exact ⟨0, 0, by omega, rfl, rfl, part_zero z, by omega, HD2, HG2, HO⟩
  case round =>
    obtain ⟨k, r, hk, rfl, rfl, hpart, hr, hd, hg, hown⟩ := hrel
    clear HD2 HG2 HO
    by_cases hkn : k < n
    · have k0 : (0 : Int) ≤ (k : Int) := by omega
      have k1 : (k : Int) < (n : Int) := by omega
      obtain ⟨j, hj, hj49, hbit⟩ := HMEM.out k hkn
      go_wp2_with fail
      refine (below HCO.out 3 _ hd.out (by omega) (by omega)).mono ?_
      rintro e w2 ⟨x, hx, rfl, hd2, hg2⟩
      have hd' := Lib.hid hd2
      have hg' := Lib.hid (hg.out.trans hg2)
      have hown' := Lib.hid (hown.out.kept hg2 HGN.out)
      clear hd2 hg2 hd hg hown
      by_cases hx0 : 0 < x
      · have x0 : (0 : Int) < (x : Int) := by omega
        have hcell : w2.cell? ⟨g, k, none⟩ = some (.int .i64 j) := own_cell hown'.out k hkn _ (by simp [Ints, hj])
        obtain ⟨q, hq, hqn, q1, q2⟩ := pow_nat j hj49
        have hand := or63 (a := r) (b := q) (by omega) (by omega)
        rw [show r ||| q = putB r j by rw [putB, hqn]] at hand
        have hpart' := Lib.hid (part_put hpart.out hbit)
        have hu : putB r j < 562949953421312 := Nat.lt_of_le_of_lt hpart'.out.le hz
        have j0 : (0 : Int) ≤ (j : Int) := by omega
        obtain ⟨u, hhu⟩ : ∃ u, putB r j = u := ⟨_, rfl⟩
        rw [hhu] at hand hu hpart'
        clear hj hbit hqn hhu
        go_wp2_with fail
        go_roundw
        case rel => exact ⟨k + 1, u, by omega, by go_num, rfl, hpart', hu, hd', hg', hown'⟩
        case measure => simp [intOf]; omega
      · have x0 : ¬ (0 : Int) < (x : Int) := by omega
        go_wp2_with fail
        go_roundw
        case rel => exact ⟨k + 1, r, by omega, by go_num, rfl, hpart, hr, hd', hg', hown'⟩
        case measure => simp [intOf]; omega
    · obtain rfl : n = k := by omega
      have hp : Hid (SomePost w0 a len cap p z w (.returned (.int .i64 r)) wr) := ⟨r, hpart.out, rfl, hd.out, hg.out⟩
      clear hd hg hown hpart
      go_wp2_with fail
      go_ret
      exact hp.out
theorem row_lt {w : World} {b : Nat} {o : Obj} (h : w.heap[b]? = some o) : b < w.heap.size := by
  rcases Nat.lt_or_ge b w.heap.size with h' | h'
  · exact h'
  · rw [Array.getElem?_eq_none h'] at h; cases h
theorem row_grown {w w' : World} {p b : Nat} {o : Obj} (h : w.heap[b]? = some o) (hg : w.grownBy w' (some p)) (hne : b ≠ p) : w'.heap[b]? = some o :=
  (hg.block b (row_lt h) (by intro h'; injection h' with h'; exact hne h')).trans h
theorem row_set3_other {w : World} {b c : Nat} {x y z : Value} {o : Obj} (h : w.heap[c]? = some o) (hne : ¬ c = b) : (set3 w b x y z).heap[c]? = some o :=
  (heap_setCell_other _ ⟨b, 2, none⟩ c _ hne).trans ((heap_setCell_other _ ⟨b, 1, none⟩ c _ hne).trans ((heap_setCell_other _ ⟨b, 0, none⟩ c _ hne).trans h))
theorem own_kept {w w' : World} {b n p : Nat} {e : TypeId} {size : Nat} {v : Value} {xs : List Value} (h : w.ownsRow b e size v n xs) (hg : w.grownBy w' (some p)) (hp : p < b) : w'.ownsRow b e size v n xs :=
  h.kept hg (by
    cases hv : v.ownBlock with
    | none => exact .inl rfl
    | some g => right; intro h'; have := (h.lt g hv).1; injection h' with h'; omega)
theorem closed_dr {w0 : World} {a : Option Addr} {len cap p : Nat} : Closed (Dr w0 a len cap p) := fun _ _ h k => h.below k
theorem closed_grown {w : World} {p : Nat} : Closed (fun w' => w.grownBy w' (some p)) := fun _ _ h k => World.grownBy.trans h (grown_below k _)
theorem lines_at' {w : World} {B n gc : Nat} {ga : Option Addr} {xs : List Value} {T : TypeId} {s : Nat} (h : w.ownsRow B T s (.slice ga n gc) n xs) (h0 : 0 < n) : ∃ g, ga = some ⟨g, 0, none⟩ := by
  rcases Go.Joins.ownsRow_forms h with ⟨h1, h2⟩ | ⟨g, cap, h1⟩
  · omega
  · injection h1 with h1 h2 h3; exact ⟨g, h1⟩
theorem grown_then {w w' w'' : World} {p B : Nat} (h : w.grownBy w' (some p)) (hb : Below B w' w'') (hB : w.heap.size ≤ B) : w.grownBy w'' (some p) :=
  ⟨hb.os.trans h.os, hb.tape.trans h.tape, hb.output.trans h.output, Nat.le_trans h.size hb.size, fun k hk hr => (hb.block k (Nat.lt_of_lt_of_le hk hB)).trans (h.block k hk hr)⟩
theorem Dr.kept {w0 w w' : World} {a : Option Addr} {len cap p B : Nat} (h : Dr w0 a len cap p w) (hb : Below B w w') (hp : p < B) : Dr w0 a len cap p w' := by
  obtain ⟨h1, h2, i, x, hi, hc⟩ := h
  exact ⟨h1, h2.trans (hb.mono (by omega)), i, x, hi, (hb.block p hp).trans hc⟩
def DrawPosPost (w : World) (e : Ending) (w' : World) : Prop :=
  ∃ (W H : Int) (N z r : Nat), Ok W H N z ∧ N ≤ 16 ∧ Part r z ∧ e = .returned (.tuple #[bd W H z, .int .i64 r]) ∧ Below w.heap.size w w'
/-- What stands while the position is drawn: the board's block, the result's block, the cursor. -/
def HeldPos (w0 : World) (a : Option Addr) (len cap p b : Nat) (x y z : Int) (w : World) : Prop := Dr w0 a len cap p w ∧ w.heap[b]? = some (.cells #[.int .i64 x, .int .i64 y, .int .i64 z] 25 (0, 0))
theorem closed_held {w0 : World} {a : Option Addr} {len cap p b : Nat} {x y z : Int} : Closed (HeldPos w0 a len cap p b x y z) := fun _ _ h k => ⟨h.1.below k, closed_row b _ _ _ h.2 k⟩
end Go.Proofs.Ytgkmapemnlgldaa
