/- What is reached, of the model: l14List, IsSmall, ReachOf, CanReach, CountReach, for every three ints and ints up to 2^63 - 1. -/
import Derived.Test.YtkenlighpelhiaaGreatReachA
namespace Go.Proofs.YtkenlighpelhiaaGreat
open Go.RowKit
set_option linter.unusedVariables false
set_option linter.unusedSimpArgs false
theorem one_form {w : World} {b n : Nat} {e : TypeId} {v : Value} {xs : List Value} (h : w.ownsRow b e 1 v n xs) : ∃ a c, v = .slice a n c := by
  rcases Go.Joins.ownsRow_forms h with ⟨rfl, rfl⟩ | ⟨g, cap, rfl⟩
  · exact ⟨_, _, rfl⟩
  · exact ⟨_, _, rfl⟩
theorem one_block {w : World} {b n c : Nat} {a : Option Addr} {e : TypeId} {xs : List Value} (h : w.ownsRow b e 1 (.slice a n c) n xs) (hn : 0 < n) : ∃ g, a = some ⟨g, 0, none⟩ := by
  rcases Go.Joins.ownsRow_forms h with ⟨h1, h2⟩ | ⟨g, cap, h1⟩
  · omega
  · injection h1 with h1 h2 h3; exact ⟨g, h1⟩
theorem filter_range_succ (s : Nat → Bool) (k : Nat) : (List.range (k + 1)).filter s = (List.range k).filter s ++ (if s k = true then [k] else []) := by
  rw [List.range_succ, List.filter_append]
  congr 1
  cases h : s k <;> simp [h]
set_option maxRecDepth 100000 in
theorem specSmall (W H Z : Int) (w : World) : Calls Tryz.prog 15 #[.agg #[.int .i64 W, .int .i64 H, .int .i64 Z]] w (QB (smallB W H Z) w) := by
  have CO := Lib.hid (fun w => specOk W H Z w)
  cases ho : okB W H Z
  · have HG : Hid (smallB W H Z = false) := by unfold Hid smallB; rw [ho]; rfl
    rw [ho] at CO
    clear ho
    go_enter Tryz.func15, Tryz.ntmps15
    go_wp2_with fail
    have B0 := Lib.hid (box_new W H Z w)
    generalize w.alloc (.cells #[.int .i64 W, .int .i64 H, .int .i64 Z] 25) = W1 at *
    obtain ⟨c0, c1, c2, hlt, hb1⟩ := B0.out
    go_wp2_with fail
    refine (CO.out _).mono ?_
    rintro e w1 ⟨rfl, hb⟩
    have B1 := Lib.hid (B0.out.later hb)
    clear hb
    go_wp2_with fail
    go_ret
    exact ⟨ret_bool HG.out.symm, B1.out.2.2.2.2⟩
  · have HG : Hid (smallB W H Z = decide (W * H ≤ 16)) := by unfold Hid smallB; rw [ho]; rfl
    rw [ho] at CO
    obtain ⟨a, b, N, z, rfl, rfl, rfl, ok⟩ := okNat ho
    have hN := ok.nat.1
    have h49 := ok.n49
    have hmul : (a : Int) * (b : Int) = (N : Int) := by rw [← Int.natCast_mul, hN]
    rw [hmul] at HG
    clear ho ok hN
    go_enter Tryz.func15, Tryz.ntmps15
    go_wp2_with fail
    have B0 := Lib.hid (box_new a b z w)
    generalize w.alloc (.cells #[.int .i64 (a : Int), .int .i64 (b : Int), .int .i64 (z : Int)] 25) = W1 at *
    obtain ⟨c0, c1, c2, hlt, hb1⟩ := B0.out
    go_wp2_with fail
    refine (CO.out _).mono ?_
    rintro e w1 ⟨rfl, hb⟩
    have B1 := Lib.hid (B0.out.later hb)
    clear hb c0 c1 c2 hlt hb1
    obtain ⟨c0, c1, c2, hlt, hb1⟩ := B1.out
    go_wp2_with fail
    go_ret
    exact ⟨ret_bool (by rw [HG.out]), hb1⟩
theorem specSmall_is {W H Z : Int} {b : Bool} (h : smallB W H Z = b) (w : World) : Calls Tryz.prog 15 #[.agg #[.int .i64 W, .int .i64 H, .int .i64 Z]] w (QB b w) := by rw [← h]; exact specSmall W H Z w
theorem specSeenL {W H Z P : Int} (back : Bool) (h1 : smallB W H Z = true) (h2 : posB W H Z P = true) : ∃ M : Nat, M ≤ 65536 ∧ 2 ^ (W * H).toNat = M ∧ (∀ G, posB W H Z G = true → ∃ q : Nat, G = q ∧ q < M) ∧ ∀ w, Calls Tryz.prog 28 #[.agg #[.int .i64 W, .int .i64 H, .int .i64 Z], .int .i64 P, .bool back] w (SeenPost M (seenB back W H Z P) w) := by
  obtain ⟨a, b, N, z, rfl, rfl, rfl, ho, hN, h16⟩ := small_nat h1
  obtain ⟨N', z', p, e1, rfl, ho', hp⟩ := pos_yes h2
  obtain rfl : z = z' := by omega
  refine ⟨2 ^ N, Nat.pow_le_pow_right (by decide) h16, by rw [← Int.natCast_mul, hN, Int.toNat_natCast], fun G hG => ?_, fun w => specSeen back ho h16 hp w⟩
  obtain ⟨N2, z2, q, e2, rfl, ho2, hq⟩ := pos_yes hG
  obtain rfl : z = z2 := by omega
  exact ⟨q, rfl, part_lt hq ho.zlt⟩
end Go.Proofs.YtkenlighpelhiaaGreat
