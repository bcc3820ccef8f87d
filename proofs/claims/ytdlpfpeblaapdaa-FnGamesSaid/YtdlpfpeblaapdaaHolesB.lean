/- HolesOf of the program, HasHole of both. -/
import Derived.Test.YtdlpfpeblaapdaaHolesA
namespace Go.Proofs.Ytdlpfpeblaapdaa
open Go.RowKit
theorem Box.kept {b : Nat} {W H Z : Int} {w0 w w' : World} {B : Nat} (h : Box b W H Z w0 w) (hb : Below B w w') (hB : b < B) (h0 : w0.heap.size ≤ B) : Box b W H Z w0 w' :=
  ⟨(hb.cell (p := ⟨b, 0, none⟩) hB).trans h.1, (hb.cell (p := ⟨b, 1, none⟩) hB).trans h.2.1, (hb.cell (p := ⟨b, 2, none⟩) hB).trans h.2.2.1, Nat.lt_of_lt_of_le h.2.2.2.1 hb.size, h.2.2.2.2.trans (hb.mono h0)⟩
/-- Whether an index is that of a hole. -/
def holeB (W H Z k : Int) : Bool := okB W H Z && inB k 0 (W * H - 1) && bit Z.toNat k.toNat
theorem holeB_no {W H Z k : Int} (h : okB W H Z = false) : holeB W H Z k = false := by simp [holeB, h]
theorem holeB_out {W H k : Int} {N z : Nat} (h : Ok W H N z) (hk : k < 0 ∨ (N : Int) ≤ k) : holeB W H z k = false := by
  have e : inB k 0 (W * H - 1) = false := by
    rw [h.wh]
    simp only [inB, Bool.and_eq_false_iff, decide_eq_false_iff_not]
    omega
  simp [holeB, e]
theorem holeB_in {W H : Int} {N z k : Nat} (h : Ok W H N z) (hk : k < N) : holeB W H z k = bit z k := by
  have e : inB k 0 (W * H - 1) = true := by
    rw [h.wh]
    simp only [inB, Bool.and_eq_true, decide_eq_true_eq]
    omega
  simp [holeB, e, h.ok]
set_option maxRecDepth 100000 in
theorem implHole_no {W H Z : Int} (h : okB W H Z = false) (k : Int) (w : World) : Calls Try.prog 72 #[.agg #[.int .i64 W, .int .i64 H, .int .i64 Z], .int .i64 k] w fun e w' => e = .returned (.bool false) ∧ Below w.heap.size w w' := by
  have C1 := Lib.hid (implOk_no h)
  clear h
  go_enter Try.func72, Try.ntmps72
  go_wp2_with fail
  have B0 := Lib.hid (box_new W H Z w)
  generalize w.alloc (.cells #[.int .i64 W, .int .i64 H, .int .i64 Z] 25) = W1 at *
  refine (C1.out _).mono ?_
  rintro e w1 ⟨rfl, hb⟩
  have B1 := Lib.hid (B0.out.later hb)
  clear hb
  go_wp2_with fail
  go_ret
  exact ⟨rfl, B1.out.2.2.2.2⟩
set_option maxRecDepth 100000 in
theorem implHole_neg {W H k : Int} {N z : Nat} (h : Ok W H N z) (hk : k < 0) (w : World) : Calls Try.prog 72 #[.agg #[.int .i64 W, .int .i64 H, .int .i64 z], .int .i64 k] w fun e w' => e = .returned (.bool false) ∧ Below w.heap.size w w' := by
  have C1 := Lib.hid (implOk_yes h)
  clear h
  go_enter Try.func72, Try.ntmps72
  go_wp2_with fail
  have B0 := Lib.hid (box_new W H z w)
  generalize w.alloc (.cells #[.int .i64 W, .int .i64 H, .int .i64 z] 25) = W1 at *
  refine (C1.out _).mono ?_
  rintro e w1 ⟨rfl, hb⟩
  obtain ⟨c0, c1, c2, hlt, hb1⟩ := B0.out.later hb
  clear hb B0
  go_wp2_with fail
  go_ret
  exact ⟨rfl, hb1⟩
set_option maxRecDepth 100000 in
theorem implHole_far {W H k : Int} {N z : Nat} (h : Ok W H N z) (hk : (N : Int) ≤ k) (w : World) : Calls Try.prog 72 #[.agg #[.int .i64 W, .int .i64 H, .int .i64 z], .int .i64 k] w fun e w' => e = .returned (.bool false) ∧ Below w.heap.size w w' := by
  have C1 := Lib.hid (implOk_yes h)
  have C2 := Lib.hid (fun w => implSize W H z w N h.wh h.n49)
  clear h
  go_enter Try.func72, Try.ntmps72
  go_wp2_with fail
  have B0 := Lib.hid (box_new W H z w)
  generalize w.alloc (.cells #[.int .i64 W, .int .i64 H, .int .i64 z] 25) = W1 at *
  refine (C1.out _).mono ?_
  rintro e w1 ⟨rfl, hb⟩
  have B1 := Lib.hid (B0.out.later hb)
  obtain ⟨c0, c1, c2, hlt, hb1⟩ := B0.out.later hb
  clear hb B0
  go_wp2_with fail
  refine (C2.out _).mono ?_
  rintro e w2 ⟨rfl, hb2⟩
  have B2 := Lib.hid (B1.out.later hb2)
  clear c0 c1 c2 hlt hb1 hb2
  go_wp2_with fail
  go_ret
  exact ⟨rfl, B2.out.2.2.2.2⟩
set_option maxRecDepth 100000 in
theorem implHole_in {W H : Int} {N z k : Nat} (h : Ok W H N z) (hk : k < N) (w : World) : Calls Try.prog 72 #[.agg #[.int .i64 W, .int .i64 H, .int .i64 z], .int .i64 k] w fun e w' => e = .returned (.bool (bit z k)) ∧ Below w.heap.size w w' := by
  have C1 := Lib.hid (implOk_yes h)
  have hn := h.n49
  have C2 := Lib.hid (fun w => implSize W H z w N h.wh h.n49)
  have C3 := Lib.hid (fun w => implBit W H z k w (by omega))
  clear h
  go_enter Try.func72, Try.ntmps72
  go_wp2_with fail
  have B0 := Lib.hid (box_new W H z w)
  generalize w.alloc (.cells #[.int .i64 W, .int .i64 H, .int .i64 z] 25) = W1 at *
  refine (C1.out _).mono ?_
  rintro e w1 ⟨rfl, hb⟩
  have B1 := Lib.hid (B0.out.later hb)
  obtain ⟨c0, c1, c2, hlt, hb1⟩ := B0.out.later hb
  clear hb B0
  go_wp2_with fail
  refine (C2.out _).mono ?_
  rintro e w2 ⟨rfl, hb2⟩
  have B2 := Lib.hid (B1.out.later hb2)
  clear c0 c1 c2 hlt hb1 hb2 B1
  obtain ⟨c0, c1, c2, hlt, hb1⟩ := B2.out
  go_wp2_with fail
  refine (C3.out _).mono ?_
  rintro e w3 ⟨rfl, hb3⟩
  have B3 := Lib.hid (B2.out.later hb3)
  clear c0 c1 c2 hlt hb1 hb3 B2
  go_wp2_with fail
  go_ret
  exact ⟨rfl, B3.out.2.2.2.2⟩
theorem holeCases (W H Z k : Int) : okB W H Z = false ∨ ∃ N z : Nat, Z = z ∧ Ok W H N z ∧ (k < 0 ∨ (N : Int) ≤ k ∨ ∃ j : Nat, k = j ∧ j < N) := by
  cases h : okB W H Z
  · exact .inl rfl
  · right
    obtain ⟨N, z, rfl, ho⟩ := ok_of h
    refine ⟨N, z, rfl, ho, ?_⟩
    rcases Int.lt_or_le k 0 with h0 | h0
    · exact .inl h0
    · obtain ⟨j, rfl⟩ := Int.eq_ofNat_of_zero_le h0
      rcases Nat.lt_or_ge j N with h1 | h1
      · exact .inr (.inr ⟨j, rfl, h1⟩)
      · exact .inr (.inl (by omega))
theorem implHole (W H Z k : Int) (w : World) : Calls Try.prog 72 #[.agg #[.int .i64 W, .int .i64 H, .int .i64 Z], .int .i64 k] w fun e w' => e = .returned (.bool (holeB W H Z k)) ∧ Below w.heap.size w w' := by
  rcases holeCases W H Z k with h | ⟨N, z, rfl, ho, h | h | ⟨j, rfl, h⟩⟩
  · rw [holeB_no h]; exact implHole_no h k w
  · rw [holeB_out ho (.inl h)]; exact implHole_neg ho h w
  · rw [holeB_out ho (.inr h)]; exact implHole_far ho h w
  · rw [holeB_in ho h]; exact implHole_in ho h w
end Go.Proofs.Ytdlpfpeblaapdaa
