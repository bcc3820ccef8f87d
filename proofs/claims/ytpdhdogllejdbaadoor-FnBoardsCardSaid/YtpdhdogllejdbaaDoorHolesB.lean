/- HolesOf of the program, HasHole of both. -/
import Derived.Test.YtpdhdogllejdbaaDoorHolesA
namespace Go.Proofs.YtpdhdogllejdbaaDoor
open Go.RowKit
theorem implHoles_no {W H Z : Int} (h : okB W H Z = false) (w : World) : Calls Tryd.prog 7 #[.agg #[.int .i64 W, .int .i64 H, .int .i64 Z]] w (OwnInts [] w) := by
  have C1 := Lib.hid (implOk_no h)
  clear h
  go_enter Tryd.func7, Tryd.ntmps7
  go_wp2_with fail
  have B0 := Lib.hid (box_new W H Z w)
  generalize w.alloc (.cells #[.int .i64 W, .int .i64 H, .int .i64 Z] 25) = W1 at *
  refine (C1.out _).mono ?_
  rintro e w1 ⟨rfl, hb⟩
  have B1 := Lib.hid (B0.out.later hb)
  have hp : Hid (OwnInts [] w (.returned (.slice none 0 0)) w1) := ⟨_, rfl, World.ownsRow_nil _ _ _ _, B1.out.2.2.2.2⟩
  go_wp2_with fail
  go_ret
  exact hp.out
theorem Box.kept {b : Nat} {W H Z : Int} {w0 w w' : World} {B : Nat} (h : Box b W H Z w0 w) (hb : Below B w w') (hB : b < B) (h0 : w0.heap.size ≤ B) : Box b W H Z w0 w' :=
  ⟨(hb.cell (p := ⟨b, 0, none⟩) hB).trans h.1, (hb.cell (p := ⟨b, 1, none⟩) hB).trans h.2.1, (hb.cell (p := ⟨b, 2, none⟩) hB).trans h.2.2.1, Nat.lt_of_lt_of_le h.2.2.2.1 hb.size, h.2.2.2.2.trans (hb.mono h0)⟩
set_option maxHeartbeats 1000000 in
set_option maxRecDepth 100000 in
theorem implHoles {W H : Int} {N z : Nat} (h : Ok W H N z) (w : World) : Calls Tryd.prog 7 #[.agg #[.int .i64 W, .int .i64 H, .int .i64 z]] w (OwnInts (bitsOf N z) w) := by
  have C1 := Lib.hid (implOk_yes h)
  have C2 := Lib.hid (implCount h)
  have C3 := Lib.hid (fun w => implSize W H z w N h.wh h.n49)
  have C4 := Lib.hid (fun k w (hk : k < 49) => implBit W H z k w hk)
  have hn := h.n49
  have hle := bitsOf_le N z
  obtain ⟨i0, hi, hz0, hz1, hz2⟩ : ∃ i, Tryd.prog.info? 3 = some i ∧ i.zero = some (.int .i64 0) ∧ i.size = 1 ∧ i.bytes = 8 := ⟨_, by rfl, by rfl, by rfl, by rfl⟩
  clear h
  go_enter Tryd.func7, Tryd.ntmps7
  go_wp2_with fail
  have B0 := Lib.hid (box_new W H z w)
  generalize w.alloc (.cells #[.int .i64 W, .int .i64 H, .int .i64 z] 25) = W1 at *
  refine (C1.out _).mono ?_
  rintro e w1 ⟨rfl, hb⟩
  have B1 := Lib.hid (B0.out.later hb)
  obtain ⟨c0, c1, c2, hlt, hb1⟩ := B0.out.later hb
  clear hb B0
  go_wp2_with fail
  refine (C2.out _).mono ?_
  rintro e w2 ⟨rfl, hb2⟩
  have B2 := Lib.hid (B1.out.later hb2)
  clear c0 c1 c2 hlt hb1 hb2 B1
  obtain ⟨c0, c1, c2, hlt, hb2⟩ := B2.out
  obtain ⟨n, hnn⟩ : ∃ n, (bitsOf N z).length = n := ⟨_, rfl⟩
  rw [hnn] at hle ⊢
  clear hnn
  obtain ⟨w3, hmk, hrow, hg3⟩ := run_make_own (P := Tryd.prog) w2 (w.heap.size + 1) 27 3 i0 (.int .i64 0) 1 Tryd.underlying27 hi hz0 hz1 .i64 .i64 n (by rw [hz2]; omega) (by unfold maxLen; omega) hlt
  have hk3 : Below w2.heap.size w2 w3 := ⟨hg3.os, hg3.tape, hg3.output, hg3.size, fun j hj => hg3.block j hj (by simp)⟩
  have B3 := Lib.hid (B2.out.later hk3)
  have HR := Lib.hid hrow
  clear hrow hg3 hk3 hb2 B2
  clear c0 c1 c2 hlt
  obtain ⟨c0, c1, c2, hlt, hb3⟩ := B3.out
  go_wp2_with fail
  clear hmk
  refine (C3.out _).mono ?_
  rintro e w4 ⟨rfl, hb4⟩
  have B4 := Lib.hid (B3.out.later hb4)
  have HR4 := Lib.hid (own_below HR.out hb4)
  clear c0 c1 c2 hlt hb3 hb4 B3 HR
  go_wp2_with fail
  go_loopw [3, 13] (fun s i wr => ∃ (k : Nat) (v : Value), k ≤ N ∧ i = .int .i64 k ∧ s = v ∧ Hid (wr.ownsRow (w.heap.size + 1) 3 1 v (bitsOf k z).length (Ints (bitsOf k z))) ∧ Hid (Box w.heap.size W H z w wr)) (fun _ i _ => N - (intOf i).toNat)
  case atStart => exact ⟨0, _, by omega, rfl, rfl, HR4, B4⟩
  case round =>
    obtain ⟨k, v, hk, rfl, rfl, ho, hbx⟩ := hrel
    obtain ⟨c0, c1, c2, hlt, hb5⟩ := hbx.out
    by_cases hkn : k < N
    · have hk49 : k < 49 := by omega
      go_wp2_with fail
      refine (C4.out k _ hk49).mono ?_
      rintro e w5 ⟨rfl, hb6⟩
      have hbx1 := Lib.hid (hbx.out.later hb6)
      have ho1 := Lib.hid (own_below ho.out hb6)
      clear c0 c1 c2 hlt hb5 hb6 hbx ho
      cases hbit : bit z k
      · have hl := Lib.hid (bitsOf_no hbit)
        clear hbit
        go_wp2_with fail
        go_roundw
        case rel => exact ⟨k + 1, _, by omega, by go_num, rfl, by unfold Hid; rw [hl.out]; exact ho1.out, hbx1⟩
        case measure => simp [intOf]; omega
      · have hl := Lib.hid (bitsOf_yes hbit)
        have hln : Hid ((bitsOf k z).length ≤ 1000000000) := by unfold Hid; have := bitsOf_le k z; omega
        have hbz := hbx1.out.2.2.2.1
        clear hbit
        go_wp2_with (at_builtin; refine wpList_append_one rfl (.tmp 19) (.tmp 21) 27 rfl (w.heap.size + 1) 3 i0 (.int .i64 0) 8 Tryd.underlying27 hi hz0 hz1 hz2 rfl (by decide) _ _ _ rfl ho1.out rfl rfl hln.out hbz ?_; intro g' cap' w6 hown' hgrow hb2)
        have ho' : Hid (w6.ownsRow (w.heap.size + 1) 3 1 (.slice (some ⟨g', 0, none⟩) ((bitsOf k z).length + 1) cap') (bitsOf (k + 1) z).length (Ints (bitsOf (k + 1) z))) := by
          unfold Hid
          rw [hl.out, Ints_snoc, List.length_append]
          exact hown'
        have hbx2 := Lib.hid (hbx1.out.kept hb2 (Nat.lt_succ_self _) (Nat.le_succ _))
        clear hown' hgrow hb2 hbz
        go_wp2_with fail
        go_roundw
        case rel => exact ⟨k + 1, _, by omega, by go_num, rfl, ho', hbx2⟩
        case measure => simp [intOf]; omega
    · obtain rfl : k = N := by omega
      have hp : Hid (OwnInts (bitsOf k z) w (.returned _) wr) := ⟨_, rfl, own_base ho.out (Nat.le_succ _), hb5⟩
      clear ho hb5 hbx c0 c1 c2 hlt
      go_wp2_with fail
      go_ret
      exact hp.out

/-- Whether an index is that of a hole. -/
def holeB (W H Z k : Int) : Bool := okB W H Z && inB k 0 (W * H - 1) && bit Z.toNat k.toNat
theorem holeB_no {W H Z k : Int} (h : okB W H Z = false) : holeB W H Z k = false := by simp [holeB, h]
theorem holeB_out {W H k : Int} {N z : Nat} (h : Ok W H N z) (hk : k < 0 ∨ (N : Int) ≤ k) : holeB W H z k = false := by
  have e : inB k 0 (W * H - 1) = false := by
    rw [h.wh]
    simp only [inB, Bool.and_eq_false_iff, decide_eq_false_iff_not]
    omega
  simp [holeB, e]
theorem holeB_in {W H : Int} {N z k : Nat} (h : Ok W H N z) (hk : k < N) : holeB W H z k = bit z k := by
  have e : inB k 0 (W * H - 1) = true := by
    rw [h.wh]
    simp only [inB, Bool.and_eq_true, decide_eq_true_eq]
    omega
  simp [holeB, e, h.ok]
set_option maxRecDepth 100000 in
theorem specHole_no {W H Z : Int} (h : okB W H Z = false) (k : Int) (w : World) : Calls Tryd.prog 8 #[.agg #[.int .i64 W, .int .i64 H, .int .i64 Z], .int .i64 k] w fun e w' => e = .returned (.bool false) ∧ Below w.heap.size w w' := by
  have C1 := Lib.hid (specOk_no h)
  clear h
  go_enter Tryd.func8, Tryd.ntmps8
  go_wp2_with fail
  have B0 := Lib.hid (box_new W H Z w)
  generalize w.alloc (.cells #[.int .i64 W, .int .i64 H, .int .i64 Z] 25) = W1 at *
  refine (C1.out _).mono ?_
  rintro e w1 ⟨rfl, hb⟩
  have B1 := Lib.hid (B0.out.later hb)
  clear hb
  go_wp2_with fail
  go_ret
  exact ⟨rfl, B1.out.2.2.2.2⟩
set_option maxRecDepth 100000 in
theorem implHole_no {W H Z : Int} (h : okB W H Z = false) (k : Int) (w : World) : Calls Tryd.prog 9 #[.agg #[.int .i64 W, .int .i64 H, .int .i64 Z], .int .i64 k] w fun e w' => e = .returned (.bool false) ∧ Below w.heap.size w w' := by
  have C1 := Lib.hid (implOk_no h)
  clear h
  go_enter Tryd.func9, Tryd.ntmps9
  go_wp2_with fail
  have B0 := Lib.hid (box_new W H Z w)
  generalize w.alloc (.cells #[.int .i64 W, .int .i64 H, .int .i64 Z] 25) = W1 at *
  refine (C1.out _).mono ?_
  rintro e w1 ⟨rfl, hb⟩
  have B1 := Lib.hid (B0.out.later hb)
  clear hb
  go_wp2_with fail
  go_ret
  exact ⟨rfl, B1.out.2.2.2.2⟩
set_option maxRecDepth 100000 in
theorem specHole_out {W H k : Int} {N z : Nat} (h : Ok W H N z) (hk : k < 0 ∨ (N : Int) ≤ k) (w : World) : Calls Tryd.prog 8 #[.agg #[.int .i64 W, .int .i64 H, .int .i64 z], .int .i64 k] w fun e w' => e = .returned (.bool false) ∧ Below w.heap.size w w' := by
  have C1 := Lib.hid (specOk_yes h)
  have hn := h.n49
  have hwh := h.wh
  have C2 := Lib.hid (fun w => specIn k 0 ((N : Int) - 1) w)
  have e : inB k 0 ((N : Int) - 1) = false := by
    simp only [inB, Bool.and_eq_false_iff, decide_eq_false_iff_not]
    omega
  rw [e] at C2
  clear h e hk
  go_enter Tryd.func8, Tryd.ntmps8
  go_wp2_with fail
  have B0 := Lib.hid (box_new W H z w)
  generalize w.alloc (.cells #[.int .i64 W, .int .i64 H, .int .i64 z] 25) = W1 at *
  refine (C1.out _).mono ?_
  rintro e w1 ⟨rfl, hb⟩
  obtain ⟨c0, c1, c2, hlt, hb1⟩ := B0.out.later hb
  clear hb B0
  go_wp2_with fail
  refine (C2.out _).mono ?_
  rintro e w2 ⟨rfl, rfl⟩
  go_wp2_with fail
  go_ret
  exact ⟨rfl, hb1⟩
set_option maxRecDepth 100000 in
theorem specHole_in {W H : Int} {N z k : Nat} (h : Ok W H N z) (hk : k < N) (w : World) : Calls Tryd.prog 8 #[.agg #[.int .i64 W, .int .i64 H, .int .i64 z], .int .i64 k] w fun e w' => e = .returned (.bool (bit z k)) ∧ Below w.heap.size w w' := by
  have C1 := Lib.hid (specOk_yes h)
  have hn := h.n49
  have hwh := h.wh
  have hand := hand1
  have C2 := Lib.hid (fun w => specIn k 0 ((N : Int) - 1) w)
  have e : inB k 0 ((N : Int) - 1) = true := by
    simp only [inB, Bool.and_eq_true, decide_eq_true_eq]
    omega
  rw [e] at C2
  have hbit : Hid (∀ b, ((z : Int) / 2 ^ k % 2 == 1) = b → b = bit z k) := fun b h => by rw [← h, bit_int]
  clear h e
  go_enter Tryd.func8, Tryd.ntmps8
  go_wp2_with fail
  have B0 := Lib.hid (box_new W H z w)
  generalize w.alloc (.cells #[.int .i64 W, .int .i64 H, .int .i64 z] 25) = W1 at *
  refine (C1.out _).mono ?_
  rintro e w1 ⟨rfl, hb⟩
  obtain ⟨c0, c1, c2, hlt, hb1⟩ := B0.out.later hb
  clear hb B0
  go_wp2_with fail
  refine (C2.out _).mono ?_
  rintro e w2 ⟨rfl, rfl⟩
  go_wp2_with fail
  go_ret
  exact ⟨ret_bool (hbit.out _ rfl), hb1⟩
set_option maxRecDepth 100000 in
theorem implIdx_neg (W H Z : Int) {k : Int} (hk : k < 0) (w : World) : Calls Tryd.prog 24 #[.agg #[.int .i64 W, .int .i64 H, .int .i64 Z], .int .i64 k] w fun e w' => e = .returned (.bool false) ∧ Below w.heap.size w w' := by
  go_enter Tryd.func24, Tryd.ntmps24
  go_wp2_with fail
  go_ret
  exact ⟨rfl, (Below.refl _ _).alloc (Nat.le_refl _) _⟩
/-- Whether a number that is not negative is an index of the grid. -/
theorem implIdx_nat {W H : Int} {N : Nat} (Z : Int) (hN : W * H = N) (h49 : N ≤ 49) (k : Int) (hk : 0 ≤ k) (b : Bool) (hb : b = decide (k < (N : Int))) (w : World) : Calls Tryd.prog 24 #[.agg #[.int .i64 W, .int .i64 H, .int .i64 Z], .int .i64 k] w fun e w' => e = .returned (.bool b) ∧ Below w.heap.size w w' := by
  have C2 := Lib.hid (fun w => implSize W H Z w N hN h49)
  have HB := Lib.hid hb.symm
  clear hb hN
  go_enter Tryd.func24, Tryd.ntmps24
  go_wp2_with fail
  have B0 := Lib.hid (box_new W H Z w)
  generalize w.alloc (.cells #[.int .i64 W, .int .i64 H, .int .i64 Z] 25) = W1 at *
  obtain ⟨c0, c1, c2, hlt, hb1⟩ := B0.out
  go_wp2_with fail
  refine (C2.out _).mono ?_
  rintro e w2 ⟨rfl, hb2⟩
  have B2 := Lib.hid (B0.out.later hb2)
  clear c0 c1 c2 hlt hb1 hb2
  by_cases hkn : k < (N : Int)
  · have HB2 : Hid (b = true) := by unfold Hid; rw [← HB.out]; simp [hkn]
    go_wp2_with fail
    go_ret
    exact ⟨ret_bool HB2.out.symm, B2.out.2.2.2.2⟩
  · have HB2 : Hid (b = false) := by unfold Hid; rw [← HB.out]; simp [hkn]
    go_wp2_with fail
    go_ret
    exact ⟨ret_bool (by first | exact HB.out | exact HB2.out.symm), B2.out.2.2.2.2⟩
set_option maxRecDepth 100000 in
theorem implHole_neg {W H k : Int} {N z : Nat} (h : Ok W H N z) (hk : k < 0) (w : World) : Calls Tryd.prog 9 #[.agg #[.int .i64 W, .int .i64 H, .int .i64 z], .int .i64 k] w fun e w' => e = .returned (.bool false) ∧ Below w.heap.size w w' := by
  have C1 := Lib.hid (implOk_yes h)
  have C2 := Lib.hid (fun w => implIdx_neg W H z hk w)
  clear h
  go_enter Tryd.func9, Tryd.ntmps9
  go_wp2_with fail
  have B0 := Lib.hid (box_new W H z w)
  generalize w.alloc (.cells #[.int .i64 W, .int .i64 H, .int .i64 z] 25) = W1 at *
  refine (C1.out _).mono ?_
  rintro e w1 ⟨rfl, hb⟩
  have B1 := Lib.hid (B0.out.later hb)
  obtain ⟨c0, c1, c2, hlt, hb1⟩ := B0.out.later hb
  clear hb B0
  go_wp2_with fail
  refine (C2.out _).mono ?_
  rintro e w2 ⟨rfl, hb2⟩
  have B2 := Lib.hid (B1.out.later hb2)
  clear c0 c1 c2 hlt hb1 hb2
  go_wp2_with fail
  go_ret
  exact ⟨rfl, B2.out.2.2.2.2⟩
set_option maxRecDepth 100000 in
theorem implHole_far {W H k : Int} {N z : Nat} (h : Ok W H N z) (hk : (N : Int) ≤ k) (w : World) : Calls Tryd.prog 9 #[.agg #[.int .i64 W, .int .i64 H, .int .i64 z], .int .i64 k] w fun e w' => e = .returned (.bool false) ∧ Below w.heap.size w w' := by
  have C1 := Lib.hid (implOk_yes h)
  have C2 := Lib.hid (fun w => implIdx_nat z h.wh h.n49 k (by omega) false (by rw [decide_eq_false (by omega)]) w)
  clear h
  go_enter Tryd.func9, Tryd.ntmps9
  go_wp2_with fail
  have B0 := Lib.hid (box_new W H z w)
  generalize w.alloc (.cells #[.int .i64 W, .int .i64 H, .int .i64 z] 25) = W1 at *
  refine (C1.out _).mono ?_
  rintro e w1 ⟨rfl, hb⟩
  have B1 := Lib.hid (B0.out.later hb)
  obtain ⟨c0, c1, c2, hlt, hb1⟩ := B0.out.later hb
  clear hb B0
  go_wp2_with fail
  refine (C2.out _).mono ?_
  rintro e w2 ⟨rfl, hb2⟩
  have B2 := Lib.hid (B1.out.later hb2)
  clear c0 c1 c2 hlt hb1 hb2
  go_wp2_with fail
  go_ret
  exact ⟨rfl, B2.out.2.2.2.2⟩
set_option maxRecDepth 100000 in
theorem implHole_in {W H : Int} {N z k : Nat} (h : Ok W H N z) (hk : k < N) (w : World) : Calls Tryd.prog 9 #[.agg #[.int .i64 W, .int .i64 H, .int .i64 z], .int .i64 k] w fun e w' => e = .returned (.bool (bit z k)) ∧ Below w.heap.size w w' := by
  have C1 := Lib.hid (implOk_yes h)
  have hn := h.n49
  have C2 := Lib.hid (fun w => implIdx_nat z h.wh h.n49 (k : Int) (by omega) true (by rw [decide_eq_true (by omega)]) w)
  have C3 := Lib.hid (fun w => implBit W H z k w (by omega))
  clear h
  go_enter Tryd.func9, Tryd.ntmps9
  go_wp2_with fail
  have B0 := Lib.hid (box_new W H z w)
  generalize w.alloc (.cells #[.int .i64 W, .int .i64 H, .int .i64 z] 25) = W1 at *
  refine (C1.out _).mono ?_
  rintro e w1 ⟨rfl, hb⟩
  have B1 := Lib.hid (B0.out.later hb)
  obtain ⟨c0, c1, c2, hlt, hb1⟩ := B0.out.later hb
  clear hb B0
  go_wp2_with fail
  refine (C2.out _).mono ?_
  rintro e w2 ⟨rfl, hb2⟩
  have B2 := Lib.hid (B1.out.later hb2)
  clear c0 c1 c2 hlt hb1 hb2 B1
  obtain ⟨c0, c1, c2, hlt, hb1⟩ := B2.out
  go_wp2_with fail
  refine (C3.out _).mono ?_
  rintro e w3 ⟨rfl, hb3⟩
  have B3 := Lib.hid (B2.out.later hb3)
  clear c0 c1 c2 hlt hb1 hb3 B2
  go_wp2_with fail
  go_ret
  exact ⟨rfl, B3.out.2.2.2.2⟩
theorem holeCases (W H Z k : Int) : okB W H Z = false ∨ ∃ N z : Nat, Z = z ∧ Ok W H N z ∧ (k < 0 ∨ (N : Int) ≤ k ∨ ∃ j : Nat, k = j ∧ j < N) := by
  cases h : okB W H Z
  · exact .inl rfl
  · right
    obtain ⟨N, z, rfl, ho⟩ := ok_of h
    refine ⟨N, z, rfl, ho, ?_⟩
    rcases Int.lt_or_le k 0 with h0 | h0
    · exact .inl h0
    · obtain ⟨j, rfl⟩ := Int.eq_ofNat_of_zero_le h0
      rcases Nat.lt_or_ge j N with h1 | h1
      · exact .inr (.inr ⟨j, rfl, h1⟩)
      · exact .inr (.inl (by omega))
theorem specHole (W H Z k : Int) (w : World) : Calls Tryd.prog 8 #[.agg #[.int .i64 W, .int .i64 H, .int .i64 Z], .int .i64 k] w fun e w' => e = .returned (.bool (holeB W H Z k)) ∧ Below w.heap.size w w' := by
  rcases holeCases W H Z k with h | ⟨N, z, rfl, ho, h | h | ⟨j, rfl, h⟩⟩
  · rw [holeB_no h]; exact specHole_no h k w
  · rw [holeB_out ho (.inl h)]; exact specHole_out ho (.inl h) w
  · rw [holeB_out ho (.inr h)]; exact specHole_out ho (.inr h) w
  · rw [holeB_in ho h]; exact specHole_in ho h w
theorem implHole (W H Z k : Int) (w : World) : Calls Tryd.prog 9 #[.agg #[.int .i64 W, .int .i64 H, .int .i64 Z], .int .i64 k] w fun e w' => e = .returned (.bool (holeB W H Z k)) ∧ Below w.heap.size w w' := by
  rcases holeCases W H Z k with h | ⟨N, z, rfl, ho, h | h | ⟨j, rfl, h⟩⟩
  · rw [holeB_no h]; exact implHole_no h k w
  · rw [holeB_out ho (.inl h)]; exact implHole_neg ho h w
  · rw [holeB_out ho (.inr h)]; exact implHole_far ho h w
  · rw [holeB_in ho h]; exact implHole_in ho h w
end Go.Proofs.YtpdhdogllejdbaaDoor
