/- HoleName of both: the letter of the column and the row's number. -/
import Derived.Test.YtpdhdogllejdbaaDoorHolesB
import Derived.Test.YtpdhdogllejdbaaDoorRect
import Derived.Test.YtpdhdogllejdbaaDoorCross
import Derived.Test.YtpdhdogllejdbaaDoorFormat
namespace Go.Proofs.YtpdhdogllejdbaaDoor
open Go.RowKit
/-- The letter of a column. -/
def letter (x : Nat) : ByteArray := bs [UInt8.ofNat (97 + x)]
theorem letter_at (x : Nat) (h : x < 7) (w : World) : (Instr.slice 9 (.string ⟨#[97, 98, 99, 100, 101, 102, 103]⟩) (some (.int .i64 (x : Int))) (some (.int .i64 ((x : Int) + 1))) none).run Tryd.prog w = .ok (.string (letter x)) w := by
  match x, h with
  | 0, _ | 1, _ | 2, _ | 3, _ | 4, _ | 5, _ | 6, _ => exact (by kernel_rfl : _ = _)
  | x + 7, h => omega
theorem letter_size (x : Nat) : (letter x).size = 1 := rfl
theorem digit_size (y : Nat) (h : y < 7) : (bs (Lib.itoa ((y : Int) + 1))).size = 1 := by
  match y, h with
  | 0, _ | 1, _ | 2, _ | 3, _ | 4, _ | 5, _ | 6, _ => decide +kernel
  | y + 7, h => omega
def nameS (x y : Nat) : ByteArray := letter x ++ bs (Lib.itoa ((y : Int) + 1))
set_option maxHeartbeats 1000000 in
set_option maxRecDepth 100000 in
theorem specName {W H : Int} {N z k x y : Nat} (h : Ok W H N z) (hk : k < N) (hbit : bit z k = true) (hx : (k : Int) % W = x) (hy : (k : Int) / W = y) (hx7 : x < 7) (hy7 : y < 7) (w : World) :
    Calls Tryd.prog 16 #[.agg #[.int .i64 W, .int .i64 H, .int .i64 z], .int .i64 k] w fun e w' => e = .returned (.string (nameS x y)) ∧ Below w.heap.size w w' := by
  have C1 := Lib.hid (specHole_in h hk)
  rw [hbit] at C1
  have C2 := Lib.hid (fun w => specFmt ((y : Int) + 1) w (by omega) (by omega))
  have hs := fun w => letter_at x hx7 w
  have l1 := letter_size x
  have l2 := digit_size y hy7
  have w1 := h.w1
  have w7 := h.w7
  have hn := h.n49
  have q0 : ¬ W = 0 := by omega
  have q5 : ((k : Int)).tmod W = (x : Int) := by rw [Int.tmod_eq_emod_of_nonneg (by omega)]; exact hx
  have q6 : ((k : Int)).tdiv W = (y : Int) := by rw [Int.tdiv_eq_ediv_of_nonneg (by omega)]; exact hy
  have q7 : IntKind.i64.wrap ((x : Int) + 1) = (x : Int) + 1 := IntWalk.i64_in _ (by omega)
  have q8 : IntKind.i64.wrap ((y : Int) + 1) = (y : Int) + 1 := IntWalk.i64_in _ (by omega)
  have q9 : IntKind.i64.wrap (x : Int) = (x : Int) := IntWalk.i64_in _ (by omega)
  have q10 : IntKind.i64.wrap (y : Int) = (y : Int) := IntWalk.i64_in _ (by omega)
  clear h hbit hx hy
  go_enter Tryd.func16, Tryd.ntmps16
  go_wp2_with fail
  have B0 := Lib.hid (box_new W H z w)
  generalize w.alloc (.cells #[.int .i64 W, .int .i64 H, .int .i64 z] 25) = W1 at *
  refine (C1.out _).mono ?_
  rintro e w1 ⟨rfl, hb⟩
  have B1 := Lib.hid (B0.out.later hb)
  obtain ⟨c0, c1, c2, hlt, hbw⟩ := B0.out.later hb
  clear hb B0
  go_wp2_with fail
  go_region_held3 (fun w' => w'.cell? ⟨w.heap.size, 0, none⟩ = some (.int .i64 W) ∧ Below w.heap.size w w') (first | exact ⟨c0, hbw.drew⟩ | exact ⟨(hb2.cell (p := ⟨w.heap.size, 0, none⟩) hlt).trans c0, hbw.drew.trans (hb2.mono (Nat.le_of_lt hlt))⟩) (first | (go_at_call 31; refine (C2.out _).mono ?_; rintro e w2 ⟨rfl, hb2⟩) | fail)
  all_goals
    have hbx : Below w.heap.size w w2 := hbw.drew.trans (hb2.mono (Nat.le_of_lt hlt))
    clear l1 l2 hb2 hbw hs q5 q6 q7 q8 q9 q10
    go_wp2_with fail
    go_ret
    exact ⟨rfl, hbx⟩
set_option maxRecDepth 100000 in
theorem implPlaceX {W H : Int} {Z : Int} {k x y : Nat} (w : World) (h1 : 1 ≤ W) (h7 : W ≤ 7) (hk : k ≤ 1000) (hx : (k : Int) % W = x) (hy : (k : Int) / W = y) : Calls Tryd.prog 25 #[.agg #[.int .i64 W, .int .i64 H, .int .i64 Z], .int .i64 k] w fun e w' => e = .returned (.tuple #[.int .i64 x, .int .i64 y]) ∧ Below w.heap.size w w' := by
  rw [← hx, ← hy]; exact implPlace W H Z k w h1 h7 hk
set_option maxHeartbeats 1000000 in
set_option maxRecDepth 100000 in
theorem implName {W H : Int} {N z k x y : Nat} (h : Ok W H N z) (hk : k < N) (hbit : bit z k = true) (hx : (k : Int) % W = x) (hy : (k : Int) / W = y) (hx7 : x < 7) (hy7 : y < 7) (w : World) (hP : PowTab w) :
    Calls Tryd.prog 10 #[.agg #[.int .i64 W, .int .i64 H, .int .i64 z], .int .i64 k] w fun e w' => e = .returned (.string (nameS x y)) ∧ Below w.heap.size w w' := by
  have C1 := Lib.hid (implHole_in h hk)
  rw [hbit] at C1
  have C2 := Lib.hid (fun w hp => implFmt ((y : Int) + 1) w (by omega) (by omega) hp)
  have hn := h.n49
  have C3 := Lib.hid (fun w => implPlaceX (H := H) (Z := z) w h.w1 h.w7 (show k ≤ 1000 by omega) hx hy)
  have HP := Lib.hid hP
  have hs := fun w => letter_at x hx7 w
  have l1 := letter_size x
  have l2 := digit_size y hy7
  have q7 : IntKind.i64.wrap ((x : Int) + 1) = (x : Int) + 1 := IntWalk.i64_in _ (by omega)
  have q8 : IntKind.i64.wrap ((y : Int) + 1) = (y : Int) + 1 := IntWalk.i64_in _ (by omega)
  clear h hbit hx hy hP
  go_enter Tryd.func10, Tryd.ntmps10
  go_wp2_with fail
  have B0 := Lib.hid (box_new W H z w)
  generalize w.alloc (.cells #[.int .i64 W, .int .i64 H, .int .i64 z] 25) = W1 at *
  refine (C1.out _).mono ?_
  rintro e w1 ⟨rfl, hb⟩
  have B1 := Lib.hid (B0.out.later hb)
  obtain ⟨c0, c1, c2, hlt, hbw⟩ := B0.out.later hb
  clear hb B0
  go_wp2_with fail
  refine (C3.out _).mono ?_
  rintro e w2 ⟨rfl, hb⟩
  have hbw2 := hbw.trans (hb.mono hbw.size)
  have HP2 := Lib.hid (HP.out.below hbw2.drew)
  clear c0 c1 c2 hlt hbw hb
  go_wp2_with fail
  go_region_held3 (fun w' => Below w.heap.size w w') (first | exact hbw2.drew | exact hbw2.drew.trans (hb2.mono hbw2.size)) (first | (go_at_call 26; refine (C2.out _ HP2.out).mono ?_; rintro e w3 ⟨rfl, hb2⟩) | fail)
  all_goals
    have hbx : Below w.heap.size w w3 := hbw2.drew.trans (hb2.mono hbw2.size)
    clear l1 l2 hb2 hbw2 hs q7 q8
    go_wp2_with fail
    go_ret
    exact ⟨rfl, hbx⟩
theorem specName_no {W H Z k : Int} (h : holeB W H Z k = false) (w : World) : Calls Tryd.prog 16 #[.agg #[.int .i64 W, .int .i64 H, .int .i64 Z], .int .i64 k] w fun e w' => e = .returned (.string ⟨#[]⟩) ∧ Below w.heap.size w w' := by
  have C1 := Lib.hid (fun w => specHole W H Z k w)
  rw [h] at C1
  clear h
  go_enter Tryd.func16, Tryd.ntmps16
  go_wp2_with fail
  have B0 := Lib.hid (box_new W H Z w)
  generalize w.alloc (.cells #[.int .i64 W, .int .i64 H, .int .i64 Z] 25) = W1 at *
  refine (C1.out _).mono ?_
  rintro e w1 ⟨rfl, hb⟩
  have B1 := Lib.hid (B0.out.later hb)
  clear hb B0
  go_wp2_with fail
  go_ret
  exact ⟨rfl, B1.out.2.2.2.2⟩
theorem implName_no {W H Z k : Int} (h : holeB W H Z k = false) (w : World) : Calls Tryd.prog 10 #[.agg #[.int .i64 W, .int .i64 H, .int .i64 Z], .int .i64 k] w fun e w' => e = .returned (.string ⟨#[]⟩) ∧ Below w.heap.size w w' := by
  have C1 := Lib.hid (fun w => implHole W H Z k w)
  rw [h] at C1
  clear h
  go_enter Tryd.func10, Tryd.ntmps10
  go_wp2_with fail
  have B0 := Lib.hid (box_new W H Z w)
  generalize w.alloc (.cells #[.int .i64 W, .int .i64 H, .int .i64 Z] 25) = W1 at *
  refine (C1.out _).mono ?_
  rintro e w1 ⟨rfl, hb⟩
  have B1 := Lib.hid (B0.out.later hb)
  clear hb B0
  go_wp2_with fail
  go_ret
  exact ⟨rfl, B1.out.2.2.2.2⟩
/-- The place of an index of a board. -/
theorem Ok.place {W H : Int} {N z k : Nat} (h : Ok W H N z) (hk : k < N) : ∃ x y : Nat, (k : Int) % W = x ∧ (k : Int) / W = y ∧ x < 7 ∧ y < 7 ∧ (x : Int) < W ∧ (y : Int) < H ∧ (k : Int) = W * y + x := by
  have h1 := h.w1; have h2 := h.w7; have h3 := h.h7
  have hx0 : 0 ≤ (k : Int) % W := Int.emod_nonneg _ (by omega)
  have hx1 : (k : Int) % W < W := Int.emod_lt_of_pos _ (by omega)
  have hy0 : 0 ≤ (k : Int) / W := Int.ediv_nonneg (by omega) (by omega)
  have hy1 : (k : Int) / W < H := Int.ediv_lt_of_lt_mul (by omega) (by rw [Int.mul_comm, h.wh]; omega)
  have he := Int.mul_ediv_add_emod k W
  obtain ⟨x, hx⟩ := Int.eq_ofNat_of_zero_le hx0
  obtain ⟨y, hy⟩ := Int.eq_ofNat_of_zero_le hy0
  exact ⟨x, y, hx, hy, by omega, by omega, by omega, by omega, by rw [← hx, ← hy]; exact he.symm⟩
theorem holeB_yes {W H Z k : Int} (h : holeB W H Z k = true) : ∃ N z j : Nat, Z = z ∧ k = j ∧ Ok W H N z ∧ j < N ∧ bit z j = true := by
  rcases holeCases W H Z k with h' | ⟨N, z, rfl, ho, h' | h' | ⟨j, rfl, h'⟩⟩
  · rw [holeB_no h'] at h; cases h
  · rw [holeB_out ho (.inl h')] at h; cases h
  · rw [holeB_out ho (.inr h')] at h; cases h
  · rw [holeB_in ho h'] at h
    exact ⟨N, z, j, rfl, rfl, ho, h', h⟩
theorem bothName (W H Z k : Int) : ∃ t : ByteArray, t.size ≤ 2 ∧ (∀ w, Calls Tryd.prog 16 #[.agg #[.int .i64 W, .int .i64 H, .int .i64 Z], .int .i64 k] w fun e w' => e = .returned (.string t) ∧ Below w.heap.size w w') ∧
    (∀ w, PowTab w → Calls Tryd.prog 10 #[.agg #[.int .i64 W, .int .i64 H, .int .i64 Z], .int .i64 k] w fun e w' => e = .returned (.string t) ∧ Below w.heap.size w w') := by
  cases h : holeB W H Z k
  · exact ⟨⟨#[]⟩, by decide, specName_no h, fun w _ => implName_no h w⟩
  · obtain ⟨N, z, j, rfl, rfl, ho, hj, hb⟩ := holeB_yes h
    obtain ⟨x, y, hx, hy, hx7, hy7, -, -, -⟩ := ho.place hj
    refine ⟨nameS x y, ?_, specName ho hj hb hx hy hx7 hy7, fun w hp => implName ho hj hb hx hy hx7 hy7 w hp⟩
    unfold nameS
    rw [ByteArray.size_append, letter_size, digit_size y hy7]
    decide
end Go.Proofs.YtpdhdogllejdbaaDoor
