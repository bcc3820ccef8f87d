/- The bits of a board as a list; HolesOf and CountHoles of the model, OnesCount64, CountHoles of the program. -/
import Derived.Test.YtpdhdogllejdbaaDoorBoardOk
namespace Go.Proofs.YtpdhdogllejdbaaDoor
open Go.RowKit
theorem hand1 (n : Int) : bits .and .i64 n 1 = n % 2 := by
  have h1 : (BitVec.ofInt 64 1).toNat = 2 ^ 1 - 1 := by decide
  have key : (BitVec.ofInt 64 n &&& BitVec.ofInt 64 1).toNat = (n % ((2 ^ 64 : Nat) : Int)).toNat % 2 ^ 1 := by
    rw [BitVec.toNat_and, BitVec.toNat_ofInt, h1, Nat.and_two_pow_sub_one_eq_mod]
  show IntKind.i64.wrap ((BitVec.ofInt 64 n &&& BitVec.ofInt 64 1).toNat : Nat) = n % 2
  rw [key, IntKind.wrap_i64]
  omega
theorem bit_int (z k : Nat) : ((z : Int) / 2 ^ k % 2 == 1) = bit z k := by
  have e : ((z : Int) / 2 ^ k % 2) = ((z / 2 ^ k % 2 : Nat) : Int) := by simp
  rw [e, Bool.eq_iff_iff]
  simp [bit]
  omega
theorem bit_int2 (z k : Nat) : decide ((z : Int) / 2 ^ k % 2 = 1) = bit z k := by
  have e : ((z : Int) / 2 ^ k % 2) = ((z / 2 ^ k % 2 : Nat) : Int) := by simp
  rw [e, Bool.eq_iff_iff]
  simp [bit]
  omega
def Ints (xs : List Nat) : List Value := xs.map fun (k : Nat) => Value.int .i64 (k : Int)
/-- It returns a list of indices in new memory. -/
def OwnInts (xs : List Nat) (w : World) (e : Ending) (w' : World) : Prop :=
  ∃ v, e = .returned v ∧ w'.ownsRow w.heap.size 3 1 v xs.length (Ints xs) ∧ Below w.heap.size w w'
theorem Ints_snoc (xs : List Nat) (k : Nat) : Ints (xs ++ [k]) = Ints xs ++ [Value.int .i64 (k : Int)] := by simp [Ints]
theorem own_base {w : World} {b b' : Nat} {e : TypeId} {size : Nat} {v : Value} {n : Nat} {xs : List Value} (h : w.ownsRow b e size v n xs) (hb : b' ≤ b) : w.ownsRow b' e size v n xs := by
  refine ⟨h.1, ?_⟩
  rcases h.2 with h | ⟨g, cap, cur, hv, hg, rest⟩
  · exact .inl h
  · exact .inr ⟨g, cap, cur, hv, Nat.le_trans hb hg, rest⟩
set_option maxHeartbeats 1000000 in
set_option maxRecDepth 100000 in
theorem specList (z : Nat) (w : World) : Calls Tryd.prog 40 #[.int .i64 z] w (OwnInts (bitsOf 49 z) w) := by
  have hand := hand1
  obtain ⟨i0, hi, hz0, hz1, hz2⟩ : ∃ i, Tryd.prog.info? 3 = some i ∧ i.zero = some (.int .i64 0) ∧ i.size = 1 ∧ i.bytes = 8 := ⟨_, by rfl, by rfl, by rfl, by rfl⟩
  go_enter Tryd.func40, Tryd.ntmps40
  go_wp2_with fail
  have hA : Hid ((w.alloc (.cells #[] 3)).ownsRow w.heap.size 3 1 (.slice (some ⟨w.heap.size, 0, none⟩) 0 0) 0 []) := World.ownsRow_made w #[] 0 (Nat.le_refl _) (by unfold maxLen; omega) rfl
  have hB : Below w.heap.size w (w.alloc (.cells #[] 3)) := (Below.refl _ _).alloc (Nat.le_refl _) _
  generalize w.alloc (.cells #[] 3) = W1 at *
  go_loopw [3, 4] (fun s i wr => ∃ (k : Nat) (v : Value), k ≤ 49 ∧ i = .int .i64 k ∧ s = v ∧ Hid (wr.ownsRow w.heap.size 3 1 v (bitsOf k z).length (Ints (bitsOf k z))) ∧ Below w.heap.size w wr) (fun _ i _ => 49 - (intOf i).toNat)
  case atStart => exact ⟨0, _, by omega, rfl, rfl, hA, hB⟩
  case round =>
    obtain ⟨k, v, hk, rfl, rfl, ho, hb⟩ := hrel
    by_cases hlt : k < 49
    · cases hbit : bit z k
      · have hb1 : ((z : Int) / 2 ^ k % 2 == 1) = false := by rw [bit_int]; exact hbit
        have hl := Lib.hid (bitsOf_no hbit)
        clear hbit
        go_wp2_with fail
        go_roundw
        case rel => exact ⟨k + 1, _, by omega, by go_num, rfl, by unfold Hid; rw [hl.out]; exact ho.out, hb⟩
        case measure => simp [intOf]; omega
      · have hb1 : ((z : Int) / 2 ^ k % 2 == 1) = true := by rw [bit_int]; exact hbit
        have hl := Lib.hid (bitsOf_yes hbit)
        have hln : Hid ((bitsOf k z).length ≤ 1000000000) := by unfold Hid; have := bitsOf_le k z; omega
        have hbz := hb.size
        clear hbit
        go_wp2_with (at_builtin; refine wpList_append_one rfl (.tmp 15) (.tmp 17) 27 rfl w.heap.size 3 i0 (.int .i64 0) 8 Tryd.underlying27 hi hz0 hz1 hz2 rfl (by decide) _ _ _ rfl ho.out rfl rfl hln.out hbz ?_; intro g' cap' w1 hown' hgrow hb2)
        have ho' : Hid (w1.ownsRow w.heap.size 3 1 (.slice (some ⟨g', 0, none⟩) ((bitsOf k z).length + 1) cap') (bitsOf (k + 1) z).length (Ints (bitsOf (k + 1) z))) := by
          unfold Hid
          rw [hl.out, Ints_snoc, List.length_append]
          exact hown'
        have hb3 := hb.trans hb2
        clear hown' hgrow hb2
        go_wp2_with fail
        go_roundw
        case rel => exact ⟨k + 1, _, by omega, by go_num, rfl, ho', hb3⟩
        case measure => simp [intOf]; omega
    · obtain rfl : k = 49 := by omega
      have hp : Hid (OwnInts (bitsOf 49 z) w (.returned _) wr) := ⟨_, rfl, ho.out, hb⟩
      clear ho hb
      go_wp2_with fail
      go_ret
      exact hp.out
/-- What is told of a board that is valid. -/
structure Ok (W H : Int) (N z : Nat) : Prop where
  wh : W * H = (N : Int)
  n1 : 1 ≤ N
  n49 : N ≤ 49
  z1 : 1 ≤ z
  zlt : z < 2 ^ N
  w1 : 1 ≤ W
  w7 : W ≤ 7
  h1 : 1 ≤ H
  h7 : H ≤ 7
theorem pow_cast (N : Nat) : ((2 : Int) ^ N) = ((2 ^ N : Nat) : Int) := by simp
theorem ok_of {W H Z : Int} (h : okB W H Z = true) : ∃ N z : Nat, Z = z ∧ Ok W H N z := by
  have h0 := h
  simp only [okB, Bool.and_eq_true, decide_eq_true_eq] at h
  obtain ⟨⟨⟨a, b⟩, c⟩, d⟩ := h
  obtain ⟨N, hN, n0, n1, e1, e2, e3, e4⟩ := sides a b
  obtain ⟨z, rfl⟩ := Int.eq_ofNat_of_zero_le (show 0 ≤ Z by omega)
  rw [hN, Int.toNat_natCast, pow_cast] at d
  exact ⟨N, z, rfl, hN, n0, n1, by omega, by omega, e1, e2, e3, e4⟩
theorem Ok.ok {W H : Int} {N z : Nat} (h : Ok W H N z) : okB W H z = true := by
  have h1 := h.w1; have h2 := h.w7; have h3 := h.h1; have h4 := h.h7; have h5 := h.z1; have h6 := h.zlt
  have e : inB (z : Int) 1 (2 ^ N - 1) = true := by
    rw [pow_cast]
    simp only [inB, Bool.and_eq_true, decide_eq_true_eq]
    omega
  rw [okB_eq (by simp [sideB, h1, h2]) (by simp [sideB, h3, h4]) h.wh, e]
theorem Ok.z49 {W H : Int} {N z : Nat} (h : Ok W H N z) : z < 2 ^ 49 := Nat.lt_of_lt_of_le h.zlt (Nat.pow_le_pow_right (by decide) h.n49)
theorem Ok.list {W H : Int} {N z : Nat} (h : Ok W H N z) : bitsOf 49 z = bitsOf N z := bitsOf_more h.zlt 49 h.n49
theorem specOk_yes {W H : Int} {N z : Nat} (h : Ok W H N z) (w : World) : Calls Tryd.prog 22 #[.agg #[.int .i64 W, .int .i64 H, .int .i64 z]] w fun e w' => e = .returned (.bool true) ∧ Below w.heap.size w w' := by
  rw [← h.ok]; exact specOk W H z w
theorem implOk_yes {W H : Int} {N z : Nat} (h : Ok W H N z) (w : World) : Calls Tryd.prog 12 #[.agg #[.int .i64 W, .int .i64 H, .int .i64 z]] w fun e w' => e = .returned (.bool true) ∧ Below w.heap.size w w' := by
  rw [← h.ok]; exact implOk W H z w
theorem specOk_no {W H Z : Int} (h : okB W H Z = false) (w : World) : Calls Tryd.prog 22 #[.agg #[.int .i64 W, .int .i64 H, .int .i64 Z]] w fun e w' => e = .returned (.bool false) ∧ Below w.heap.size w w' := by
  rw [← h]; exact specOk W H Z w
theorem implOk_no {W H Z : Int} (h : okB W H Z = false) (w : World) : Calls Tryd.prog 12 #[.agg #[.int .i64 W, .int .i64 H, .int .i64 Z]] w fun e w' => e = .returned (.bool false) ∧ Below w.heap.size w w' := by
  rw [← h]; exact implOk W H Z w
/-- A block of three ints, and that nothing older was touched. -/
def Box (b : Nat) (W H Z : Int) (w0 w : World) : Prop := w.cell? ⟨b, 0, none⟩ = some (.int .i64 W) ∧ w.cell? ⟨b, 1, none⟩ = some (.int .i64 H) ∧ w.cell? ⟨b, 2, none⟩ = some (.int .i64 Z) ∧ b < w.heap.size ∧ Below w0.heap.size w0 w
theorem box_new (W H Z : Int) (w : World) : Box w.heap.size W H Z w (w.alloc (.cells #[.int .i64 W, .int .i64 H, .int .i64 Z] 25)) := by
  refine ⟨?_, ?_, ?_, by simp, (Below.refl _ _).alloc (Nat.le_refl _) _⟩
  all_goals (rw [cell_of_row _ _ _ _ _ _ (heap_alloc_new w _)]; rfl)
theorem box_newT (T : TypeId) (W H Z : Int) (w : World) : Box w.heap.size W H Z w (w.alloc (.cells #[.int .i64 W, .int .i64 H, .int .i64 Z] T)) := by
  refine ⟨?_, ?_, ?_, by simp, (Below.refl _ _).alloc (Nat.le_refl _) _⟩
  all_goals (rw [cell_of_row _ _ _ _ _ _ (heap_alloc_new w _)]; rfl)
theorem Box.later {b : Nat} {W H Z : Int} {w0 w w' : World} (h : Box b W H Z w0 w) (hb : Below w.heap.size w w') : Box b W H Z w0 w' :=
  ⟨(hb.cell (p := ⟨b, 0, none⟩) h.2.2.2.1).trans h.1, (hb.cell (p := ⟨b, 1, none⟩) h.2.2.2.1).trans h.2.1, (hb.cell (p := ⟨b, 2, none⟩) h.2.2.2.1).trans h.2.2.1, Nat.lt_of_lt_of_le h.2.2.2.1 hb.size, h.2.2.2.2.trans (hb.mono h.2.2.2.2.size)⟩
set_option maxRecDepth 100000 in
theorem specHoles_no {W H Z : Int} (h : okB W H Z = false) (w : World) : Calls Tryd.prog 38 #[.agg #[.int .i64 W, .int .i64 H, .int .i64 Z]] w (OwnInts [] w) := by
  have C1 := Lib.hid (specOk_no h)
  clear h
  go_enter Tryd.func38, Tryd.ntmps38
  go_wp2_with fail
  have B0 := Lib.hid (box_new W H Z w)
  generalize w.alloc (.cells #[.int .i64 W, .int .i64 H, .int .i64 Z] 25) = W1 at *
  refine (C1.out _).mono ?_
  rintro e w1 ⟨rfl, hb⟩
  have B1 := Lib.hid (B0.out.later hb)
  go_wp2_with fail
  go_ret
  exact ⟨_, rfl, World.ownsRow_made w1 #[] 0 (B1.out.2.2.2.2.size) (by unfold maxLen; omega) rfl, B1.out.2.2.2.2.alloc B1.out.2.2.2.2.size _⟩
set_option maxRecDepth 100000 in
theorem specHoles {W H : Int} {N z : Nat} (h : Ok W H N z) (w : World) : Calls Tryd.prog 38 #[.agg #[.int .i64 W, .int .i64 H, .int .i64 z]] w (OwnInts (bitsOf N z) w) := by
  have C1 := Lib.hid (specOk_yes h)
  have C2 := Lib.hid (fun w => specList z w)
  have hl := Lib.hid h.list
  clear h
  go_enter Tryd.func38, Tryd.ntmps38
  go_wp2_with fail
  have B0 := Lib.hid (box_new W H z w)
  generalize w.alloc (.cells #[.int .i64 W, .int .i64 H, .int .i64 z] 25) = W1 at *
  refine (C1.out _).mono ?_
  rintro e w1 ⟨rfl, hb⟩
  obtain ⟨c0, c1, c2, hlt, hb1⟩ := B0.out.later hb
  clear hb B0
  go_wp2_with fail
  refine (C2.out _).mono ?_
  rintro e w2 ⟨v, rfl, ho, hb2⟩
  have hp : Hid (OwnInts (bitsOf N z) w (.returned v) w2) := by
    rw [hl.out] at ho
    exact ⟨v, rfl, own_base ho hb1.size, hb1.trans (hb2.mono hb1.size)⟩
  clear c0 c1 c2 hlt hb1 hb2 ho
  go_wp2_with fail
  go_ret
  exact hp.out

theorem mask (c : Nat) (m : Int) (hm : m = ((M c 8 : Nat) : Int)) (hc : M c 8 < 18446744073709551616) (x : Nat) (hx : x < 18446744073709551616) : bits .and .u64 (x : Int) m = ((x &&& M c 8 : Nat) : Int) := by
  rw [hm]; exact bits_and_u64_nat _ _ hx hc
theorem wrapN (x : Nat) (hx : x < 18446744073709551616) : IntKind.u64.wrap (x : Int) = (x : Int) := by rw [IntKind.wrap_u64]; omega
theorem k1 : (6148914691236517205 : Int) = ((M 85 8 : Nat) : Int) := by decide
theorem k2 : (3689348814741910323 : Int) = ((M 51 8 : Nat) : Int) := by decide
theorem k3 : (1085102592571150095 : Int) = ((M 15 8 : Nat) : Int) := by decide
theorem st1 (z : Nat) (hz : z < 18446744073709551616) : IntKind.u64.wrap (bits .and .u64 ((z : Int) / 2) 6148914691236517205 + bits .and .u64 (z : Int) 6148914691236517205) = ((S1 8 z : Nat) : Int) := by
  have h := (low_lt z hz).1
  rw [show ((z : Int) / 2) = ((z / 2 : Nat) : Int) by simp, mask 85 _ k1 (by decide) _ (by omega), mask 85 _ k1 (by decide) _ hz, ← Int.natCast_add]
  exact wrapN _ h
theorem st2 (z : Nat) (hz : z < 18446744073709551616) : IntKind.u64.wrap (bits .and .u64 (((S1 8 z : Nat) : Int) / 4) 3689348814741910323 + bits .and .u64 ((S1 8 z : Nat) : Int) 3689348814741910323) = ((low 8 z : Nat) : Int) := by
  have h := (low_lt z hz).1
  have h' := (low_lt z hz).2
  rw [show (((S1 8 z : Nat) : Int) / 4) = ((S1 8 z / 4 : Nat) : Int) by simp, mask 51 _ k2 (by decide) _ (by omega), mask 51 _ k2 (by decide) _ h, ← Int.natCast_add]
  exact wrapN _ (Nat.lt_of_le_of_lt h' (by decide))
theorem st3 (z : Nat) (hz : z < 18446744073709551616) : bits .and .u64 (IntKind.u64.wrap (((low 8 z : Nat) : Int) / 16 + ((low 8 z : Nat) : Int))) 1085102592571150095 = ((cnt 8 z : Nat) : Int) := by
  have h := (low_lt z hz).2
  rw [show (((low 8 z : Nat) : Int) / 16 + ((low 8 z : Nat) : Int)) = ((low 8 z / 16 + low 8 z : Nat) : Int) by simp, wrapN _ (by omega), mask 15 _ k3 (by decide) _ (by omega)]
  exact congrArg _ (S3_low 8 z)
theorem i64_and127 (n : Int) : bits .and .i64 n 127 = n % 128 := by
  have h1 : (BitVec.ofInt 64 127).toNat = 2 ^ 7 - 1 := by decide
  have key : (BitVec.ofInt 64 n &&& BitVec.ofInt 64 127).toNat = (n % ((2 ^ 64 : Nat) : Int)).toNat % 2 ^ 7 := by
    rw [BitVec.toNat_and, BitVec.toNat_ofInt, h1, Nat.and_two_pow_sub_one_eq_mod]
  show IntKind.i64.wrap ((BitVec.ofInt 64 n &&& BitVec.ofInt 64 127).toNat : Nat) = n % 128
  rw [key, IntKind.wrap_i64]
  omega
theorem fin_int (c : Nat) (z : Nat) (h : c = cnt 8 z) (s : Int) (hs : s = IntKind.u64.wrap ((c : Int) + (c : Int) / 256)) (u : Int) (hu : u = IntKind.u64.wrap (s + s / 65536)) (v : Int) (hv : v = IntKind.u64.wrap (u + u / 4294967296)) : v % 128 = pc 64 z := by
  rw [← fin_sum z c h]
  rw [IntKind.wrap_u64] at hs hu hv
  subst hs hu hv
  simp
set_option maxRecDepth 100000 in
theorem ones64 (z : Nat) (w : World) (hz : z < 18446744073709551616) : Calls Tryd.prog 29 #[.int .u64 z] w fun e w' => e = .returned (.int .i64 (pc 64 z)) ∧ w = w' := by
  go_enter Tryd.func29, Tryd.ntmps29
  go_wp2_with fail
  go_ret
  refine ⟨ret_int ?_, rfl⟩
  have hw : ∀ x : Int, wrap64 x % 128 = x % 128 := by intro x; unfold wrap64; omega
  simp only [st1 z hz, st2 z hz, st3 z hz, i64_and127, hw]
  exact fin_int _ z rfl _ rfl _ rfl _ rfl
set_option maxRecDepth 100000 in
theorem specCount {W H : Int} {N z : Nat} (h : Ok W H N z) (w : World) : Calls Tryd.prog 34 #[.agg #[.int .i64 W, .int .i64 H, .int .i64 z]] w fun e w' => e = .returned (.int .i64 (bitsOf N z).length) ∧ Below w.heap.size w w' := by
  have C1 := Lib.hid (specHoles h)
  clear h
  go_enter Tryd.func34, Tryd.ntmps34
  go_wp2_with fail
  have B0 := Lib.hid (box_new W H z w)
  generalize w.alloc (.cells #[.int .i64 W, .int .i64 H, .int .i64 z] 25) = W1 at *
  refine (C1.out _).mono ?_
  rintro e w1 ⟨v, rfl, ho, hb⟩
  have B1 := Lib.hid (B0.out.later hb)
  obtain ⟨a, c, rfl⟩ : ∃ a c, v = .slice a (bitsOf N z).length c := by rcases Go.Joins.ownsRow_forms ho with ⟨rfl, h⟩ | ⟨g, cap, rfl⟩ <;> first | exact ⟨_, _, rfl⟩ | exact ⟨none, 0, by rw [h]⟩
  clear ho hb
  go_wp2_with fail
  go_ret
  exact ⟨rfl, B1.out.2.2.2.2⟩

theorem specCount_no {W H Z : Int} (h : okB W H Z = false) (w : World) : Calls Tryd.prog 34 #[.agg #[.int .i64 W, .int .i64 H, .int .i64 Z]] w fun e w' => e = .returned (.int .i64 0) ∧ Below w.heap.size w w' := by
  have C1 := Lib.hid (specHoles_no h)
  clear h
  go_enter Tryd.func34, Tryd.ntmps34
  go_wp2_with fail
  have B0 := Lib.hid (box_new W H Z w)
  generalize w.alloc (.cells #[.int .i64 W, .int .i64 H, .int .i64 Z] 25) = W1 at *
  refine (C1.out _).mono ?_
  rintro e w1 ⟨v, rfl, ho, hb⟩
  have B1 := Lib.hid (B0.out.later hb)
  obtain ⟨a, c, rfl⟩ : ∃ a c, v = .slice a 0 c := by rcases Go.Joins.ownsRow_forms ho with ⟨rfl, h⟩ | ⟨g, cap, rfl⟩ <;> exact ⟨_, _, rfl⟩
  clear ho hb
  go_wp2_with fail
  go_ret
  exact ⟨rfl, B1.out.2.2.2.2⟩
theorem implCount_no {W H Z : Int} (h : okB W H Z = false) (w : World) : Calls Tryd.prog 13 #[.agg #[.int .i64 W, .int .i64 H, .int .i64 Z]] w fun e w' => e = .returned (.int .i64 0) ∧ Below w.heap.size w w' := by
  have C1 := Lib.hid (implOk_no h)
  clear h
  go_enter Tryd.func13, Tryd.ntmps13
  go_wp2_with fail
  have B0 := Lib.hid (box_new W H Z w)
  generalize w.alloc (.cells #[.int .i64 W, .int .i64 H, .int .i64 Z] 25) = W1 at *
  refine (C1.out _).mono ?_
  rintro e w1 ⟨rfl, hb⟩
  have B1 := Lib.hid (B0.out.later hb)
  clear hb
  go_wp2_with fail
  go_ret
  exact ⟨rfl, B1.out.2.2.2.2⟩
theorem Ok.zbig {W H : Int} {N z : Nat} (h : Ok W H N z) : z < 562949953421312 := Nat.lt_of_lt_of_le h.z49 (by decide)
theorem Ok.count {W H : Int} {N z : Nat} (h : Ok W H N z) : pc 64 z = (bitsOf N z).length := by rw [bitsOf_length]; exact pc_more h.zlt 64 (by have := h.n49; omega)
theorem implCount {W H : Int} {N z : Nat} (h : Ok W H N z) (w : World) : Calls Tryd.prog 13 #[.agg #[.int .i64 W, .int .i64 H, .int .i64 z]] w fun e w' => e = .returned (.int .i64 (bitsOf N z).length) ∧ Below w.heap.size w w' := by
  have C1 := Lib.hid (implOk_yes h)
  have hz := h.zbig
  have C2 := Lib.hid (fun w => ones64 z w (by omega))
  have E := Lib.hid h.count
  clear h
  go_enter Tryd.func13, Tryd.ntmps13
  go_wp2_with fail
  have B0 := Lib.hid (box_new W H z w)
  generalize w.alloc (.cells #[.int .i64 W, .int .i64 H, .int .i64 z] 25) = W1 at *
  refine (C1.out _).mono ?_
  rintro e w1 ⟨rfl, hb⟩
  have B1 := Lib.hid (B0.out.later hb)
  obtain ⟨c0, c1, c2, hlt, hb1⟩ := B0.out.later hb
  clear hb
  go_wp2_with fail
  refine (C2.out _).mono ?_
  rintro e w2 ⟨rfl, rfl⟩
  go_wp2_with fail
  go_ret
  exact ⟨ret_int (by rw [E.out]), B1.out.2.2.2.2⟩
/-- The bit of an index of a board. -/
theorem implBit (W H : Int) (z k : Nat) (w : World) (hk : k < 49) : Calls Tryd.prog 21 #[.agg #[.int .i64 W, .int .i64 H, .int .i64 z], .int .i64 k] w fun e w' => e = .returned (.bool (bit z k)) ∧ Below w.heap.size w w' := by
  have hand := hand1
  have hb : Hid (∀ b, ((z : Int) / 2 ^ k % 2 == 1) = b → b = bit z k) := fun b h => by rw [← h, bit_int]
  go_enter Tryd.func21, Tryd.ntmps21
  go_wp2_with fail
  go_ret
  exact ⟨ret_bool (hb.out _ rfl), (Below.refl _ _).alloc (Nat.le_refl _) _⟩
end Go.Proofs.YtpdhdogllejdbaaDoor
