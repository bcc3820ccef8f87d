/- SumOf of both. Of lists of at most 1048576 ints. -/
import Derived.Test.YtdeciglcfabgpaaWeightsA
namespace Go.Proofs.Ytdeciglcfabgpaa
open Go.RowKit
set_option linter.unusedVariables false
set_option linter.unusedSimpArgs false
theorem sum_no {W H Z P : Int} {xs : List Int} (h : (wOkB W H Z xs && posB W H Z P) = false) : sumB W H Z xs P = 0 := by unfold sumB; rw [h]; rfl
theorem sum_yes {W H Z P : Int} {xs : List Int} (h : wOkB W H Z xs = true) (h' : posB W H Z P = true) : sumB W H Z xs P = sumTo xs P.toNat xs.length := by unfold sumB; rw [h, h']; rfl
set_option maxHeartbeats 1000000 in
set_option maxRecDepth 100000 in
theorem implSum (W H Z P : Int) (hP : P ≤ 9223372036854775807) {a : Option Addr} {n c : Nat} {xs : List Int} (w : World) (hx : n ≤ 1048576) (h : IntsAt w a n xs) :
    Calls Try.prog 16 #[.agg #[.int .i64 W, .int .i64 H, .int .i64 Z], .slice a n c, .int .i64 P] w (QI (sumB W H Z xs P) w) := by
  have C1 := Lib.hid (fun w (hi : IntsAt w a n xs) => implWeightsOk W H Z (c := c) w hx hi)
  have HA := Lib.hid h
  cases hw : wOkB W H Z xs
  · rw [sum_no (by rw [hw]; rfl)]
    rw [hw] at C1
    clear hw h hP
    go_enter Try.func16, Try.ntmps16
    go_wp2_with fail
    have B0 := Lib.hid (box_new W H Z w)
    generalize w.alloc (.cells #[.int .i64 W, .int .i64 H, .int .i64 Z] 25) = W1 at *
    obtain ⟨c0, c1, c2, hlt, hb1⟩ := B0.out
    go_wp2_with fail
    refine (C1.out _ (HA.out.later hb1)).mono ?_
    rintro e w1 ⟨rfl, hb⟩
    have B1 := Lib.hid (B0.out.later hb)
    clear c0 c1 c2 hlt hb1 hb B0
    go_wp2_with fail
    go_ret
    exact ⟨rfl, B1.out.2.2.2.2⟩
  · cases hp : posB W H Z P
    · have C2 := Lib.hid (implPos_is hP hp)
      rw [sum_no (by rw [hw, hp]; rfl)]
      rw [hw] at C1
      clear hw h hp hP
      go_enter Try.func16, Try.ntmps16
      go_wp2_with fail
      have B0 := Lib.hid (box_new W H Z w)
      generalize w.alloc (.cells #[.int .i64 W, .int .i64 H, .int .i64 Z] 25) = W1 at *
      obtain ⟨c0, c1, c2, hlt, hb1⟩ := B0.out
      go_wp2_with fail
      refine (C1.out _ (HA.out.later hb1)).mono ?_
      rintro e w1 ⟨rfl, hb⟩
      have B1 := Lib.hid (B0.out.later hb)
      clear c0 c1 c2 hlt hb1 hb B0
      obtain ⟨c0, c1, c2, hlt, hb1⟩ := B1.out
      go_wp2_with fail
      refine (C2.out _).mono ?_
      rintro e w2 ⟨rfl, hb⟩
      have B2 := Lib.hid (B1.out.later hb)
      clear c0 c1 c2 hlt hb1 hb B1
      go_wp2_with fail
      go_ret
      exact ⟨rfl, B2.out.2.2.2.2⟩
    · have C2 := Lib.hid (implPos_is hP hp)
      rw [sum_yes hw hp]
      rw [hw] at C1
      obtain ⟨hok, hwl, hall⟩ := wOk_yes hw
      obtain ⟨N, z, p, rfl, rfl, ho, hpz⟩ := pos_yes hp
      have hn := h.1
      rw [ho.wh, hn] at hwl
      have hnN : n ≤ 49 := by have := ho.n49; omega
      have HS := Lib.hid (fun k => sumTo_le hall p k)
      have HX := Lib.hid (fun (k : Nat) (hk : k < n) => get_wAt (xs := xs) (k := k) (by rw [hn]; exact hk))
      have HB' := Lib.hid (fun k => all_wAt hall k)
      have CP := Lib.hid (fun k w (hk : k < 49) => isPeg p k hk w)
      have HE : Hid (sumTo xs (p : Int).toNat xs.length = sumTo xs p n) := by unfold Hid; rw [hn]; rfl
      rw [HE.out]
      clear hw h hp hok hall ho hpz hn hwl HE hP
      go_enter Try.func16, Try.ntmps16
      go_wp2_with fail
      have B0 := Lib.hid (box_new W H z w)
      generalize w.alloc (.cells #[.int .i64 W, .int .i64 H, .int .i64 (z : Int)] 25) = W1 at *
      obtain ⟨c0, c1, c2, hlt, hb1⟩ := B0.out
      go_wp2_with fail
      refine (C1.out _ (HA.out.later hb1)).mono ?_
      rintro e w1 ⟨rfl, hb⟩
      have B1 := Lib.hid (B0.out.later hb)
      clear c0 c1 c2 hlt hb1 hb B0
      obtain ⟨c0, c1, c2, hlt, hb1⟩ := B1.out
      go_wp2_with fail
      refine (C2.out _).mono ?_
      rintro e w2 ⟨rfl, hb⟩
      have B2 := Lib.hid (B1.out.later hb)
      clear c0 c1 c2 hlt hb1 hb B1 C1 C2
      have HA2 := Lib.hid (HA.out.later B2.out.2.2.2.2)
      go_wp2_with fail
      go_loopw [7, 22] (fun s i wr => ∃ (k : Nat) (t : Int), k ≤ n ∧ i = .int .i64 k ∧ s = .int .i64 t ∧ Hid (t = sumTo xs p k) ∧ wr = w2) (fun _ i _ => n - (intOf i).toNat)
      case atStart => exact ⟨0, 0, Nat.zero_le _, rfl, rfl, rfl, rfl⟩
      case round =>
        obtain ⟨k, t, hk, rfl, rfl, HT, rfl⟩ := hrel
        by_cases hlk : k < n
        · have k0 : (0 : Int) ≤ (k : Int) := by omega
          have k1 : (k : Int) < (n : Int) := by omega
          have hxk := HX.out k hlk
          obtain ⟨x1, x2⟩ := HB'.out k
          obtain ⟨t1, t2⟩ := HS.out k
          rw [← HT.out] at t1 t2
          have HE : Hid (sumTo xs p (k + 1) = t + (if bit p k then wAt xs k else 0)) := by rw [HT.out]; rfl
          generalize wAt xs k = x at *
          obtain ⟨b, off, rfl, hb, hc⟩ := HA2.out.cell hlk
          have c0 := hc k x hxk
          clear hc hxk
          have CK := Lib.hid (fun w => CP.out k w (by omega))
          cases hbit : bit p k
          · rw [hbit] at CK HE
            have HT' : Hid (t = sumTo xs p (k + 1)) := by unfold Hid; rw [HE.out]; simp
            clear hbit HE HT
            go_wp2_with fail
            refine (CK.out _).mono ?_
            rintro e w5 ⟨rfl, rfl⟩
            go_wp2_with fail
            go_roundw
            case rel => exact ⟨k + 1, t, by omega, by go_num, rfl, HT', trivial⟩
            case measure => simp [intOf]; omega
          · rw [hbit] at CK HE
            have HT' : Hid (t + x = sumTo xs p (k + 1)) := by unfold Hid; rw [HE.out]; simp
            clear hbit HE HT
            go_wp2_with fail
            refine (CK.out _).mono ?_
            rintro e w5 ⟨rfl, rfl⟩
            go_wp2_with fail
            go_roundw
            case rel => exact ⟨k + 1, t + x, by omega, by go_num, rfl, HT', trivial⟩
            case measure => simp [intOf]; omega
        · obtain rfl : k = n := by omega
          go_wp2_with fail
          go_ret
          exact QI.of HT.out B2.out.2.2.2.2
set_option maxHeartbeats 1000000 in
set_option maxRecDepth 100000 in
theorem specSum (W H Z P : Int) (hP : P ≤ 9223372036854775807) {a : Option Addr} {n c : Nat} {xs : List Int} (w : World) (hx : n ≤ 1048576) (h : IntsAt w a n xs) :
    Calls Try.prog 23 #[.agg #[.int .i64 W, .int .i64 H, .int .i64 Z], .slice a n c, .int .i64 P] w (QI (sumB W H Z xs P) w) := by
  have C1 := Lib.hid (fun w (hi : IntsAt w a n xs) => specWeightsOk W H Z (c := c) w hx hi)
  have HA := Lib.hid h
  cases hw : wOkB W H Z xs
  · rw [sum_no (by rw [hw]; rfl)]
    rw [hw] at C1
    clear hw h hP
    go_enter Try.func23, Try.ntmps23
    go_wp2_with fail
    have B0 := Lib.hid (box_new W H Z w)
    generalize w.alloc (.cells #[.int .i64 W, .int .i64 H, .int .i64 Z] 25) = W1 at *
    obtain ⟨c0, c1, c2, hlt, hb1⟩ := B0.out
    go_wp2_with fail
    refine (C1.out _ (HA.out.later hb1)).mono ?_
    rintro e w1 ⟨rfl, hb⟩
    have B1 := Lib.hid (B0.out.later hb)
    clear c0 c1 c2 hlt hb1 hb B0
    go_wp2_with fail
    go_ret
    exact ⟨rfl, B1.out.2.2.2.2⟩
  · cases hp : posB W H Z P
    · have C2 := Lib.hid (specPos_is hP hp)
      rw [sum_no (by rw [hw, hp]; rfl)]
      rw [hw] at C1
      clear hw h hp hP
      go_enter Try.func23, Try.ntmps23
      go_wp2_with fail
      have B0 := Lib.hid (box_new W H Z w)
      generalize w.alloc (.cells #[.int .i64 W, .int .i64 H, .int .i64 Z] 25) = W1 at *
      obtain ⟨c0, c1, c2, hlt, hb1⟩ := B0.out
      go_wp2_with fail
      refine (C1.out _ (HA.out.later hb1)).mono ?_
      rintro e w1 ⟨rfl, hb⟩
      have B1 := Lib.hid (B0.out.later hb)
      clear c0 c1 c2 hlt hb1 hb B0
      obtain ⟨c0, c1, c2, hlt, hb1⟩ := B1.out
      go_wp2_with fail
      refine (C2.out _).mono ?_
      rintro e w2 ⟨rfl, hb⟩
      have B2 := Lib.hid (B1.out.later hb)
      clear c0 c1 c2 hlt hb1 hb B1
      go_wp2_with fail
      go_ret
      exact ⟨rfl, B2.out.2.2.2.2⟩
    · have C2 := Lib.hid (specPos_is hP hp)
      rw [sum_yes hw hp]
      rw [hw] at C1
      obtain ⟨hok, hwl, hall⟩ := wOk_yes hw
      obtain ⟨N, z, p, rfl, rfl, ho, hpz⟩ := pos_yes hp
      have hn := h.1
      rw [ho.wh, hn] at hwl
      have hnN : n ≤ 49 := by have := ho.n49; omega
      have hNn : N = n := by omega
      have hz49 := ho.z49
      have hpb : p < 2 ^ N := Nat.lt_of_le_of_lt hpz.le ho.zlt
      have hlist : bitsOf 49 p = bitsOf N p := bitsOf_more hpb 49 ho.n49
      have CL := Lib.hid (fun w => specList p w)
      obtain ⟨ks, hks⟩ : ∃ ks, bitsOf 49 p = ks := ⟨_, rfl⟩
      have HK : Hid (∀ (j k : Nat), ks[j]? = some k → k < n) := fun j k hj => by
        have hm := List.mem_of_getElem? hj
        rw [← hks, hlist] at hm
        have := (mem_bitsOf.1 hm).1
        omega
      have hm49 : ks.length ≤ 49 := by rw [← hks]; exact bitsOf_le 49 p
      rw [hks] at CL
      have HS : Hid (∀ j, j ≤ ks.length → -1000 * (j : Int) ≤ sumOn xs (ks.take j) ∧ sumOn xs (ks.take j) ≤ 1000 * (j : Int)) := fun j hj => by
        have := sumOn_le hall (ks.take j)
        rw [List.length_take, Nat.min_eq_left hj] at this
        exact this
      have HX := Lib.hid (fun (k : Nat) (hk : k < n) => get_wAt (xs := xs) (k := k) (by rw [hn]; exact hk))
      have HB' := Lib.hid (fun k => all_wAt hall k)
      have HE : Hid (sumTo xs (p : Int).toNat xs.length = sumOn xs ks) := by unfold Hid; rw [hn, ← hks, hlist, hNn, sumOn_bits]; rfl
      rw [HE.out]
      obtain ⟨m, hm⟩ : ∃ m, ks.length = m := ⟨_, rfl⟩
      have HM := Lib.hid hm
      rw [hm] at hm49 HS
      clear hw h hp hok hall ho hpz hn hwl HE hP hz49 hpb hlist hks hNn hm
      go_enter Try.func23, Try.ntmps23
      go_wp2_with fail
      have B0 := Lib.hid (box_new W H z w)
      generalize w.alloc (.cells #[.int .i64 W, .int .i64 H, .int .i64 (z : Int)] 25) = W1 at *
      obtain ⟨c0, c1, c2, hlt, hb1⟩ := B0.out
      go_wp2_with fail
      refine (C1.out _ (HA.out.later hb1)).mono ?_
      rintro e w1 ⟨rfl, hb⟩
      have B1 := Lib.hid (B0.out.later hb)
      clear c0 c1 c2 hlt hb1 hb B0
      obtain ⟨c0, c1, c2, hlt, hb1⟩ := B1.out
      go_wp2_with fail
      refine (C2.out _).mono ?_
      rintro e w2 ⟨rfl, hb⟩
      have B2 := Lib.hid (B1.out.later hb)
      clear c0 c1 c2 hlt hb1 hb B1 C1 C2
      go_wp2_with fail
      refine (CL.out _).mono ?_
      rintro e w3 ⟨v, rfl, hh, hb⟩
      rw [HM.out] at hh
      have B3 := Lib.hid (B2.out.later hb)
      obtain ⟨la, lc, rfl⟩ := int_form hh
      have HL := Lib.hid hh
      have HA2 := Lib.hid (HA.out.later B3.out.2.2.2.2)
      clear hh hb B2 CL
      go_wp2_with fail
      go_loopw [7, 9] (fun s i wr => ∃ (k : Nat) (t : Int), k ≤ m ∧ i = .int .i64 k ∧ s = .int .i64 t ∧ Hid (t = sumOn xs (ks.take k)) ∧ wr = w3) (fun _ i _ => m - (intOf i).toNat)
      case atStart => exact ⟨0, 0, Nat.zero_le _, rfl, rfl, rfl, rfl⟩
      case round =>
        obtain ⟨k, t, hk, rfl, rfl, HT, rfl⟩ := hrel
        by_cases hlk : k < m
        · have k0 : (0 : Int) ≤ (k : Int) := by omega
          have k1 : (k : Int) < (m : Int) := by omega
          obtain ⟨j, hj⟩ : ∃ j, ks[k]? = some j := ⟨_, List.getElem?_eq_getElem (by rw [HM.out]; exact hlk)⟩
          have hjn := HK.out k j hj
          have j0 : (0 : Int) ≤ (j : Int) := by omega
          have j1 : (j : Int) < (n : Int) := by omega
          obtain ⟨g, rfl⟩ : ∃ g, la = some ⟨g, 0, none⟩ := by
            rcases Go.Joins.ownsRow_forms HL.out with ⟨h, h0⟩ | ⟨g, cap, h⟩
            · omega
            · injection h with h1 h2 h3; exact ⟨g, h1⟩
          have d0 : wr.cell? ⟨g, k, none⟩ = some (.int .i64 (j : Int)) := own_cell HL.out k hlk _ (by simp [Ints, hj])
          have hxk := HX.out j hjn
          obtain ⟨x1, x2⟩ := HB'.out j
          obtain ⟨t1, t2⟩ := HS.out k hk
          rw [← HT.out] at t1 t2
          have HT' : Hid (t + wAt xs j = sumOn xs (ks.take (k + 1))) := by unfold Hid; rw [take_one hj, sumOn_snoc, ← HT.out]
          generalize wAt xs j = x at *
          obtain ⟨b, off, rfl, hb, hc⟩ := HA2.out.cell hjn
          have c0 := hc j x hxk
          clear hc hxk hj HT
          go_wp2_with fail
          go_roundw
          case rel => exact ⟨k + 1, t + x, by omega, by go_num, rfl, HT', trivial⟩
          case measure => simp [intOf]; omega
        · obtain rfl : k = m := by omega
          have hfull : Hid (ks.take k = ks) := List.take_of_length_le (by rw [HM.out]; exact Nat.le_refl _)
          rw [hfull.out] at HT
          go_wp2_with fail
          go_ret
          exact QI.of HT.out B3.out.2.2.2.2
end Go.Proofs.Ytdeciglcfabgpaa
