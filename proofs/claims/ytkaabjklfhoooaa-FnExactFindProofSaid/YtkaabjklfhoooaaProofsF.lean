/- FindProof of the model. -/
import Derived.Test.YtkaabjklfhoooaaProofsD
import Derived.Test.YtkaabjklfhoooaaProofsC
import Derived.Test.YtkaabjklfhoooaaWeights
namespace Go.Proofs.Ytkaabjklfhoooaa
open Go.RowKit
set_option linter.unusedVariables false
set_option linter.unusedSimpArgs false
/-- A list of ints and a bool, by name. -/
theorem ivb_post {f : FuncId} {args : Array Value} {w : World} {r : List Int × Bool} {xs : List Int} {y : Bool} (h : Calls Try.prog f args w (OwnIvB r w)) (hr : r = (xs, y)) :
    Calls Try.prog f args w fun e w' => ∃ v, e = .returned (.tuple #[v, .bool y]) ∧ w'.ownsRow w.heap.size 3 1 v xs.length (iv xs) ∧ Below w.heap.size w w' := by subst hr; exact h
set_option maxHeartbeats 2000000 in
set_option maxRecDepth 100000 in
theorem specFind (W H Z P G : Int) (hP : P ≤ 9223372036854775807) (hG : G ≤ 9223372036854775807) (w : World) :
    Calls Try.prog 17 #[.agg #[.int .i64 W, .int .i64 H, .int .i64 Z], .int .i64 P, .int .i64 G] w (OwnIvB (findB W H Z P G) w) := by
  have C1 := Lib.hid (fun (xs : List Int) (a : Option Addr) (n c : Nat) (w : World) (hn : n ≤ 1048576) (hi : IntsAt w a n xs) => specProof W H Z P G hP hG (c := c) w hn hi)
  have CC := Lib.hid (fun R w => specClassW W H Z R w)
  have CO := Lib.hid (fun R w => specColumnW W H Z R w)
  have CR := Lib.hid (fun R w => specRowW W H Z R w)
  have HNo := Lib.hid (first_no (W := W) (H := H) (Z := Z) (P := P) (G := G))
  have HAt := Lib.hid (fun j (hj : j < 17) => first_at (W := W) (H := H) (Z := Z) (P := P) (G := G) hj)
  generalize findB W H Z P G = r at *
  clear hP hG
  go_enter Try.func17, Try.ntmps17
  go_wp2_with fail
  have B0 := Lib.hid (box_new W H Z w)
  generalize w.alloc (.cells #[.int .i64 W, .int .i64 H, .int .i64 Z] 26) = W1 at *
  go_loopw [8] (fun i wr => ∃ k : Nat, k ≤ 3 ∧ i = .int .i64 k ∧ Hid (∀ i, i < k → proofB W H Z (tryL W H Z i) P G = false) ∧ Hid (Box w.heap.size W H Z w wr)) (fun i _ => 3 - (intOf i).toNat)
  case atStart => exact ⟨0, Nat.zero_le _, rfl, fun i hi => absurd hi (Nat.not_lt_zero _), B0⟩
  case round =>
    clear B0
    obtain ⟨k, hk, rfl, HD, HB⟩ := hrel
    by_cases hlk : k < 3
    · have k0 : (0 : Int) ≤ (k : Int) := by omega
      have k1 : (k : Int) < 3 := by omega
      obtain ⟨c0, c1, c2, hlt, hb1⟩ := HB.out
      go_wp2_with fail
      refine (CC.out _ _).mono ?_
      rintro e w5 ⟨v, rfl, hown, hb⟩
      obtain ⟨ga, gc, rfl⟩ := int_form hown
      have HX := Lib.hid hown
      have B5 := Lib.hid (HB.out.later hb)
      have hws := hb1.size
      clear c0 c1 c2 hlt hb1 hb HB hown
      obtain ⟨c0, c1, c2, hlt, hb1⟩ := B5.out
      have HT := Lib.hid (tryL_cls (W := W) (H := H) (Z := Z) hlk)
      have CW := Lib.hid (C1.out (overL W H Z k 2 clsW) ga _ gc w5 (by have := overL_le W H Z k 2 clsW; omega) (ints_own HX.out rfl))
      generalize overL W H Z k 2 clsW = xs at *
      cases hpr : proofB W H Z xs P G
      · rw [hpr] at CW
        have HD' : Hid (∀ i, i < k + 1 → proofB W H Z (tryL W H Z i) P G = false) := fun i hi => by
          by_cases e : i = k
          · subst e; rw [HT.out]; exact hpr
          · exact HD.out i (by omega)
        clear hpr HX
        go_wp2_with fail
        refine CW.out.mono ?_
        rintro e w6 ⟨rfl, hb⟩
        have B6 := Lib.hid (B5.out.later hb)
        clear c0 c1 c2 hlt hb1 hb B5 CW
        go_wp2_with fail
        go_roundw
        case rel => exact ⟨k + 1, by omega, by go_num, HD', B6⟩
        case measure => simp [intOf]; omega
      · rw [hpr] at CW
        have HE := Lib.hid (HAt.out k (by omega) HD.out (by rw [HT.out]; exact hpr))
        rw [HT.out] at HE
        clear hpr
        go_wp2_with fail
        refine CW.out.mono ?_
        rintro e w6 ⟨rfl, hb⟩
        have hp : Hid (OwnIvB r w (.returned (.tuple #[.slice ga xs.length gc, .bool true])) w6) := by
          unfold Hid
          rw [HE.out]
          exact ⟨_, rfl, own_base (own_below HX.out hb) hws, (B5.out.later hb).2.2.2.2⟩
        clear c0 c1 c2 hlt hb1 hb B5 CW HX HE
        go_wp2_with fail
        go_ret2
        exact hp.out
    · obtain rfl : k = 3 := by omega
      have HD3 : Hid (∀ i, i < 0 + 3 → proofB W H Z (tryL W H Z i) P G = false) := HD.out
      clear HD
      go_wp2_with fail
      rw [show ((3 : Nat) : Int) = 3 from rfl]
      go_loopw [10] (fun i wr => ∃ k : Nat, k ≤ 14 ∧ i = .int .i64 k ∧ Hid (∀ i, i < k + 3 → proofB W H Z (tryL W H Z i) P G = false) ∧ Hid (Box w.heap.size W H Z w wr)) (fun i _ => 14 - (intOf i).toNat)
      case atStart => exact ⟨0, Nat.zero_le _, rfl, HD3, HB⟩
      case round =>
        clear HD3 HB
        obtain ⟨k, hk, rfl, HD, HB⟩ := hrel
        by_cases hlk : k < 14
        · have k0 : (0 : Int) ≤ (k : Int) := by omega
          have k1 : (k : Int) < 14 := by omega
          by_cases h7 : k < 7
          · have m7 : (k : Int).tmod 7 = k := by rw [Int.tmod_eq_emod_of_nonneg (by omega)]; omega
            have n7 : (k : Int) < 7 := by omega
            have B4 := HB
            clear HB
            obtain ⟨c0, c1, c2, hlt, hb1⟩ := B4.out
            go_wp2_with fail
            refine (CO.out _ _).mono ?_
            rintro e w6 ⟨v, rfl, hown, hb⟩
            obtain ⟨ga, gc, rfl⟩ := int_form hown
            have HX := Lib.hid hown
            have B5 := Lib.hid (B4.out.later hb)
            have hws := hb1.size
            clear c0 c1 c2 hlt hb1 hb B4 hown
            obtain ⟨c0, c1, c2, hlt, hb1⟩ := B5.out
            have HT : Hid (tryL W H Z (k + 3) = overL W H Z k 6 colW) := tryL_col h7
            have CW := Lib.hid (C1.out (overL W H Z k 6 colW) ga _ gc w6 (by have := overL_le W H Z k 6 colW; omega) (ints_own HX.out rfl))
            generalize overL W H Z k 6 colW = xs at *
            cases hpr : proofB W H Z xs P G
            · rw [hpr] at CW
              have HD' : Hid (∀ i, i < k + 1 + 3 → proofB W H Z (tryL W H Z i) P G = false) := fun i hi => by
                by_cases e : i = k + 3
                · subst e; rw [HT.out]; exact hpr
                · exact HD.out i (by omega)
              clear hpr HX
              go_wp2_with fail
              refine CW.out.mono ?_
              rintro e w7 ⟨rfl, hb⟩
              have B6 := Lib.hid (B5.out.later hb)
              clear c0 c1 c2 hlt hb1 hb B5 CW
              go_wp2_with fail
              go_roundw
              case rel => exact ⟨k + 1, by omega, by go_num, HD', B6⟩
              case measure => simp [intOf]; omega
            · rw [hpr] at CW
              have HE := Lib.hid (HAt.out (k + 3) (by omega) HD.out (by rw [HT.out]; exact hpr))
              rw [HT.out] at HE
              clear hpr
              go_wp2_with fail
              refine CW.out.mono ?_
              rintro e w7 ⟨rfl, hb⟩
              have hp : Hid (OwnIvB r w (.returned (.tuple #[.slice ga xs.length gc, .bool true])) w7) := by
                unfold Hid
                rw [HE.out]
                exact ⟨_, rfl, own_base (own_below HX.out hb) hws, (B5.out.later hb).2.2.2.2⟩
              clear c0 c1 c2 hlt hb1 hb B5 CW HX HE
              go_wp2_with fail
              go_ret2
              exact hp.out
          · obtain ⟨m, hm⟩ : ∃ m, k = m + 7 := ⟨k - 7, by omega⟩
            have m7 : (k : Int).tmod 7 = m := by rw [Int.tmod_eq_emod_of_nonneg (by omega)]; omega
            have m8 : (k : Int) % 7 = m := by omega
            have n7 : ¬ (k : Int) < 7 := by omega
            have hkm := Lib.hid hm
            have B3 := HB
            clear HB hm
            obtain ⟨c0, c1, c2, hlt, hb1⟩ := B3.out
            go_wp2_with fail
            refine (CO.out _ _).mono ?_
            rintro e w5 ⟨v0, rfl, hown0, hb⟩
            have B4 := Lib.hid (B3.out.later hb)
            clear c0 c1 c2 hlt hb1 hb B3 hown0
            obtain ⟨c0, c1, c2, hlt, hb1⟩ := B4.out
            go_wp2_with fail
            refine (CR.out _ _).mono ?_
            rintro e w6 ⟨v, rfl, hown, hb⟩
            obtain ⟨ga, gc, rfl⟩ := int_form hown
            have HX := Lib.hid hown
            have B5 := Lib.hid (B4.out.later hb)
            have hws := hb1.size
            clear c0 c1 c2 hlt hb1 hb B4 hown
            obtain ⟨c0, c1, c2, hlt, hb1⟩ := B5.out
            have HT : Hid (tryL W H Z (k + 3) = overL W H Z m 6 rowW) := by rw [hkm.out, show m + 7 + 3 = m + 10 by omega]; exact tryL_row (by have := hkm.out; omega)
            have CW := Lib.hid (C1.out (overL W H Z m 6 rowW) ga _ gc w6 (by have := overL_le W H Z m 6 rowW; omega) (ints_own HX.out rfl))
            generalize overL W H Z m 6 rowW = xs at *
            cases hpr : proofB W H Z xs P G
            · rw [hpr] at CW
              have HD' : Hid (∀ i, i < k + 1 + 3 → proofB W H Z (tryL W H Z i) P G = false) := fun i hi => by
                by_cases e : i = k + 3
                · subst e; rw [HT.out]; exact hpr
                · exact HD.out i (by omega)
              clear hpr HX
              go_wp2_with fail
              refine CW.out.mono ?_
              rintro e w7 ⟨rfl, hb⟩
              have B6 := Lib.hid (B5.out.later hb)
              clear c0 c1 c2 hlt hb1 hb B5 CW
              go_wp2_with fail
              go_roundw
              case rel => exact ⟨k + 1, by omega, by go_num, HD', B6⟩
              case measure => simp [intOf]; omega
            · rw [hpr] at CW
              have HE := Lib.hid (HAt.out (k + 3) (by omega) HD.out (by rw [HT.out]; exact hpr))
              rw [HT.out] at HE
              clear hpr
              go_wp2_with fail
              refine CW.out.mono ?_
              rintro e w7 ⟨rfl, hb⟩
              have hp : Hid (OwnIvB r w (.returned (.tuple #[.slice ga xs.length gc, .bool true])) w7) := by
                unfold Hid
                rw [HE.out]
                exact ⟨_, rfl, own_base (own_below HX.out hb) hws, (B5.out.later hb).2.2.2.2⟩
              clear c0 c1 c2 hlt hb1 hb B5 CW HX HE
              go_wp2_with fail
              go_ret2
              exact hp.out
        · obtain rfl : k = 14 := by omega
          have hp : Hid (OwnIvB r w (.returned (.tuple #[.slice (some ⟨wr.heap.size, 0, none⟩) 0 0, .bool false])) (wr.alloc (.cells #[] 3))) := by
            unfold Hid
            rw [HNo.out HD.out]
            exact ⟨_, rfl, own_base (World.ownsRow_made wr #[] 0 (Nat.le_refl _) (by unfold maxLen; omega) rfl) HB.out.2.2.2.2.size, HB.out.2.2.2.2.alloc HB.out.2.2.2.2.size _⟩
          clear HB HD
          go_wp2_with fail
          go_ret2
          exact hp.out
end Go.Proofs.Ytkaabjklfhoooaa
