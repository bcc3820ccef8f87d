/- Armies of the model: WeightTo, ArmySum, MayReach. -/
import Derived.Test.YtoginbmflomjeaaArmyA
namespace Go.Proofs.Ytoginbmflomjeaa
open Go.RowKit
set_option linter.unusedVariables false
set_option linter.unusedSimpArgs false
/-- A soldier's block and a golden result's behind it. -/
def BxS (x y u v : Int) (w0 w : World) : Prop := Bg 37 w0.heap.size x y w ∧ Bg 31 (w0.heap.size + 1) u v w ∧ Below w0.heap.size w0 w
theorem BxS.later {x y u v : Int} {w0 w w' : World} (h : BxS x y u v w0 w) (hb : Below w.heap.size w w') : BxS x y u v w0 w' := ⟨h.1.later hb, h.2.1.later hb, h.2.2.trans (hb.mono h.2.2.size)⟩
theorem bxs_new (x y u v : Int) (w : World) : BxS x y u v w ((w.alloc (.cells #[.int .i64 x, .int .i64 y] 37)).alloc (.cells #[.int .i64 u, .int .i64 v] 31)) := by
  refine ⟨row_alloc (heap_alloc_new w _), ?_, ((Below.refl _ _).alloc (Nat.le_refl _) _).alloc (by simp) _⟩
  have := heap_alloc_new (w.alloc (.cells #[.int .i64 x, .int .i64 y] 37)) (.cells #[.int .i64 u, .int .i64 v] 31)
  simpa [Bg] using this
set_option maxHeartbeats 2000000 in
set_option maxRecDepth 100000 in
theorem specWeightTo (x y L : Int) (w : World) : Calls Try.prog 23 #[.agg #[.int .i64 x, .int .i64 y], .int .i64 L] w (GQ (wtB (x, y) L).1 (wtB (x, y) L).2 w) := by
  have CS := Lib.hid (fun (b : Bool) (h : soldB (x, y) = b) w => specSold_is h w)
  have C := Lib.hid (fun n a b w => specIn n a b w)
  cases hs : soldB (x, y)
  · have HG := Lib.hid (wt_no (s := (x, y)) (L := L) (by rw [hs]; rfl))
    have CX := Lib.hid (CS.out _ hs)
    clear hs
    go_enter Try.func23, Try.ntmps23
    go_wp2_with fail
    have B0 := Lib.hid (bxs_new x y 0 0 w)
    generalize (w.alloc (.cells #[.int .i64 x, .int .i64 y] 37)).alloc (.cells #[.int .i64 0, .int .i64 0] 31) = W1 at *
    obtain ⟨k0, k1, -, -⟩ := two_facts B0.out.1
    go_wp2_with fail
    refine (CX.out _).mono ?_
    rintro e w1 ⟨rfl, hb⟩
    have B1 := Lib.hid (B0.out.later hb)
    clear hb B0 k0 k1
    obtain ⟨z0, z1, f0, f1⟩ := two_facts B1.out.2.1
    go_wp2_with fail
    exact bodyPost_ret (v := .agg #[.int .i64 0, .int .i64 0]) (by simp [results, Try.results23, go_sem, z0, z1]) rfl ⟨by rw [HG.out], set_below (set_below B1.out.2.2 (by omega)) (by omega)⟩
  have CX := Lib.hid (CS.out _ hs)
  cases hl : inB L 1 5
  · have HG := Lib.hid (wt_no (s := (x, y)) (L := L) (by rw [hs, hl]; rfl))
    have CL : Hid (∀ w, Calls Try.prog 42 #[.int .i64 L, .int .i64 1, .int .i64 5] w fun e w' => e = .returned (.bool false) ∧ w = w') := fun w => by rw [← hl]; exact specIn L 1 5 w
    clear hs hl
    go_enter Try.func23, Try.ntmps23
    go_wp2_with fail
    have B0 := Lib.hid (bxs_new x y 0 0 w)
    generalize (w.alloc (.cells #[.int .i64 x, .int .i64 y] 37)).alloc (.cells #[.int .i64 0, .int .i64 0] 31) = W1 at *
    obtain ⟨k0, k1, -, -⟩ := two_facts B0.out.1
    go_wp2_with fail
    refine (CX.out _).mono ?_
    rintro e w1 ⟨rfl, hb⟩
    have B1 := Lib.hid (B0.out.later hb)
    clear hb B0 k0 k1
    go_wp2_with fail
    refine (CL.out _).mono ?_
    rintro e w2 ⟨rfl, rfl⟩
    obtain ⟨z0, z1, f0, f1⟩ := two_facts B1.out.2.1
    go_wp2_with fail
    exact bodyPost_ret (v := .agg #[.int .i64 0, .int .i64 0]) (by simp [results, Try.results23, go_sem, z0, z1]) rfl ⟨by rw [HG.out], set_below (set_below B1.out.2.2 (by omega)) (by omega)⟩
  · have CL : Hid (∀ w, Calls Try.prog 42 #[.int .i64 L, .int .i64 1, .int .i64 5] w fun e w' => e = .returned (.bool true) ∧ w = w') := fun w => by rw [← hl]; exact specIn L 1 5 w
    have HG : Hid (wtB (x, y) L = powG ((x.natAbs : Int) + y + L)) := by unfold Hid wtB; rw [hs, hl]; rfl
    obtain ⟨⟨x0, x1⟩, y0, y1⟩ := sold_yes hs
    have hl' : 1 ≤ L ∧ L ≤ 5 := by simpa [inB] using hl
    obtain ⟨l0, l1⟩ := hl'
    have CP := Lib.hid (fun n w => specPowerOf n w)
    simp only at x0 x1 y0 y1
    obtain ⟨m, hm⟩ : ∃ m : Int, (x.natAbs : Int) = m := ⟨_, rfl⟩
    rw [hm] at HG
    have hmx : (0 ≤ x ∧ m = x) ∨ (x < 0 ∧ m = -x) := by omega
    obtain ⟨⟨u, v⟩, hu⟩ : ∃ r, powG (m + y + L) = r := ⟨_, rfl⟩
    have CP2 := Lib.hid (fun w => CP.out (m + y + L) w)
    rw [hu] at CP2
    have HG2 := Lib.hid (HG.out.trans hu)
    clear hs hl hm HG hu C CP
    rcases hmx with ⟨p0, rfl⟩ | ⟨p0, rfl⟩
    · have q0 : -m ≤ m := by omega
      go_enter Try.func23, Try.ntmps23
      go_wp2_with fail
      have B0 := Lib.hid (bxs_new m y 0 0 w)
      generalize (w.alloc (.cells #[.int .i64 m, .int .i64 y] 37)).alloc (.cells #[.int .i64 0, .int .i64 0] 31) = W1 at *
      obtain ⟨k0, k1, -, -⟩ := two_facts B0.out.1
      go_wp2_with fail
      refine (CX.out _).mono ?_
      rintro e w1 ⟨rfl, hb⟩
      have B1 := Lib.hid (B0.out.later hb)
      clear hb B0 k0 k1
      obtain ⟨k0, k1, -, -⟩ := two_facts B1.out.1
      go_wp2_with fail
      refine (CL.out _).mono ?_
      rintro e w2 ⟨rfl, rfl⟩
      go_wp2_with fail
      refine (CP2.out _).mono ?_
      rintro e w3 ⟨rfl, hb⟩
      have B3 := Lib.hid (B1.out.later hb)
      clear hb B1 k0 k1
      obtain ⟨z0, z1, f0, f1⟩ := two_facts B3.out.2.1
      go_wp2_with fail
      exact bodyPost_ret (v := .agg #[.int .i64 u, .int .i64 v]) (by simp [results, Try.results23, go_sem, z0, z1]) rfl ⟨by rw [HG2.out], set_below (set_below B3.out.2.2 (by omega)) (by omega)⟩
    · have q0 : ¬ -x ≤ x := by omega
      have q1 : x ≤ -x := by omega
      go_enter Try.func23, Try.ntmps23
      go_wp2_with fail
      have B0 := Lib.hid (bxs_new x y 0 0 w)
      generalize (w.alloc (.cells #[.int .i64 x, .int .i64 y] 37)).alloc (.cells #[.int .i64 0, .int .i64 0] 31) = W1 at *
      obtain ⟨k0, k1, -, -⟩ := two_facts B0.out.1
      go_wp2_with fail
      refine (CX.out _).mono ?_
      rintro e w1 ⟨rfl, hb⟩
      have B1 := Lib.hid (B0.out.later hb)
      clear hb B0 k0 k1
      obtain ⟨k0, k1, -, -⟩ := two_facts B1.out.1
      go_wp2_with fail
      refine (CL.out _).mono ?_
      rintro e w2 ⟨rfl, rfl⟩
      go_wp2_with fail
      refine (CP2.out _).mono ?_
      rintro e w3 ⟨rfl, hb⟩
      have B3 := Lib.hid (B1.out.later hb)
      clear hb B1 k0 k1
      obtain ⟨z0, z1, f0, f1⟩ := two_facts B3.out.2.1
      go_wp2_with fail
      exact bodyPost_ret (v := .agg #[.int .i64 u, .int .i64 v]) (by simp [results, Try.results23, go_sem, z0, z1]) rfl ⟨by rw [HG2.out], set_below (set_below B3.out.2.2 (by omega)) (by omega)⟩
set_option maxHeartbeats 2000000 in
set_option maxRecDepth 100000 in
theorem specArmySum {a : Option Addr} {n c : Nat} {xs : List Sd} (L : Int) (w : World) (hx : n ≤ 1048576) (h : SoldsAt w a n xs) : Calls Try.prog 26 #[.slice a n c, .int .i64 L] w (GQ (asumB xs L).1 (asumB xs L).2 w) := by
  have HA := Lib.hid h
  have HN := Lib.hid h.1
  have CO : Hid (∀ w', SoldsAt w' a n xs → Calls Try.prog 20 #[.slice a n c] w' (GB (armyB xs) w')) := fun w' h' => specArmyOk w' hx h'
  cases ho : armyB xs
  · rw [ho] at CO
    have HG := Lib.hid (asum_no (L := L) (by rw [ho]; rfl))
    clear h ho
    go_enter Try.func26, Try.ntmps26
    go_wp2_with fail
    have B0 := Lib.hid (bg2_new 0 0 0 0 w)
    generalize (w.alloc (.cells #[.int .i64 0, .int .i64 0] 31)).alloc (.cells #[.int .i64 0, .int .i64 0] 31) = W1 at *
    go_loopw [6] (fun i wr => i = .int .i64 0 ∧ wr = W1) (fun _ _ => 0)
    case atStart => exact ⟨rfl, rfl⟩
    case round =>
      obtain ⟨rfl, rfl⟩ := hrel
      by_cases hn0 : 0 < n
      · have k1 : (0 : Int) < (n : Int) := by omega
        go_wp2_with fail
        refine (CO.out _ (HA.out.later B0.out.2.2)).mono ?_
        rintro e w1 ⟨rfl, hb⟩
        have B1 := Lib.hid (B0.out.later hb)
        clear hb B0
        obtain ⟨k0, k1, -, -⟩ := two_facts B1.out.2.1
        obtain ⟨z0, z1, f0, f1⟩ := two_facts B1.out.1
        go_wp2_with fail
        exact bodyPost_ret (v := .agg #[.int .i64 0, .int .i64 0]) (by simp [results, Try.results26, go_sem, z0, z1]) rfl ⟨by rw [HG.out], set_below (set_below B1.out.2.2 (by omega)) (by omega)⟩
      · obtain rfl : n = 0 := by omega
        obtain ⟨k0, k1, -, -⟩ := two_facts B0.out.2.1
        obtain ⟨z0, z1, f0, f1⟩ := two_facts B0.out.1
        go_wp2_with fail
        exact bodyPost_ret (v := .agg #[.int .i64 0, .int .i64 0]) (by simp [results, Try.results26, go_sem, z0, z1]) rfl ⟨by rw [HG.out], set_below (set_below B0.out.2.2 (by omega)) (by omega)⟩
  · rw [ho] at CO
    have HG := Lib.hid (asum_sum (L := L) ho)
    have h60 : n ≤ 60 := by have := (army_yes ho).2.2; rw [h.1] at this; exact this
    have HS := Lib.hid (fun k => wsum_in L (xs.take k))
    have HW := Lib.hid (fun s => wt_in s L)
    have CW := Lib.hid (fun x y w => specWeightTo x y L w)
    clear h ho
    go_enter Try.func26, Try.ntmps26
    go_wp2_with fail
    have B0 := Lib.hid (bg2_new 0 0 0 0 w)
    generalize (w.alloc (.cells #[.int .i64 0, .int .i64 0] 31)).alloc (.cells #[.int .i64 0, .int .i64 0] 31) = W1 at *
    go_loopw [6] (fun i wr => ∃ (k : Nat) (u v : Int), k ≤ n ∧ i = .int .i64 k ∧ Hid (wsum (xs.take k) L = (u, v)) ∧ Hid (Bg2 0 0 u v w wr)) (fun i _ => n - (intOf i).toNat)
    case atStart => exact ⟨0, 0, 0, Nat.zero_le _, rfl, rfl, B0⟩
    case round =>
      clear B0
      obtain ⟨k, u, v, hk, rfl, HX, B1⟩ := hrel
      by_cases hkn : k < n
      · have k0 : (0 : Int) ≤ (k : Int) := by omega
        have k1 : (k : Int) < (n : Int) := by omega
        obtain ⟨⟨x, y⟩, hs⟩ : ∃ s, xs[k]? = some s := ⟨_, List.getElem?_eq_getElem (by rw [HN.out]; exact hkn)⟩
        obtain ⟨b, off, rfl, hb, -⟩ := HA.out.cell hkn
        have HC : Hid (∀ w', Below w.heap.size w w' → w'.cell? ⟨b, off + k * 2, none⟩ = some (.int .i64 x) ∧ w'.cell? ⟨b, off + k * 2 + 1, none⟩ = some (.int .i64 y)) := fun w' hw' => by
          obtain ⟨b', off', e, -, g⟩ := (HA.out.later hw').cell hkn
          cases e
          exact g k _ hs
        have CX := Lib.hid (fun w => CW.out x y w)
        have hin := HW.out (x, y)
        have hsum := HS.out k
        rw [HX.out, List.length_take, HN.out, Nat.min_eq_left (by omega)] at hsum
        have HX' : Hid (wsum (xs.take (k + 1)) L = (u + (wtB (x, y) L).1, v + (wtB (x, y) L).2)) := by unfold Hid; rw [take_one hs, wsum_snoc, HX.out]
        obtain ⟨⟨p, q⟩, hp⟩ : ∃ r, wtB (x, y) L = r := ⟨_, rfl⟩
        rw [hp] at hin HX' CX
        obtain ⟨⟨p0, p1⟩, q0, q1⟩ := hin
        obtain ⟨⟨u0, u1⟩, v0, v1⟩ := hsum
        simp only at p0 p1 q0 q1 u0 u1 v0 v1 HX' CX
        clear hs hp HX
        go_wp2_with fail
        refine (CO.out _ (HA.out.later B1.out.2.2)).mono ?_
        rintro e w3 ⟨rfl, hb3⟩
        have B3 := Lib.hid (B1.out.later hb3)
        clear hb3 B1
        obtain ⟨d0, d1⟩ := HC.out _ B3.out.2.2
        go_wp2_with fail
        refine (CX.out _).mono ?_
        rintro e w5 ⟨rfl, hb5⟩
        have B5 := Lib.hid (B3.out.later hb5)
        clear hb5 B3 d0 d1
        have hba : Below w5.heap.size w5 (w5.alloc (.cells #[.int .i64 p, .int .i64 q] 31)) := (Below.refl _ _).alloc (Nat.le_refl _) _
        have B6 := Lib.hid (B5.out.later hba)
        obtain ⟨k0', k1', f0, f1⟩ := two_facts B6.out.2.1
        have B7 : Hid (Bg2 0 0 (u + p) (v + q) w (((w5.alloc (.cells #[.int .i64 p, .int .i64 q] 31)).setCell ⟨w.heap.size + 1, 0, none⟩ (.int .i64 (u + p))).setCell ⟨w.heap.size + 1, 1, none⟩ (.int .i64 (v + q)))) :=
          ⟨bg_other B6.out.1 (by omega), bg_set B6.out.2.1, set_below (set_below B6.out.2.2 (by omega)) (by omega)⟩
        go_wp2_with fail
        go_roundw
        case rel => exact ⟨k + 1, u + p, v + q, by omega, by go_num, HX', B7⟩
        case measure => simp [intOf]; omega
      · obtain rfl : k = n := by omega
        have hfull : Hid (xs.take k = xs) := List.take_of_length_le (by rw [HN.out]; exact Nat.le_refl _)
        rw [hfull.out] at HX
        obtain ⟨k0, k1, -, -⟩ := two_facts B1.out.2.1
        obtain ⟨z0, z1, f0, f1⟩ := two_facts B1.out.1
        go_wp2_with fail
        exact bodyPost_ret (v := .agg #[.int .i64 u, .int .i64 v]) (by simp [results, Try.results26, go_sem, z0, z1]) rfl ⟨by rw [HG.out, HX.out], set_below (set_below B1.out.2.2 (by omega)) (by omega)⟩
set_option maxHeartbeats 2000000 in
set_option maxRecDepth 100000 in
theorem specMayReach {a : Option Addr} {n c : Nat} {xs : List Sd} (L : Int) (w : World) (hx : n ≤ 1048576) (h : SoldsAt w a n xs) : Calls Try.prog 27 #[.slice a n c, .int .i64 L] w (GB (mayB xs L) w) := by
  have HA := Lib.hid h
  have CO : Hid (∀ w', SoldsAt w' a n xs → Calls Try.prog 20 #[.slice a n c] w' (GB (armyB xs) w')) := fun w' h' => specArmyOk w' hx h'
  cases ho : armyB xs
  · rw [ho] at CO
    have HG := Lib.hid (may_no (L := L) (by rw [ho]; rfl))
    clear h ho
    go_enter Try.func27, Try.ntmps27
    go_wp2_with fail
    refine (CO.out _ HA.out).mono ?_
    rintro e w1 ⟨rfl, hb⟩
    go_wp2_with fail
    go_ret
    exact ⟨ret_bool HG.out.symm, hb⟩
  · rw [ho] at CO
    cases hl : inB L 1 5
    · have HG := Lib.hid (may_no (l := xs) (L := L) (by rw [ho, hl]; rfl))
      have CL : Hid (∀ w, Calls Try.prog 42 #[.int .i64 L, .int .i64 1, .int .i64 5] w fun e w' => e = .returned (.bool false) ∧ w = w') := fun w => by rw [← hl]; exact specIn L 1 5 w
      clear h ho hl
      go_enter Try.func27, Try.ntmps27
      go_wp2_with fail
      refine (CO.out _ HA.out).mono ?_
      rintro e w1 ⟨rfl, hb⟩
      have HB := Lib.hid hb
      clear hb
      go_wp2_with fail
      refine (CL.out _).mono ?_
      rintro e w2 ⟨rfl, rfl⟩
      go_wp2_with fail
      go_ret
      exact ⟨ret_bool HG.out.symm, HB.out⟩
    · have CL : Hid (∀ w, Calls Try.prog 42 #[.int .i64 L, .int .i64 1, .int .i64 5] w fun e w' => e = .returned (.bool true) ∧ w = w') := fun w => by rw [← hl]; exact specIn L 1 5 w
      have HG : Hid (mayB xs L = decide (0 ≤ cmpG (asumB xs L).1 (asumB xs L).2 1 0)) := by unfold Hid mayB; rw [ho, hl]; rfl
      have CS : Hid (∀ w', SoldsAt w' a n xs → Calls Try.prog 26 #[.slice a n c, .int .i64 L] w' (GQ (asumB xs L).1 (asumB xs L).2 w')) := fun w' h' => specArmySum L w' hx h'
      obtain ⟨⟨u, v⟩, hu⟩ : ∃ r, asumB xs L = r := ⟨_, rfl⟩
      rw [hu] at HG CS
      have CC := Lib.hid (fun w => specCompareGold u v 1 0 w)
      simp only at HG CS
      generalize cmpG u v 1 0 = m at *
      clear h ho hl hu
      by_cases hm : 0 ≤ m
      · have HG : Hid (mayB xs L = true) := by unfold Hid; rw [HG.out]; simp [hm]
        go_enter Try.func27, Try.ntmps27
        go_wp2_with fail
        refine (CO.out _ HA.out).mono ?_
        rintro e w1 ⟨rfl, hb⟩
        have HB := Lib.hid hb
        clear hb
        go_wp2_with fail
        refine (CL.out _).mono ?_
        rintro e w2 ⟨rfl, rfl⟩
        go_wp2_with fail
        refine (CS.out _ (HA.out.later HB.out)).mono ?_
        rintro e w3 ⟨rfl, hb⟩
        have HB3 := Lib.hid (HB.out.trans (hb.mono HB.out.size))
        clear hb HB
        go_wp2_with fail
        refine (CC.out _).mono ?_
        rintro e w4 ⟨rfl, hb⟩
        have HB4 := Lib.hid (HB3.out.trans (hb.mono HB3.out.size))
        clear hb HB3
        go_wp2_with fail
        go_ret
        exact ⟨ret_bool (by first | exact HG.out.symm | (rw [HG.out]; simp [hm])), HB4.out⟩
      · have HG : Hid (mayB xs L = false) := by unfold Hid; rw [HG.out]; simp [hm]
        go_enter Try.func27, Try.ntmps27
        go_wp2_with fail
        refine (CO.out _ HA.out).mono ?_
        rintro e w1 ⟨rfl, hb⟩
        have HB := Lib.hid hb
        clear hb
        go_wp2_with fail
        refine (CL.out _).mono ?_
        rintro e w2 ⟨rfl, rfl⟩
        go_wp2_with fail
        refine (CS.out _ (HA.out.later HB.out)).mono ?_
        rintro e w3 ⟨rfl, hb⟩
        have HB3 := Lib.hid (HB.out.trans (hb.mono HB.out.size))
        clear hb HB
        go_wp2_with fail
        refine (CC.out _).mono ?_
        rintro e w4 ⟨rfl, hb⟩
        have HB4 := Lib.hid (HB3.out.trans (hb.mono HB3.out.size))
        clear hb HB3
        go_wp2_with fail
        go_ret
        exact ⟨ret_bool (by first | exact HG.out.symm | (rw [HG.out]; simp [hm])), HB4.out⟩
end Go.Proofs.Ytoginbmflomjeaa
