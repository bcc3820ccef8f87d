/- Armies of the program: ArmySum, MayReach. -/
import Derived.Test.YtoginbmflomjeaaArmyI
import Derived.Test.YtoginbmflomjeaaGolds
namespace Go.Proofs.Ytoginbmflomjeaa
open Go.RowKit
set_option linter.unusedVariables false
set_option linter.unusedSimpArgs false
/-- The result's block and the sum's. -/
def SumA (q : Nat) (x y : Int) (w0 w : World) : Prop := Bg 31 w0.heap.size 0 0 w ∧ Bg 31 q x y w ∧ Below w0.heap.size w0 w ∧ w0.heap.size < q
theorem SumA.later {q : Nat} {x y : Int} {w0 w w' : World} (h : SumA q x y w0 w) (hb : Below w.heap.size w w') : SumA q x y w0 w' := ⟨h.1.later hb, h.2.1.later hb, h.2.2.1.trans (hb.mono h.2.2.1.size), h.2.2.2⟩
theorem SumA.set {q : Nat} {x y u v : Int} {w0 w : World} (h : SumA q x y w0 w) : SumA q u v w0 (putG w q u v) :=
  ⟨bg_other h.1 (by have := h.2.2.2; omega), bg_set h.2.1, set_below (set_below h.2.2.1 (by have := h.2.2.2; omega)) (by have := h.2.2.2; omega), h.2.2.2⟩
theorem wsum_gold_take {xs : List Sd} (h : xs.length ≤ 60) (L : Int) (k : Nat) : goldB (wsum (xs.take k) L).1 (wsum (xs.take k) L).2 = true := wsum_gold (Nat.le_trans (List.length_take_le' _ _) h) L
theorem wt_gold (s : Sd) (L : Int) : goldB (wtB s L).1 (wtB s L).2 = true := by
  have := wt_in s L
  exact gold_of (by omega)
set_option maxHeartbeats 4000000 in
set_option maxRecDepth 100000 in
theorem implArmySum {a : Option Addr} {n c : Nat} {xs : List Sd} (L : Int) (w : World) (hx : n ≤ 1048576) (h : SoldsAt w a n xs) : Calls Try.prog 15 #[.slice a n c, .int .i64 L] w (GQ (asumB xs L).1 (asumB xs L).2 w) := by
  have HA := Lib.hid h
  have HN := Lib.hid h.1
  have CO : Hid (∀ w', SoldsAt w' a n xs → Calls Try.prog 18 #[.slice a n c] w' (GB (armyB xs) w')) := fun w' h' => implArmyOk w' hx h'
  cases ho : armyB xs
  · rw [ho] at CO
    have HG := Lib.hid (asum_no (L := L) (by rw [ho]; rfl))
    clear h ho
    go_enter Try.func15, Try.ntmps15
    go_wp2_with fail
    have B0 := Lib.hid (bg1_new 0 0 w)
    generalize w.alloc (.cells #[.int .i64 0, .int .i64 0] 31) = W1 at *
    refine (CO.out _ (HA.out.later B0.out.2)).mono ?_
    rintro e w1 ⟨rfl, hb⟩
    have B1 := Lib.hid (B0.out.later hb)
    clear hb B0
    obtain ⟨z0, z1, f0, f1⟩ := two_facts B1.out.1
    go_wp2_with fail
    exact bodyPost_ret (v := .agg #[.int .i64 0, .int .i64 0]) (by simp [results, Try.results15, go_sem, z0, z1]) rfl ⟨by rw [HG.out], set_below (set_below B1.out.2 (by omega)) (by omega)⟩
  · rw [ho] at CO
    have HG := Lib.hid (asum_sum (L := L) ho)
    have h60 : n ≤ 60 := by have := (army_yes ho).2.2; rw [h.1] at this; exact this
    have HGB := Lib.hid (fun k => wsum_gold_take (xs := xs) (army_yes ho).2.2 L k)
    have HGK := Lib.hid (fun s => wt_gold s L)
    have CW := Lib.hid (fun x y w => implWeightTo x y L w)
    have CL := Lib.hid (fun a b c d ha hc w => implPlus a b c d ha hc w)
    clear h ho
    go_enter Try.func15, Try.ntmps15
    go_wp2_with fail
    have B0 := Lib.hid (bg1_new 0 0 w)
    generalize w.alloc (.cells #[.int .i64 0, .int .i64 0] 31) = W1 at *
    refine (CO.out _ (HA.out.later B0.out.2)).mono ?_
    rintro e w1 ⟨rfl, hb⟩
    have B1 := Lib.hid (B0.out.later hb)
    clear hb B0
    have hba : Below w1.heap.size w1 (w1.alloc (.cells #[.int .i64 0, .int .i64 0] 31)) := (Below.refl _ _).alloc (Nat.le_refl _) _
    have S2 : Hid (SumA w1.heap.size 0 0 w (w1.alloc (.cells #[.int .i64 0, .int .i64 0] 31))) := ⟨(B1.out.later hba).1, heap_alloc_new w1 _, (B1.out.later hba).2, row_lt2 B1.out.1⟩
    go_wp2_with fail
    generalize w1.alloc (.cells #[.int .i64 0, .int .i64 0] 31) = w2 at *
    generalize w1.heap.size = q at *
    clear hba B1
    go_loopw [15] (fun i wr => ∃ (k : Nat) (u v : Int), k ≤ n ∧ i = .int .i64 k ∧ Hid (wsum (xs.take k) L = (u, v)) ∧ Hid (SumA q u v w wr)) (fun i _ => n - (intOf i).toNat)
    case atStart => exact ⟨0, 0, 0, Nat.zero_le _, rfl, rfl, S2⟩
    case round =>
      clear S2
      obtain ⟨k, u, v, hk, rfl, HX, HS⟩ := hrel
      by_cases hkn : k < n
      · have k0 : (0 : Int) ≤ (k : Int) := by omega
        have k1 : (k : Int) < (n : Int) := by omega
        obtain ⟨⟨x, y⟩, hs⟩ : ∃ s, xs[k]? = some s := ⟨_, List.getElem?_eq_getElem (by rw [HN.out]; exact hkn)⟩
        obtain ⟨b, off, rfl, hb, hc⟩ := (HA.out.later HS.out.2.2.1).cell hkn
        obtain ⟨c0, c1⟩ := hc k _ hs
        simp only at c0 c1
        have G1 := Lib.hid (HGB.out k)
        rw [HX.out] at G1
        have G2 := Lib.hid (HGK.out (x, y))
        have HX' : Hid (wsum (xs.take (k + 1)) L = (u + (wtB (x, y) L).1, v + (wtB (x, y) L).2)) := by unfold Hid; rw [take_one hs, wsum_snoc, HX.out]
        have CX := Lib.hid (fun w => CW.out x y w)
        obtain ⟨p, hp⟩ : ∃ r, (wtB (x, y) L).1 = r := ⟨_, rfl⟩
        obtain ⟨r, hr⟩ : ∃ r, (wtB (x, y) L).2 = r := ⟨_, rfl⟩
        rw [hp, hr] at HX' CX G2
        have CL2 := Lib.hid (fun w => CL.out u v p r G1.out G2.out w)
        have hba : Below wr.heap.size wr (wr.alloc (.cells #[.int .i64 x, .int .i64 y] 37)) := (Below.refl _ _).alloc (Nat.le_refl _) _
        have HS2 := Lib.hid (HS.out.later hba)
        have HQ2 : Hid (Bg 37 wr.heap.size x y (wr.alloc (.cells #[.int .i64 x, .int .i64 y] 37))) := heap_alloc_new wr _
        clear hs hp hr HX hc G1 G2 HS
        go_wp2_with fail
        generalize wr.alloc (.cells #[.int .i64 x, .int .i64 y] 37) = w3 at *
        generalize wr.heap.size = t at *
        clear hba c0 c1
        refine wp_region_script (by kernel_rfl) (by kernel_rfl) ?_
        refine Script.load (i := 0) (v := ?_) rfl (by kernel_rfl) (by kernel_rfl) (fun _ _ _ h => h) (by kernel_rfl) ?_ ?_
        rotate_left
        · (intro wS hSw; have hB := After.trans (After.drew (After.refl _)) hSw; obtain ⟨k0, k1, f0, f1⟩ := two_facts (HS2.out.later hB).2.1; obtain ⟨d0, d1, -, -⟩ := two_facts (HQ2.out.later hB); go_simp; try with_reducible rfl)
        try simp only [Act.put, List.getElem_toArray, List.getElem_cons_succ, List.getElem_cons_zero, List.setIfInBounds_toArray, List.set_cons_zero, List.set_cons_succ]
        refine Script.load (i := 1) (v := ?_) rfl (by kernel_rfl) (by kernel_rfl) (fun _ _ _ h => h) (by kernel_rfl) ?_ ?_
        rotate_left
        · (intro wS hSw; have hB := After.trans (After.drew (After.refl _)) hSw; obtain ⟨k0, k1, f0, f1⟩ := two_facts (HS2.out.later hB).2.1; obtain ⟨d0, d1, -, -⟩ := two_facts (HQ2.out.later hB); go_simp; try with_reducible rfl)
        try simp only [Act.put, List.getElem_toArray, List.getElem_cons_succ, List.getElem_cons_zero, List.setIfInBounds_toArray, List.set_cons_zero, List.set_cons_succ]
        refine Script.load (i := 2) (v := ?_) rfl (by kernel_rfl) (by kernel_rfl) (fun _ _ _ h => h) (by kernel_rfl) ?_ ?_
        rotate_left
        · (intro wS hSw; have hB := After.trans (After.drew (After.refl _)) hSw; obtain ⟨k0, k1, f0, f1⟩ := two_facts (HS2.out.later hB).2.1; obtain ⟨d0, d1, -, -⟩ := two_facts (HQ2.out.later hB); go_simp; try with_reducible rfl)
        try simp only [Act.put, List.getElem_toArray, List.getElem_cons_succ, List.getElem_cons_zero, List.setIfInBounds_toArray, List.set_cons_zero, List.set_cons_succ]
        refine Script.call (i := 3) (v := ?_) rfl (by kernel_rfl) (by kernel_rfl) (fun _ _ _ h => h) (by kernel_rfl) ?_ ?_
        rotate_left
        · (intro wS hSw K hK; have hB := After.trans (After.drew (After.refl _)) hSw; obtain ⟨k0, k1, f0, f1⟩ := two_facts (HS2.out.later hB).2.1; obtain ⟨d0, d1, -, -⟩ := two_facts (HQ2.out.later hB); go_simp; go_at_call 17; refine (CX.out _).mono ?_; rintro e wc ⟨rfl, hbc⟩; exact hK.out _ hbc)
        try simp only [Act.put, List.getElem_toArray, List.getElem_cons_succ, List.getElem_cons_zero, List.setIfInBounds_toArray, List.set_cons_zero, List.set_cons_succ]
        refine Script.call (i := 4) (v := ?_) rfl (by kernel_rfl) (by kernel_rfl) (fun _ _ _ h => h) (by kernel_rfl) ?_ ?_
        rotate_left
        · (intro wS hSw K hK; have hB := After.trans (After.drew (After.refl _)) hSw; obtain ⟨k0, k1, f0, f1⟩ := two_facts (HS2.out.later hB).2.1; obtain ⟨d0, d1, -, -⟩ := two_facts (HQ2.out.later hB); go_simp; go_at_call 36; refine (CL2.out _).mono ?_; rintro e wc ⟨rfl, hbc⟩; exact hK.out _ hbc)
        try simp only [Act.put, List.getElem_toArray, List.getElem_cons_succ, List.getElem_cons_zero, List.setIfInBounds_toArray, List.set_cons_zero, List.set_cons_succ]
        refine Script.last (i := 5) rfl (by kernel_rfl) (by kernel_rfl) (by kernel_rfl) ?_
        intro wO hO hGO K hK; have hSw := hO; have hB := After.trans (After.drew (After.refl _)) hSw; obtain ⟨k0, k1, f0, f1⟩ := two_facts (HS2.out.later hB).2.1; obtain ⟨d0, d1, -, -⟩ := two_facts (HQ2.out.later hB); go_simp
        clear hSw
        refine hK.out undef _ ?_
        clear hK K
        try simp only [Act.put, List.getElem_toArray, List.getElem_cons_succ, List.getElem_cons_zero, List.setIfInBounds_toArray, List.set_cons_zero, List.set_cons_succ]
        refine Script.done (by kernel_rfl) ?_
        intro wD hD hG
        have HS3 := Lib.hid (((HS2.out.later (After.trans (After.drew (After.refl _)) hO)).set (u := u + p) (v := v + r)).later hD)
        clear HS2 hO hD hG CX CL2 HQ2
        go_wp2_with fail
        go_roundw
        case rel => exact ⟨k + 1, u + p, v + r, by omega, by go_num, HX', HS3⟩
        case measure => simp [intOf]; omega
      · obtain rfl : k = n := by omega
        have hfull : Hid (xs.take k = xs) := List.take_of_length_le (by rw [HN.out]; exact Nat.le_refl _)
        rw [hfull.out] at HX
        obtain ⟨k0, k1, -, -⟩ := two_facts HS.out.2.1
        obtain ⟨z0, z1, f0, f1⟩ := two_facts HS.out.1
        go_wp2_with fail
        exact bodyPost_ret (v := .agg #[.int .i64 u, .int .i64 v]) (by simp [results, Try.results15, go_sem, z0, z1]) rfl ⟨by rw [HG.out, HX.out], set_below (set_below HS.out.2.2.1 (by omega)) (by omega)⟩
theorem may_cmp (l : List Sd) (L : Int) : mayB l L = decide (0 ≤ cmpG (asumB l L).1 (asumB l L).2 1 0) := by
  cases h : armyB l && inB L 1 5
  · rw [may_no h, asum_no h]; rfl
  · unfold mayB; rw [h]; rfl
set_option maxHeartbeats 2000000 in
set_option maxRecDepth 100000 in
theorem implMayReach {a : Option Addr} {n c : Nat} {xs : List Sd} (L : Int) (w : World) (hx : n ≤ 1048576) (h : SoldsAt w a n xs) : Calls Try.prog 12 #[.slice a n c, .int .i64 L] w (GB (mayB xs L) w) := by
  have CS := Lib.hid (implArmySum (c := c) L w hx h)
  have HG := Lib.hid (may_cmp xs L)
  obtain ⟨u, hu⟩ : ∃ r, (asumB xs L).1 = r := ⟨_, rfl⟩
  obtain ⟨v, hv⟩ : ∃ r, (asumB xs L).2 = r := ⟨_, rfl⟩
  rw [hu, hv] at CS HG
  have CP : Hid (∀ w, Calls Try.prog 31 #[.int .i64 0] w (GQ 1 0 w)) := fun w => implPowerOf 0 w
  have CC := Lib.hid (fun w => implCompareGold u v 1 0 w)
  generalize cmpG u v 1 0 = m at *
  clear h hu hv
  by_cases hm : 0 ≤ m
  all_goals
    go_enter Try.func12, Try.ntmps12
    go_wp2_with fail
    refine CS.out.mono ?_
    rintro e w1 ⟨rfl, hb1⟩
    have HB1 := Lib.hid hb1
    clear hb1
    go_wp2_with fail
    refine (CP.out _).mono ?_
    rintro e w2 ⟨rfl, hb⟩
    have HB2 := Lib.hid (HB1.out.trans (hb.mono HB1.out.size))
    clear hb HB1
    go_wp2_with fail
    refine (CC.out _).mono ?_
    rintro e w3 ⟨rfl, hb⟩
    have HB3 := Lib.hid (HB2.out.trans (hb.mono HB2.out.size))
    clear hb HB2
    go_wp2_with fail
    go_ret
    exact ⟨ret_bool (by rw [HG.out]; try simp [hm]), HB3.out⟩
end Go.Proofs.Ytoginbmflomjeaa
