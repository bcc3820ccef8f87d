/- Ways, of the program: GoodJumps, WayTo, JumpsBetween, IsSpoiled, WayToSingle, for every three ints and ints up to 2^63 - 1. -/
import Derived.Test.YtlklnabnomfhbaaGreatWayI
namespace Go.Proofs.YtlklnabnomfhbaaGreat
open Go.RowKit
set_option linter.unusedVariables false
set_option linter.unusedSimpArgs false
set_option maxHeartbeats 4000000 in
set_option maxRecDepth 100000 in
theorem implGoodJ (W H Z P G : Int) (hP : P ≤ 9223372036854775807) (hG : G ≤ 9223372036854775807) (w : World) : Calls Tryz.prog 8 #[.agg #[.int .i64 W, .int .i64 H, .int .i64 Z], .int .i64 P, .int .i64 G] w (OwnLines (goodL W H Z P G) w) := by
  have CS := Lib.hid (fun b (h : smallB W H Z = b) w => implSmall_is h w)
  cases hs : smallB W H Z
  · have CS := Lib.hid (CS.out _ hs)
    rw [goodL_no (by rw [hs]; rfl)]
    clear hs hP hG
    go_enter Tryz.func8, Tryz.ntmps8
    go_wp2_with fail
    have B0 := Lib.hid (box_new W H Z w)
    generalize w.alloc (.cells #[.int .i64 W, .int .i64 H, .int .i64 Z] 25) = W1 at *
    obtain ⟨c0, c1, c2, hlt, hb1⟩ := B0.out
    go_wp2_with fail
    refine (CS.out _).mono ?_
    rintro e w1 ⟨rfl, hb⟩
    have B1 := Lib.hid (B0.out.later hb)
    have hp : Hid (OwnLines [] w (.returned (.slice none 0 0)) w1) := ⟨_, rfl, World.ownsRow_nil _ _ _ _, B1.out.2.2.2.2⟩
    clear hb c0 c1 c2 hlt hb1
    go_wp2_with fail
    go_ret
    exact hp.out
  · have CX := Lib.hid (CS.out _ hs)
    obtain ⟨a, b, N, z, rfl, rfl, rfl, ho, hN, h16⟩ := small_nat hs
    have CJ := Lib.hid (fun w => implJumpTo a b z G w)
    have CF := Lib.hid (fun (B bk bg bl bi bm n0 vc bj : Nat) (va : Option Addr) (w : World) (hJ : JSt (lnsOf (a : Int) b z) G B bk bg bl bi bm va n0 vc bj w) (hK : Knows a b z G bm w) => implFitG ho h16 P hP w hJ hK)
    generalize goodL (a : Int) b z P G = res at *
    clear hs hP hG ho hN h16 CS
    go_enter Tryz.func8, Tryz.ntmps8
    go_wp2_with fail
    have B0 := Lib.hid (box_new a b z w)
    generalize w.alloc (.cells #[.int .i64 (a : Int), .int .i64 (b : Int), .int .i64 (z : Int)] 25) = W1 at *
    obtain ⟨c0, c1, c2, hlt, hb1⟩ := B0.out
    go_wp2_with fail
    refine (CX.out _).mono ?_
    rintro e w1 ⟨rfl, hb⟩
    have B1 := Lib.hid (B0.out.later hb)
    clear hb c0 c1 c2 hlt hb1 B0
    go_wp2_with fail
    refine wp_region_script (by kernel_rfl) (by kernel_rfl) ?_
    refine Script.load (i := 0) (v := ?_) rfl (by kernel_rfl) (by kernel_rfl) (fun _ _ _ h => h) (by kernel_rfl) ?_ ?_
    rotate_left
    · (intro wS hSw; obtain ⟨c0, c1, c2, -, -⟩ := B1.out.later (After.trans (After.drew (After.refl _)) hSw); go_simp; try with_reducible rfl)
    try simp only [Act.put, List.getElem_toArray, List.getElem_cons_succ, List.getElem_cons_zero, List.setIfInBounds_toArray, List.set_cons_zero, List.set_cons_succ]
    refine Script.load (i := 1) (v := ?_) rfl (by kernel_rfl) (by kernel_rfl) (fun _ _ _ h => h) (by kernel_rfl) ?_ ?_
    rotate_left
    · (intro wS hSw; obtain ⟨c0, c1, c2, -, -⟩ := B1.out.later (After.trans (After.drew (After.refl _)) hSw); go_simp; try with_reducible rfl)
    try simp only [Act.put, List.getElem_toArray, List.getElem_cons_succ, List.getElem_cons_zero, List.setIfInBounds_toArray, List.set_cons_zero, List.set_cons_succ]
    refine Script.load (i := 2) (v := ?_) rfl (by kernel_rfl) (by kernel_rfl) (fun _ _ _ h => h) (by kernel_rfl) ?_ ?_
    rotate_left
    · (intro wS hSw; obtain ⟨c0, c1, c2, -, -⟩ := B1.out.later (After.trans (After.drew (After.refl _)) hSw); go_simp; try with_reducible rfl)
    try simp only [Act.put, List.getElem_toArray, List.getElem_cons_succ, List.getElem_cons_zero, List.setIfInBounds_toArray, List.set_cons_zero, List.set_cons_succ]
    refine Script.load (i := 3) (v := ?_) rfl (by kernel_rfl) (by kernel_rfl) (fun _ _ _ h => h) (by kernel_rfl) ?_ ?_
    rotate_left
    · (intro wS hSw; obtain ⟨c0, c1, c2, -, -⟩ := B1.out.later (After.trans (After.drew (After.refl _)) hSw); go_simp; try with_reducible rfl)
    try simp only [Act.put, List.getElem_toArray, List.getElem_cons_succ, List.getElem_cons_zero, List.setIfInBounds_toArray, List.set_cons_zero, List.set_cons_succ]
    refine Script.one (i := 4) rfl (by kernel_rfl) (by kernel_rfl) ?_
    intro wO hO K hK; have hSw := hO; obtain ⟨c0, c1, c2, -, -⟩ := B1.out.later (After.trans (After.drew (After.refl _)) hSw); go_simp
    clear hSw
    go_at_call 20; refine (CJ.out _).mono ?_; rintro e wc ⟨bk, bg, bl, bi, bm, va, n0, vc, bj, rfl, hj, hk, hbc⟩
    refine hK.out _ _ hbc ?_
    clear hK K
    try simp only [Act.put, List.getElem_toArray, List.getElem_cons_succ, List.getElem_cons_zero, List.setIfInBounds_toArray, List.set_cons_zero, List.set_cons_succ]
    have HJ := Lib.hid hj
    have HKn := Lib.hid hk
    have HO := Lib.hid (After.trans (After.drew (After.refl _)) (After.trans hO hbc))
    have HOz := Lib.hid hO.size
    clear hj hk c0 c1 c2
    refine Script.last (i := 5) rfl (by kernel_rfl) (by kernel_rfl) (by kernel_rfl) ?_
    intro wP hP hGP K hK; go_simp
    refine (CF.out _ _ _ _ _ _ _ _ _ _ wP (HJ.out.grown (grown_below hP _)) (HKn.out.later hP)).mono ?_
    rintro e wc2 ⟨v, rfl, ho, hk, hg⟩
    have HR := Lib.hid ho
    have HGc := Lib.hid hg
    have HPz := Lib.hid hP
    refine hK.out _ _ ?_
    clear hK K ho hk hg
    try simp only [Act.put, List.getElem_toArray, List.getElem_cons_succ, List.getElem_cons_zero, List.setIfInBounds_toArray, List.set_cons_zero, List.set_cons_succ]
    refine Script.load (i := 6) (v := ?_) rfl (by kernel_rfl) (by kernel_rfl) (fun _ _ _ h => h) (by kernel_rfl) ?_ ?_
    rotate_left
    · (intro wS hSw; skip; go_simp; try with_reducible rfl)
    try simp only [Act.put, List.getElem_toArray, List.getElem_cons_succ, List.getElem_cons_zero, List.setIfInBounds_toArray, List.set_cons_zero, List.set_cons_succ]
    refine Script.done (by kernel_rfl) ?_
    intro wD hD hG
    have hwz := B1.out.2.2.2.2.size
    have hp : Hid (OwnLines res w (.returned v) wD) := by
      have h1 : Below w.heap.size w wP := B1.out.2.2.2.2.trans (Below.mono (After.trans HO.out HPz.out) hwz)
      have h2 : Below w.heap.size w wc2 := h1.grown HGc.out h1.size (fun k hk => by
        cases hk
        have := HJ.out.fix.lo
        have := HOz.out
        simp at this
        omega)
      exact ⟨v, rfl, own_base (own_below HR.out hD) h1.size, h2.trans (Below.mono hD h2.size)⟩
    clear hD hG
    go_wp2_with fail
    go_ret
    exact hp.out
set_option maxRecDepth 100000 in
theorem implJBetween (W H Z P G : Int) (hP : P ≤ 9223372036854775807) (hG : G ≤ 9223372036854775807) (w : World) : Calls Tryz.prog 7 #[.agg #[.int .i64 W, .int .i64 H, .int .i64 Z], .int .i64 P, .int .i64 G] w (QI (betwB W H Z P G) w) := by
  have CO := Lib.hid (fun w => implCanRch W H Z P G hP hG w)
  have CP := Lib.hid (fun w => implPegs W H Z P hP w)
  have CG := Lib.hid (fun w => implPegs W H Z G hG w)
  have hx := count_in W H Z P
  have hy := count_in W H Z G
  obtain ⟨res, hres⟩ : ∃ r, betwB W H Z P G = r := ⟨_, rfl⟩
  rw [hres]
  unfold betwB at hres
  generalize reachB false W H Z P G = can at *
  generalize countB W H Z P = x at *
  generalize countB W H Z G = y at *
  have hw : IntKind.i64.wrap (x - y) = x - y := IntWalk.i64_in _ (by omega)
  have HRes := Lib.hid hres
  clear hP hG hx hy hres
  go_enter Tryz.func7, Tryz.ntmps7
  go_wp2_with fail
  have B0 := Lib.hid (box_new W H Z w)
  generalize w.alloc (.cells #[.int .i64 W, .int .i64 H, .int .i64 Z] 25) = W1 at *
  obtain ⟨c0, c1, c2, hlt, hb1⟩ := B0.out
  go_wp2_with fail
  refine (CO.out _).mono ?_
  rintro e w1 ⟨rfl, hb⟩
  have B1 := Lib.hid (B0.out.later hb)
  clear hb c0 c1 c2 hlt hb1 B0
  cases can
  · have hr : Hid (res = -1) := by have := HRes.out; simpa [Hid] using this.symm
    go_wp2_with fail
    go_ret
    exact ⟨ret_int hr.out.symm, B1.out.2.2.2.2⟩
  · have hr : Hid (res = x - y) := by have := HRes.out; simpa [Hid] using this.symm
    go_wp2_with fail
    refine wp_region_script (by kernel_rfl) (by kernel_rfl) ?_
    refine Script.load (i := 0) (v := ?_) rfl (by kernel_rfl) (by kernel_rfl) (fun _ _ _ h => h) (by kernel_rfl) ?_ ?_
    rotate_left
    · (intro wS hSw; obtain ⟨c0, c1, c2, -, -⟩ := B1.out.later (After.trans (After.drew (After.refl _)) hSw); go_simp; try with_reducible rfl)
    try simp only [Act.put, List.getElem_toArray, List.getElem_cons_succ, List.getElem_cons_zero, List.setIfInBounds_toArray, List.set_cons_zero, List.set_cons_succ]
    refine Script.load (i := 1) (v := ?_) rfl (by kernel_rfl) (by kernel_rfl) (fun _ _ _ h => h) (by kernel_rfl) ?_ ?_
    rotate_left
    · (intro wS hSw; obtain ⟨c0, c1, c2, -, -⟩ := B1.out.later (After.trans (After.drew (After.refl _)) hSw); go_simp; try with_reducible rfl)
    try simp only [Act.put, List.getElem_toArray, List.getElem_cons_succ, List.getElem_cons_zero, List.setIfInBounds_toArray, List.set_cons_zero, List.set_cons_succ]
    refine Script.call (i := 2) (v := ?_) rfl (by kernel_rfl) (by kernel_rfl) (fun _ _ _ h => h) (by kernel_rfl) ?_ ?_
    rotate_left
    · (intro wS hSw K hK; obtain ⟨c0, c1, c2, -, -⟩ := B1.out.later (After.trans (After.drew (After.refl _)) hSw); go_simp; go_at_call 23; refine (CP.out _).mono ?_; rintro e wc ⟨rfl, hbc⟩; exact hK.out _ hbc)
    try simp only [Act.put, List.getElem_toArray, List.getElem_cons_succ, List.getElem_cons_zero, List.setIfInBounds_toArray, List.set_cons_zero, List.set_cons_succ]
    refine Script.load (i := 3) (v := ?_) rfl (by kernel_rfl) (by kernel_rfl) (fun _ _ _ h => h) (by kernel_rfl) ?_ ?_
    rotate_left
    · (intro wS hSw; obtain ⟨c0, c1, c2, -, -⟩ := B1.out.later (After.trans (After.drew (After.refl _)) hSw); go_simp; try with_reducible rfl)
    try simp only [Act.put, List.getElem_toArray, List.getElem_cons_succ, List.getElem_cons_zero, List.setIfInBounds_toArray, List.set_cons_zero, List.set_cons_succ]
    refine Script.load (i := 4) (v := ?_) rfl (by kernel_rfl) (by kernel_rfl) (fun _ _ _ h => h) (by kernel_rfl) ?_ ?_
    rotate_left
    · (intro wS hSw; obtain ⟨c0, c1, c2, -, -⟩ := B1.out.later (After.trans (After.drew (After.refl _)) hSw); go_simp; try with_reducible rfl)
    try simp only [Act.put, List.getElem_toArray, List.getElem_cons_succ, List.getElem_cons_zero, List.setIfInBounds_toArray, List.set_cons_zero, List.set_cons_succ]
    refine Script.call (i := 5) (v := ?_) rfl (by kernel_rfl) (by kernel_rfl) (fun _ _ _ h => h) (by kernel_rfl) ?_ ?_
    rotate_left
    · (intro wS hSw K hK; obtain ⟨c0, c1, c2, -, -⟩ := B1.out.later (After.trans (After.drew (After.refl _)) hSw); go_simp; go_at_call 23; refine (CG.out _).mono ?_; rintro e wc ⟨rfl, hbc⟩; exact hK.out _ hbc)
    try simp only [Act.put, List.getElem_toArray, List.getElem_cons_succ, List.getElem_cons_zero, List.setIfInBounds_toArray, List.set_cons_zero, List.set_cons_succ]
    refine Script.load (i := 6) (v := ?_) rfl (by kernel_rfl) (by kernel_rfl) (fun _ _ _ h => h) (by kernel_rfl) ?_ ?_
    rotate_left
    · (intro wS hSw; obtain ⟨c0, c1, c2, -, -⟩ := B1.out.later (After.trans (After.drew (After.refl _)) hSw); go_simp; try with_reducible rfl)
    try simp only [Act.put, List.getElem_toArray, List.getElem_cons_succ, List.getElem_cons_zero, List.setIfInBounds_toArray, List.set_cons_zero, List.set_cons_succ]
    refine Script.load (i := 7) (v := ?_) rfl (by kernel_rfl) (by kernel_rfl) (fun _ _ _ h => h) (by kernel_rfl) ?_ ?_
    rotate_left
    · (intro wS hSw; obtain ⟨c0, c1, c2, -, -⟩ := B1.out.later (After.trans (After.drew (After.refl _)) hSw); go_simp; try with_reducible rfl)
    try simp only [Act.put, List.getElem_toArray, List.getElem_cons_succ, List.getElem_cons_zero, List.setIfInBounds_toArray, List.set_cons_zero, List.set_cons_succ]
    refine Script.done (by kernel_rfl) ?_
    intro wD hD hG
    have B2 := Lib.hid (B1.out.later (After.trans (After.drew (After.refl _)) hD))
    clear hD hG
    go_wp2_with fail
    go_ret
    exact ⟨ret_int hr.out.symm, B2.out.2.2.2.2⟩
set_option maxHeartbeats 2000000 in
set_option maxRecDepth 100000 in
theorem implSpoil (W H Z P G f o t : Int) (hP : P ≤ 9223372036854775807) (hG : G ≤ 9223372036854775807) (w : World) : Calls Tryz.prog 13 #[.agg #[.int .i64 W, .int .i64 H, .int .i64 Z], .int .i64 P, .int .i64 G, .agg #[.int .i64 f, .int .i64 o, .int .i64 t]] w (QB (spoilB W H Z P G (f, o, t)) w) := by
  have CO := Lib.hid (fun w => implCanRch W H Z P G hP hG w)
  have CD := Lib.hid (fun w => implCan W H Z P f o t hP w)
  cases hr : reachB false W H Z P G
  · rw [spoilB_no hr]
    rw [hr] at CO
    clear hr hP hG CD
    go_enter Tryz.func13, Tryz.ntmps13
    go_wp2_with fail
    have B0 := Lib.hid (bx2_new W H Z f o t 25 39 w)
    generalize (w.alloc (.cells #[.int .i64 W, .int .i64 H, .int .i64 Z] 25)).alloc (.cells #[.int .i64 f, .int .i64 o, .int .i64 t] 39) = W1 at *
    refine wp_region_script (by kernel_rfl) (by kernel_rfl) ?_
    refine Script.load (i := 0) (v := ?_) rfl (by kernel_rfl) (by kernel_rfl) (fun _ _ _ h => h) (by kernel_rfl) ?_ ?_
    rotate_left
    · (intro wS hSw; obtain ⟨⟨c0, c1, c2, -, -⟩, ⟨d0, d1, d2, -, -⟩⟩ := B0.out.later (After.trans (After.drew (After.refl _)) hSw); go_simp; try with_reducible rfl)
    try simp only [Act.put, List.getElem_toArray, List.getElem_cons_succ, List.getElem_cons_zero, List.setIfInBounds_toArray, List.set_cons_zero, List.set_cons_succ]
    refine Script.load (i := 1) (v := ?_) rfl (by kernel_rfl) (by kernel_rfl) (fun _ _ _ h => h) (by kernel_rfl) ?_ ?_
    rotate_left
    · (intro wS hSw; obtain ⟨⟨c0, c1, c2, -, -⟩, ⟨d0, d1, d2, -, -⟩⟩ := B0.out.later (After.trans (After.drew (After.refl _)) hSw); go_simp; try with_reducible rfl)
    try simp only [Act.put, List.getElem_toArray, List.getElem_cons_succ, List.getElem_cons_zero, List.setIfInBounds_toArray, List.set_cons_zero, List.set_cons_succ]
    refine Script.load (i := 2) (v := ?_) rfl (by kernel_rfl) (by kernel_rfl) (fun _ _ _ h => h) (by kernel_rfl) ?_ ?_
    rotate_left
    · (intro wS hSw; obtain ⟨⟨c0, c1, c2, -, -⟩, ⟨d0, d1, d2, -, -⟩⟩ := B0.out.later (After.trans (After.drew (After.refl _)) hSw); go_simp; try with_reducible rfl)
    try simp only [Act.put, List.getElem_toArray, List.getElem_cons_succ, List.getElem_cons_zero, List.setIfInBounds_toArray, List.set_cons_zero, List.set_cons_succ]
    refine Script.call (i := 3) (v := ?_) rfl (by kernel_rfl) (by kernel_rfl) (fun _ _ _ h => h) (by kernel_rfl) ?_ ?_
    rotate_left
    · (intro wS hSw K hK; obtain ⟨⟨c0, c1, c2, -, -⟩, ⟨d0, d1, d2, -, -⟩⟩ := B0.out.later (After.trans (After.drew (After.refl _)) hSw); go_simp; go_at_call 19; refine (CO.out _).mono ?_; rintro e wc ⟨rfl, hbc⟩; exact hK.out _ hbc)
    try simp only [Act.put, List.getElem_toArray, List.getElem_cons_succ, List.getElem_cons_zero, List.setIfInBounds_toArray, List.set_cons_zero, List.set_cons_succ]
    refine Script.load (i := 4) (v := ?_) rfl (by kernel_rfl) (by kernel_rfl) (fun _ _ _ h => h) (by kernel_rfl) ?_ ?_
    rotate_left
    · (intro wS hSw; obtain ⟨⟨c0, c1, c2, -, -⟩, ⟨d0, d1, d2, -, -⟩⟩ := B0.out.later (After.trans (After.drew (After.refl _)) hSw); go_simp; try with_reducible rfl)
    try simp only [Act.put, List.getElem_toArray, List.getElem_cons_succ, List.getElem_cons_zero, List.setIfInBounds_toArray, List.set_cons_zero, List.set_cons_succ]
    refine Script.skip (i := 5) rfl (by kernel_rfl) (by kernel_rfl) (fun _ _ _ h => h) (by kernel_rfl) ?_
    try simp only [Act.put, List.getElem_toArray, List.getElem_cons_succ, List.getElem_cons_zero, List.setIfInBounds_toArray, List.set_cons_zero, List.set_cons_succ]
    refine Script.skip (i := 6) rfl (by kernel_rfl) (by kernel_rfl) (fun _ _ _ h => h) (by kernel_rfl) ?_
    try simp only [Act.put, List.getElem_toArray, List.getElem_cons_succ, List.getElem_cons_zero, List.setIfInBounds_toArray, List.set_cons_zero, List.set_cons_succ]
    refine Script.skip (i := 7) rfl (by kernel_rfl) (by kernel_rfl) (fun _ _ _ h => h) (by kernel_rfl) ?_
    try simp only [Act.put, List.getElem_toArray, List.getElem_cons_succ, List.getElem_cons_zero, List.setIfInBounds_toArray, List.set_cons_zero, List.set_cons_succ]
    refine Script.skip (i := 8) rfl (by kernel_rfl) (by kernel_rfl) (fun _ _ _ h => h) (by kernel_rfl) ?_
    try simp only [Act.put, List.getElem_toArray, List.getElem_cons_succ, List.getElem_cons_zero, List.setIfInBounds_toArray, List.set_cons_zero, List.set_cons_succ]
    refine Script.load (i := 9) (v := ?_) rfl (by kernel_rfl) (by kernel_rfl) (fun _ _ _ h => h) (by kernel_rfl) ?_ ?_
    rotate_left
    · (intro wS hSw; obtain ⟨⟨c0, c1, c2, -, -⟩, ⟨d0, d1, d2, -, -⟩⟩ := B0.out.later (After.trans (After.drew (After.refl _)) hSw); go_simp; try with_reducible rfl)
    try simp only [Act.put, List.getElem_toArray, List.getElem_cons_succ, List.getElem_cons_zero, List.setIfInBounds_toArray, List.set_cons_zero, List.set_cons_succ]
    refine Script.load (i := 10) (v := ?_) rfl (by kernel_rfl) (by kernel_rfl) (fun _ _ _ h => h) (by kernel_rfl) ?_ ?_
    rotate_left
    · (intro wS hSw; obtain ⟨⟨c0, c1, c2, -, -⟩, ⟨d0, d1, d2, -, -⟩⟩ := B0.out.later (After.trans (After.drew (After.refl _)) hSw); go_simp; try with_reducible rfl)
    try simp only [Act.put, List.getElem_toArray, List.getElem_cons_succ, List.getElem_cons_zero, List.setIfInBounds_toArray, List.set_cons_zero, List.set_cons_succ]
    refine Script.skip (i := 11) rfl (by kernel_rfl) (by kernel_rfl) (fun _ _ _ h => h) (by kernel_rfl) ?_
    try simp only [Act.put, List.getElem_toArray, List.getElem_cons_succ, List.getElem_cons_zero, List.setIfInBounds_toArray, List.set_cons_zero, List.set_cons_succ]
    refine Script.skip (i := 12) rfl (by kernel_rfl) (by kernel_rfl) (fun _ _ _ h => h) (by kernel_rfl) ?_
    try simp only [Act.put, List.getElem_toArray, List.getElem_cons_succ, List.getElem_cons_zero, List.setIfInBounds_toArray, List.set_cons_zero, List.set_cons_succ]
    refine Script.skip (i := 13) rfl (by kernel_rfl) (by kernel_rfl) (fun _ _ _ h => h) (by kernel_rfl) ?_
    try simp only [Act.put, List.getElem_toArray, List.getElem_cons_succ, List.getElem_cons_zero, List.setIfInBounds_toArray, List.set_cons_zero, List.set_cons_succ]
    refine Script.skip (i := 14) rfl (by kernel_rfl) (by kernel_rfl) (fun _ _ _ h => h) (by kernel_rfl) ?_
    try simp only [Act.put, List.getElem_toArray, List.getElem_cons_succ, List.getElem_cons_zero, List.setIfInBounds_toArray, List.set_cons_zero, List.set_cons_succ]
    refine Script.skip (i := 15) rfl (by kernel_rfl) (by kernel_rfl) (fun _ _ _ h => h) (by kernel_rfl) ?_
    try simp only [Act.put, List.getElem_toArray, List.getElem_cons_succ, List.getElem_cons_zero, List.setIfInBounds_toArray, List.set_cons_zero, List.set_cons_succ]
    refine Script.skip (i := 16) rfl (by kernel_rfl) (by kernel_rfl) (fun _ _ _ h => h) (by kernel_rfl) ?_
    try simp only [Act.put, List.getElem_toArray, List.getElem_cons_succ, List.getElem_cons_zero, List.setIfInBounds_toArray, List.set_cons_zero, List.set_cons_succ]
    refine Script.skip (i := 17) rfl (by kernel_rfl) (by kernel_rfl) (fun _ _ _ h => h) (by kernel_rfl) ?_
    try simp only [Act.put, List.getElem_toArray, List.getElem_cons_succ, List.getElem_cons_zero, List.setIfInBounds_toArray, List.set_cons_zero, List.set_cons_succ]
    refine Script.load (i := 18) (v := ?_) rfl (by kernel_rfl) (by kernel_rfl) (fun _ _ _ h => h) (by kernel_rfl) ?_ ?_
    rotate_left
    · (intro wS hSw; obtain ⟨⟨c0, c1, c2, -, -⟩, ⟨d0, d1, d2, -, -⟩⟩ := B0.out.later (After.trans (After.drew (After.refl _)) hSw); go_simp; try with_reducible rfl)
    try simp only [Act.put, List.getElem_toArray, List.getElem_cons_succ, List.getElem_cons_zero, List.setIfInBounds_toArray, List.set_cons_zero, List.set_cons_succ]
    refine Script.load (i := 19) (v := ?_) rfl (by kernel_rfl) (by kernel_rfl) (fun _ _ _ h => h) (by kernel_rfl) ?_ ?_
    rotate_left
    · (intro wS hSw; obtain ⟨⟨c0, c1, c2, -, -⟩, ⟨d0, d1, d2, -, -⟩⟩ := B0.out.later (After.trans (After.drew (After.refl _)) hSw); go_simp; try with_reducible rfl)
    try simp only [Act.put, List.getElem_toArray, List.getElem_cons_succ, List.getElem_cons_zero, List.setIfInBounds_toArray, List.set_cons_zero, List.set_cons_succ]
    refine Script.done (by kernel_rfl) ?_
    intro wD hD hG
    have B1 := Lib.hid (B0.out.later (After.trans (After.drew (After.refl _)) hD))
    clear hD hG
    go_wp2_with fail
    go_ret
    exact ⟨rfl, B1.out.1.2.2.2.2⟩
  rw [hr] at CO
  cases hj : jumpB W H Z P (f, o, t)
  · rw [spoilB_not hj]
    rw [hj] at CD
    clear hr hj hP hG
    go_enter Tryz.func13, Tryz.ntmps13
    go_wp2_with fail
    have B0 := Lib.hid (bx2_new W H Z f o t 25 39 w)
    generalize (w.alloc (.cells #[.int .i64 W, .int .i64 H, .int .i64 Z] 25)).alloc (.cells #[.int .i64 f, .int .i64 o, .int .i64 t] 39) = W1 at *
    refine wp_region_script (by kernel_rfl) (by kernel_rfl) ?_
    refine Script.load (i := 0) (v := ?_) rfl (by kernel_rfl) (by kernel_rfl) (fun _ _ _ h => h) (by kernel_rfl) ?_ ?_
    rotate_left
    · (intro wS hSw; obtain ⟨⟨c0, c1, c2, -, -⟩, ⟨d0, d1, d2, -, -⟩⟩ := B0.out.later (After.trans (After.drew (After.refl _)) hSw); go_simp; try with_reducible rfl)
    try simp only [Act.put, List.getElem_toArray, List.getElem_cons_succ, List.getElem_cons_zero, List.setIfInBounds_toArray, List.set_cons_zero, List.set_cons_succ]
    refine Script.load (i := 1) (v := ?_) rfl (by kernel_rfl) (by kernel_rfl) (fun _ _ _ h => h) (by kernel_rfl) ?_ ?_
    rotate_left
    · (intro wS hSw; obtain ⟨⟨c0, c1, c2, -, -⟩, ⟨d0, d1, d2, -, -⟩⟩ := B0.out.later (After.trans (After.drew (After.refl _)) hSw); go_simp; try with_reducible rfl)
    try simp only [Act.put, List.getElem_toArray, List.getElem_cons_succ, List.getElem_cons_zero, List.setIfInBounds_toArray, List.set_cons_zero, List.set_cons_succ]
    refine Script.load (i := 2) (v := ?_) rfl (by kernel_rfl) (by kernel_rfl) (fun _ _ _ h => h) (by kernel_rfl) ?_ ?_
    rotate_left
    · (intro wS hSw; obtain ⟨⟨c0, c1, c2, -, -⟩, ⟨d0, d1, d2, -, -⟩⟩ := B0.out.later (After.trans (After.drew (After.refl _)) hSw); go_simp; try with_reducible rfl)
    try simp only [Act.put, List.getElem_toArray, List.getElem_cons_succ, List.getElem_cons_zero, List.setIfInBounds_toArray, List.set_cons_zero, List.set_cons_succ]
    refine Script.call (i := 3) (v := ?_) rfl (by kernel_rfl) (by kernel_rfl) (fun _ _ _ h => h) (by kernel_rfl) ?_ ?_
    rotate_left
    · (intro wS hSw K hK; obtain ⟨⟨c0, c1, c2, -, -⟩, ⟨d0, d1, d2, -, -⟩⟩ := B0.out.later (After.trans (After.drew (After.refl _)) hSw); go_simp; go_at_call 19; refine (CO.out _).mono ?_; rintro e wc ⟨rfl, hbc⟩; exact hK.out _ hbc)
    try simp only [Act.put, List.getElem_toArray, List.getElem_cons_succ, List.getElem_cons_zero, List.setIfInBounds_toArray, List.set_cons_zero, List.set_cons_succ]
    refine Script.load (i := 4) (v := ?_) rfl (by kernel_rfl) (by kernel_rfl) (fun _ _ _ h => h) (by kernel_rfl) ?_ ?_
    rotate_left
    · (intro wS hSw; obtain ⟨⟨c0, c1, c2, -, -⟩, ⟨d0, d1, d2, -, -⟩⟩ := B0.out.later (After.trans (After.drew (After.refl _)) hSw); go_simp; try with_reducible rfl)
    try simp only [Act.put, List.getElem_toArray, List.getElem_cons_succ, List.getElem_cons_zero, List.setIfInBounds_toArray, List.set_cons_zero, List.set_cons_succ]
    refine Script.load (i := 5) (v := ?_) rfl (by kernel_rfl) (by kernel_rfl) (fun _ _ _ h => h) (by kernel_rfl) ?_ ?_
    rotate_left
    · (intro wS hSw; obtain ⟨⟨c0, c1, c2, -, -⟩, ⟨d0, d1, d2, -, -⟩⟩ := B0.out.later (After.trans (After.drew (After.refl _)) hSw); go_simp; try with_reducible rfl)
    try simp only [Act.put, List.getElem_toArray, List.getElem_cons_succ, List.getElem_cons_zero, List.setIfInBounds_toArray, List.set_cons_zero, List.set_cons_succ]
    refine Script.load (i := 6) (v := ?_) rfl (by kernel_rfl) (by kernel_rfl) (fun _ _ _ h => h) (by kernel_rfl) ?_ ?_
    rotate_left
    · (intro wS hSw; obtain ⟨⟨c0, c1, c2, -, -⟩, ⟨d0, d1, d2, -, -⟩⟩ := B0.out.later (After.trans (After.drew (After.refl _)) hSw); go_simp; try with_reducible rfl)
    try simp only [Act.put, List.getElem_toArray, List.getElem_cons_succ, List.getElem_cons_zero, List.setIfInBounds_toArray, List.set_cons_zero, List.set_cons_succ]
    refine Script.load (i := 7) (v := ?_) rfl (by kernel_rfl) (by kernel_rfl) (fun _ _ _ h => h) (by kernel_rfl) ?_ ?_
    rotate_left
    · (intro wS hSw; obtain ⟨⟨c0, c1, c2, -, -⟩, ⟨d0, d1, d2, -, -⟩⟩ := B0.out.later (After.trans (After.drew (After.refl _)) hSw); go_simp; try with_reducible rfl)
    try simp only [Act.put, List.getElem_toArray, List.getElem_cons_succ, List.getElem_cons_zero, List.setIfInBounds_toArray, List.set_cons_zero, List.set_cons_succ]
    refine Script.call (i := 8) (v := ?_) rfl (by kernel_rfl) (by kernel_rfl) (fun _ _ _ h => h) (by kernel_rfl) ?_ ?_
    rotate_left
    · (intro wS hSw K hK; obtain ⟨⟨c0, c1, c2, -, -⟩, ⟨d0, d1, d2, -, -⟩⟩ := B0.out.later (After.trans (After.drew (After.refl _)) hSw); go_simp; go_at_call 32; refine (CD.out _).mono ?_; rintro e wc ⟨rfl, hbc⟩; exact hK.out _ hbc)
    try simp only [Act.put, List.getElem_toArray, List.getElem_cons_succ, List.getElem_cons_zero, List.setIfInBounds_toArray, List.set_cons_zero, List.set_cons_succ]
    refine Script.load (i := 9) (v := ?_) rfl (by kernel_rfl) (by kernel_rfl) (fun _ _ _ h => h) (by kernel_rfl) ?_ ?_
    rotate_left
    · (intro wS hSw; obtain ⟨⟨c0, c1, c2, -, -⟩, ⟨d0, d1, d2, -, -⟩⟩ := B0.out.later (After.trans (After.drew (After.refl _)) hSw); go_simp; try with_reducible rfl)
    try simp only [Act.put, List.getElem_toArray, List.getElem_cons_succ, List.getElem_cons_zero, List.setIfInBounds_toArray, List.set_cons_zero, List.set_cons_succ]
    refine Script.load (i := 10) (v := ?_) rfl (by kernel_rfl) (by kernel_rfl) (fun _ _ _ h => h) (by kernel_rfl) ?_ ?_
    rotate_left
    · (intro wS hSw; obtain ⟨⟨c0, c1, c2, -, -⟩, ⟨d0, d1, d2, -, -⟩⟩ := B0.out.later (After.trans (After.drew (After.refl _)) hSw); go_simp; try with_reducible rfl)
    try simp only [Act.put, List.getElem_toArray, List.getElem_cons_succ, List.getElem_cons_zero, List.setIfInBounds_toArray, List.set_cons_zero, List.set_cons_succ]
    refine Script.skip (i := 11) rfl (by kernel_rfl) (by kernel_rfl) (fun _ _ _ h => h) (by kernel_rfl) ?_
    try simp only [Act.put, List.getElem_toArray, List.getElem_cons_succ, List.getElem_cons_zero, List.setIfInBounds_toArray, List.set_cons_zero, List.set_cons_succ]
    refine Script.skip (i := 12) rfl (by kernel_rfl) (by kernel_rfl) (fun _ _ _ h => h) (by kernel_rfl) ?_
    try simp only [Act.put, List.getElem_toArray, List.getElem_cons_succ, List.getElem_cons_zero, List.setIfInBounds_toArray, List.set_cons_zero, List.set_cons_succ]
    refine Script.skip (i := 13) rfl (by kernel_rfl) (by kernel_rfl) (fun _ _ _ h => h) (by kernel_rfl) ?_
    try simp only [Act.put, List.getElem_toArray, List.getElem_cons_succ, List.getElem_cons_zero, List.setIfInBounds_toArray, List.set_cons_zero, List.set_cons_succ]
    refine Script.skip (i := 14) rfl (by kernel_rfl) (by kernel_rfl) (fun _ _ _ h => h) (by kernel_rfl) ?_
    try simp only [Act.put, List.getElem_toArray, List.getElem_cons_succ, List.getElem_cons_zero, List.setIfInBounds_toArray, List.set_cons_zero, List.set_cons_succ]
    refine Script.skip (i := 15) rfl (by kernel_rfl) (by kernel_rfl) (fun _ _ _ h => h) (by kernel_rfl) ?_
    try simp only [Act.put, List.getElem_toArray, List.getElem_cons_succ, List.getElem_cons_zero, List.setIfInBounds_toArray, List.set_cons_zero, List.set_cons_succ]
    refine Script.skip (i := 16) rfl (by kernel_rfl) (by kernel_rfl) (fun _ _ _ h => h) (by kernel_rfl) ?_
    try simp only [Act.put, List.getElem_toArray, List.getElem_cons_succ, List.getElem_cons_zero, List.setIfInBounds_toArray, List.set_cons_zero, List.set_cons_succ]
    refine Script.skip (i := 17) rfl (by kernel_rfl) (by kernel_rfl) (fun _ _ _ h => h) (by kernel_rfl) ?_
    try simp only [Act.put, List.getElem_toArray, List.getElem_cons_succ, List.getElem_cons_zero, List.setIfInBounds_toArray, List.set_cons_zero, List.set_cons_succ]
    refine Script.load (i := 18) (v := ?_) rfl (by kernel_rfl) (by kernel_rfl) (fun _ _ _ h => h) (by kernel_rfl) ?_ ?_
    rotate_left
    · (intro wS hSw; obtain ⟨⟨c0, c1, c2, -, -⟩, ⟨d0, d1, d2, -, -⟩⟩ := B0.out.later (After.trans (After.drew (After.refl _)) hSw); go_simp; try with_reducible rfl)
    try simp only [Act.put, List.getElem_toArray, List.getElem_cons_succ, List.getElem_cons_zero, List.setIfInBounds_toArray, List.set_cons_zero, List.set_cons_succ]
    refine Script.load (i := 19) (v := ?_) rfl (by kernel_rfl) (by kernel_rfl) (fun _ _ _ h => h) (by kernel_rfl) ?_ ?_
    rotate_left
    · (intro wS hSw; obtain ⟨⟨c0, c1, c2, -, -⟩, ⟨d0, d1, d2, -, -⟩⟩ := B0.out.later (After.trans (After.drew (After.refl _)) hSw); go_simp; try with_reducible rfl)
    try simp only [Act.put, List.getElem_toArray, List.getElem_cons_succ, List.getElem_cons_zero, List.setIfInBounds_toArray, List.set_cons_zero, List.set_cons_succ]
    refine Script.done (by kernel_rfl) ?_
    intro wD hD hG
    have B1 := Lib.hid (B0.out.later (After.trans (After.drew (After.refl _)) hD))
    clear hD hG
    go_wp2_with fail
    go_ret
    exact ⟨rfl, B1.out.1.2.2.2.2⟩
  · rw [spoilB_yes hr hj]
    rw [hj] at CD
    obtain ⟨a, b, N, z, p, f', o', t', S, -⟩ := jump_set hj
    obtain ⟨hpb, hf, ho, ht⟩ := S.bounds
    rw [S.flip]
    have C2 := Lib.hid (fun w => implFlip p f' o' t' hpb hf ho ht w)
    have hfb := flip_big S
    have e3 := S.eP
    have e4 := S.at'.eq
    simp only [Prod.mk.injEq] at e4
    obtain ⟨e4, e5, e6⟩ := e4
    generalize flipN p f' o' t' = r at *
    have CR := Lib.hid (fun w => implCanRch W H Z (r : Int) G (by omega) hG w)
    generalize reachB false W H Z (r : Int) G = can at *
    clear hr hj hP hG S hpb hf ho ht hfb
    subst e3 e4 e5 e6
    go_enter Tryz.func13, Tryz.ntmps13
    go_wp2_with fail
    have B0 := Lib.hid (bx2_new W H Z f' o' t' 25 39 w)
    generalize (w.alloc (.cells #[.int .i64 W, .int .i64 H, .int .i64 Z] 25)).alloc (.cells #[.int .i64 (f' : Int), .int .i64 (o' : Int), .int .i64 (t' : Int)] 39) = W1 at *
    refine wp_region_script (by kernel_rfl) (by kernel_rfl) ?_
    refine Script.load (i := 0) (v := ?_) rfl (by kernel_rfl) (by kernel_rfl) (fun _ _ _ h => h) (by kernel_rfl) ?_ ?_
    rotate_left
    · (intro wS hSw; obtain ⟨⟨c0, c1, c2, -, -⟩, ⟨d0, d1, d2, -, -⟩⟩ := B0.out.later (After.trans (After.drew (After.refl _)) hSw); go_simp; try with_reducible rfl)
    try simp only [Act.put, List.getElem_toArray, List.getElem_cons_succ, List.getElem_cons_zero, List.setIfInBounds_toArray, List.set_cons_zero, List.set_cons_succ]
    refine Script.load (i := 1) (v := ?_) rfl (by kernel_rfl) (by kernel_rfl) (fun _ _ _ h => h) (by kernel_rfl) ?_ ?_
    rotate_left
    · (intro wS hSw; obtain ⟨⟨c0, c1, c2, -, -⟩, ⟨d0, d1, d2, -, -⟩⟩ := B0.out.later (After.trans (After.drew (After.refl _)) hSw); go_simp; try with_reducible rfl)
    try simp only [Act.put, List.getElem_toArray, List.getElem_cons_succ, List.getElem_cons_zero, List.setIfInBounds_toArray, List.set_cons_zero, List.set_cons_succ]
    refine Script.load (i := 2) (v := ?_) rfl (by kernel_rfl) (by kernel_rfl) (fun _ _ _ h => h) (by kernel_rfl) ?_ ?_
    rotate_left
    · (intro wS hSw; obtain ⟨⟨c0, c1, c2, -, -⟩, ⟨d0, d1, d2, -, -⟩⟩ := B0.out.later (After.trans (After.drew (After.refl _)) hSw); go_simp; try with_reducible rfl)
    try simp only [Act.put, List.getElem_toArray, List.getElem_cons_succ, List.getElem_cons_zero, List.setIfInBounds_toArray, List.set_cons_zero, List.set_cons_succ]
    refine Script.call (i := 3) (v := ?_) rfl (by kernel_rfl) (by kernel_rfl) (fun _ _ _ h => h) (by kernel_rfl) ?_ ?_
    rotate_left
    · (intro wS hSw K hK; obtain ⟨⟨c0, c1, c2, -, -⟩, ⟨d0, d1, d2, -, -⟩⟩ := B0.out.later (After.trans (After.drew (After.refl _)) hSw); go_simp; go_at_call 19; refine (CO.out _).mono ?_; rintro e wc ⟨rfl, hbc⟩; exact hK.out _ hbc)
    try simp only [Act.put, List.getElem_toArray, List.getElem_cons_succ, List.getElem_cons_zero, List.setIfInBounds_toArray, List.set_cons_zero, List.set_cons_succ]
    refine Script.load (i := 4) (v := ?_) rfl (by kernel_rfl) (by kernel_rfl) (fun _ _ _ h => h) (by kernel_rfl) ?_ ?_
    rotate_left
    · (intro wS hSw; obtain ⟨⟨c0, c1, c2, -, -⟩, ⟨d0, d1, d2, -, -⟩⟩ := B0.out.later (After.trans (After.drew (After.refl _)) hSw); go_simp; try with_reducible rfl)
    try simp only [Act.put, List.getElem_toArray, List.getElem_cons_succ, List.getElem_cons_zero, List.setIfInBounds_toArray, List.set_cons_zero, List.set_cons_succ]
    refine Script.load (i := 5) (v := ?_) rfl (by kernel_rfl) (by kernel_rfl) (fun _ _ _ h => h) (by kernel_rfl) ?_ ?_
    rotate_left
    · (intro wS hSw; obtain ⟨⟨c0, c1, c2, -, -⟩, ⟨d0, d1, d2, -, -⟩⟩ := B0.out.later (After.trans (After.drew (After.refl _)) hSw); go_simp; try with_reducible rfl)
    try simp only [Act.put, List.getElem_toArray, List.getElem_cons_succ, List.getElem_cons_zero, List.setIfInBounds_toArray, List.set_cons_zero, List.set_cons_succ]
    refine Script.load (i := 6) (v := ?_) rfl (by kernel_rfl) (by kernel_rfl) (fun _ _ _ h => h) (by kernel_rfl) ?_ ?_
    rotate_left
    · (intro wS hSw; obtain ⟨⟨c0, c1, c2, -, -⟩, ⟨d0, d1, d2, -, -⟩⟩ := B0.out.later (After.trans (After.drew (After.refl _)) hSw); go_simp; try with_reducible rfl)
    try simp only [Act.put, List.getElem_toArray, List.getElem_cons_succ, List.getElem_cons_zero, List.setIfInBounds_toArray, List.set_cons_zero, List.set_cons_succ]
    refine Script.load (i := 7) (v := ?_) rfl (by kernel_rfl) (by kernel_rfl) (fun _ _ _ h => h) (by kernel_rfl) ?_ ?_
    rotate_left
    · (intro wS hSw; obtain ⟨⟨c0, c1, c2, -, -⟩, ⟨d0, d1, d2, -, -⟩⟩ := B0.out.later (After.trans (After.drew (After.refl _)) hSw); go_simp; try with_reducible rfl)
    try simp only [Act.put, List.getElem_toArray, List.getElem_cons_succ, List.getElem_cons_zero, List.setIfInBounds_toArray, List.set_cons_zero, List.set_cons_succ]
    refine Script.call (i := 8) (v := ?_) rfl (by kernel_rfl) (by kernel_rfl) (fun _ _ _ h => h) (by kernel_rfl) ?_ ?_
    rotate_left
    · (intro wS hSw K hK; obtain ⟨⟨c0, c1, c2, -, -⟩, ⟨d0, d1, d2, -, -⟩⟩ := B0.out.later (After.trans (After.drew (After.refl _)) hSw); go_simp; go_at_call 32; refine (CD.out _).mono ?_; rintro e wc ⟨rfl, hbc⟩; exact hK.out _ hbc)
    try simp only [Act.put, List.getElem_toArray, List.getElem_cons_succ, List.getElem_cons_zero, List.setIfInBounds_toArray, List.set_cons_zero, List.set_cons_succ]
    refine Script.load (i := 9) (v := ?_) rfl (by kernel_rfl) (by kernel_rfl) (fun _ _ _ h => h) (by kernel_rfl) ?_ ?_
    rotate_left
    · (intro wS hSw; obtain ⟨⟨c0, c1, c2, -, -⟩, ⟨d0, d1, d2, -, -⟩⟩ := B0.out.later (After.trans (After.drew (After.refl _)) hSw); go_simp; try with_reducible rfl)
    try simp only [Act.put, List.getElem_toArray, List.getElem_cons_succ, List.getElem_cons_zero, List.setIfInBounds_toArray, List.set_cons_zero, List.set_cons_succ]
    refine Script.load (i := 10) (v := ?_) rfl (by kernel_rfl) (by kernel_rfl) (fun _ _ _ h => h) (by kernel_rfl) ?_ ?_
    rotate_left
    · (intro wS hSw; obtain ⟨⟨c0, c1, c2, -, -⟩, ⟨d0, d1, d2, -, -⟩⟩ := B0.out.later (After.trans (After.drew (After.refl _)) hSw); go_simp; try with_reducible rfl)
    try simp only [Act.put, List.getElem_toArray, List.getElem_cons_succ, List.getElem_cons_zero, List.setIfInBounds_toArray, List.set_cons_zero, List.set_cons_succ]
    refine Script.load (i := 11) (v := ?_) rfl (by kernel_rfl) (by kernel_rfl) (fun _ _ _ h => h) (by kernel_rfl) ?_ ?_
    rotate_left
    · (intro wS hSw; obtain ⟨⟨c0, c1, c2, -, -⟩, ⟨d0, d1, d2, -, -⟩⟩ := B0.out.later (After.trans (After.drew (After.refl _)) hSw); go_simp; try with_reducible rfl)
    try simp only [Act.put, List.getElem_toArray, List.getElem_cons_succ, List.getElem_cons_zero, List.setIfInBounds_toArray, List.set_cons_zero, List.set_cons_succ]
    refine Script.load (i := 12) (v := ?_) rfl (by kernel_rfl) (by kernel_rfl) (fun _ _ _ h => h) (by kernel_rfl) ?_ ?_
    rotate_left
    · (intro wS hSw; obtain ⟨⟨c0, c1, c2, -, -⟩, ⟨d0, d1, d2, -, -⟩⟩ := B0.out.later (After.trans (After.drew (After.refl _)) hSw); go_simp; try with_reducible rfl)
    try simp only [Act.put, List.getElem_toArray, List.getElem_cons_succ, List.getElem_cons_zero, List.setIfInBounds_toArray, List.set_cons_zero, List.set_cons_succ]
    refine Script.load (i := 13) (v := ?_) rfl (by kernel_rfl) (by kernel_rfl) (fun _ _ _ h => h) (by kernel_rfl) ?_ ?_
    rotate_left
    · (intro wS hSw; obtain ⟨⟨c0, c1, c2, -, -⟩, ⟨d0, d1, d2, -, -⟩⟩ := B0.out.later (After.trans (After.drew (After.refl _)) hSw); go_simp; try with_reducible rfl)
    try simp only [Act.put, List.getElem_toArray, List.getElem_cons_succ, List.getElem_cons_zero, List.setIfInBounds_toArray, List.set_cons_zero, List.set_cons_succ]
    refine Script.call (i := 14) (v := ?_) rfl (by kernel_rfl) (by kernel_rfl) (fun _ _ _ h => h) (by kernel_rfl) ?_ ?_
    rotate_left
    · (intro wS hSw K hK; obtain ⟨⟨c0, c1, c2, -, -⟩, ⟨d0, d1, d2, -, -⟩⟩ := B0.out.later (After.trans (After.drew (After.refl _)) hSw); go_simp; go_at_call 22; refine (C2.out _).mono ?_; rintro e wc ⟨rfl, hbc⟩; exact hK.out _ hbc)
    try simp only [Act.put, List.getElem_toArray, List.getElem_cons_succ, List.getElem_cons_zero, List.setIfInBounds_toArray, List.set_cons_zero, List.set_cons_succ]
    refine Script.load (i := 15) (v := ?_) rfl (by kernel_rfl) (by kernel_rfl) (fun _ _ _ h => h) (by kernel_rfl) ?_ ?_
    rotate_left
    · (intro wS hSw; obtain ⟨⟨c0, c1, c2, -, -⟩, ⟨d0, d1, d2, -, -⟩⟩ := B0.out.later (After.trans (After.drew (After.refl _)) hSw); go_simp; try with_reducible rfl)
    try simp only [Act.put, List.getElem_toArray, List.getElem_cons_succ, List.getElem_cons_zero, List.setIfInBounds_toArray, List.set_cons_zero, List.set_cons_succ]
    refine Script.call (i := 16) (v := ?_) rfl (by kernel_rfl) (by kernel_rfl) (fun _ _ _ h => h) (by kernel_rfl) ?_ ?_
    rotate_left
    · (intro wS hSw K hK; obtain ⟨⟨c0, c1, c2, -, -⟩, ⟨d0, d1, d2, -, -⟩⟩ := B0.out.later (After.trans (After.drew (After.refl _)) hSw); go_simp; go_at_call 19; refine (CR.out _).mono ?_; rintro e wc ⟨rfl, hbc⟩; exact hK.out _ hbc)
    try simp only [Act.put, List.getElem_toArray, List.getElem_cons_succ, List.getElem_cons_zero, List.setIfInBounds_toArray, List.set_cons_zero, List.set_cons_succ]
    refine Script.load (i := 17) (v := ?_) rfl (by kernel_rfl) (by kernel_rfl) (fun _ _ _ h => h) (by kernel_rfl) ?_ ?_
    rotate_left
    · (intro wS hSw; obtain ⟨⟨c0, c1, c2, -, -⟩, ⟨d0, d1, d2, -, -⟩⟩ := B0.out.later (After.trans (After.drew (After.refl _)) hSw); go_simp; try with_reducible rfl)
    try simp only [Act.put, List.getElem_toArray, List.getElem_cons_succ, List.getElem_cons_zero, List.setIfInBounds_toArray, List.set_cons_zero, List.set_cons_succ]
    refine Script.load (i := 18) (v := ?_) rfl (by kernel_rfl) (by kernel_rfl) (fun _ _ _ h => h) (by kernel_rfl) ?_ ?_
    rotate_left
    · (intro wS hSw; obtain ⟨⟨c0, c1, c2, -, -⟩, ⟨d0, d1, d2, -, -⟩⟩ := B0.out.later (After.trans (After.drew (After.refl _)) hSw); go_simp; try with_reducible rfl)
    try simp only [Act.put, List.getElem_toArray, List.getElem_cons_succ, List.getElem_cons_zero, List.setIfInBounds_toArray, List.set_cons_zero, List.set_cons_succ]
    refine Script.load (i := 19) (v := ?_) rfl (by kernel_rfl) (by kernel_rfl) (fun _ _ _ h => h) (by kernel_rfl) ?_ ?_
    rotate_left
    · (intro wS hSw; obtain ⟨⟨c0, c1, c2, -, -⟩, ⟨d0, d1, d2, -, -⟩⟩ := B0.out.later (After.trans (After.drew (After.refl _)) hSw); go_simp; try with_reducible rfl)
    try simp only [Act.put, List.getElem_toArray, List.getElem_cons_succ, List.getElem_cons_zero, List.setIfInBounds_toArray, List.set_cons_zero, List.set_cons_succ]
    refine Script.done (by kernel_rfl) ?_
    intro wD hD hG
    have B1 := Lib.hid (B0.out.later (After.trans (After.drew (After.refl _)) hD))
    clear hD hG
    go_wp2_with fail
    go_ret
    exact ⟨rfl, B1.out.1.2.2.2.2⟩
end Go.Proofs.YtlklnabnomfhbaaGreat
