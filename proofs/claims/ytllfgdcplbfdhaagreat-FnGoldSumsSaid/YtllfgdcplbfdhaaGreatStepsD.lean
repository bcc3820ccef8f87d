/- CanHope and GoldLoss of both, for every board, every two ints and every line. -/
import Derived.Test.YtllfgdcplbfdhaaGreatStepsC
import Derived.Test.YtllfgdcplbfdhaaGreatJumps
namespace Go.Proofs.YtllfgdcplbfdhaaGreat
open Go.RowKit
set_option linter.unusedVariables false
set_option linter.unusedSimpArgs false
set_option maxHeartbeats 1000000 in
set_option maxRecDepth 100000 in
theorem implCanHope (W H Z P T : Int) (hP : P ≤ 9223372036854775807) (w : World) : Calls Tryz.prog 27 #[.agg #[.int .i64 W, .int .i64 H, .int .i64 Z], .int .i64 P, .int .i64 T] w (QB (hopeB W H Z P T) w) := by
  have C1 := Lib.hid (fun w => implGoldSum W H Z T P hP w)
  have C2 : Hid (∀ w, Calls Tryz.prog 70 #[.int .i64 0] w (GQ 1 0 w)) := fun w => implPowerOf 0 w
  have HE := Lib.hid (hope_cmp W H Z P T)
  obtain ⟨⟨x, y⟩, hx⟩ : ∃ r, gsumB W H Z T P = r := ⟨_, rfl⟩
  rw [hx] at C1 HE
  have C3 := Lib.hid (fun w => implCompareGold x y 1 0 w)
  simp only at HE
  generalize cmpG x y 1 0 = n at *
  clear hx hP
  by_cases hn : 0 ≤ n
  · have HE : Hid (hopeB W H Z P T = true) := by unfold Hid; rw [HE.out]; simp [hn]
    go_enter Tryz.func27, Tryz.ntmps27
    go_wp2_with fail
    have B0 := Lib.hid (box_new W H Z w)
    generalize w.alloc (.cells #[.int .i64 W, .int .i64 H, .int .i64 Z] 25) = W1 at *
    obtain ⟨c0, c1, c2, hlt, hb1⟩ := B0.out
    go_wp2_with fail
    refine (C1.out _).mono ?_
    rintro e w1 ⟨rfl, hb⟩
    have B1 := Lib.hid (B0.out.later hb)
    clear hb B0 c0 c1 c2 hlt hb1
    go_wp2_with fail
    refine (C2.out _).mono ?_
    rintro e w2 ⟨rfl, hb⟩
    have B2 := Lib.hid (B1.out.later hb)
    clear hb B1
    go_wp2_with fail
    refine (C3.out _).mono ?_
    rintro e w3 ⟨rfl, hb⟩
    have B3 := Lib.hid (B2.out.later hb)
    clear hb B2
    go_wp2_with fail
    go_ret
    exact QB.of (by first | exact HE.out.symm | (rw [HE.out]; simp [hn])) B3.out.2.2.2.2
  · have HE : Hid (hopeB W H Z P T = false) := by unfold Hid; rw [HE.out]; simp [hn]
    go_enter Tryz.func27, Tryz.ntmps27
    go_wp2_with fail
    have B0 := Lib.hid (box_new W H Z w)
    generalize w.alloc (.cells #[.int .i64 W, .int .i64 H, .int .i64 Z] 25) = W1 at *
    obtain ⟨c0, c1, c2, hlt, hb1⟩ := B0.out
    go_wp2_with fail
    refine (C1.out _).mono ?_
    rintro e w1 ⟨rfl, hb⟩
    have B1 := Lib.hid (B0.out.later hb)
    clear hb B0 c0 c1 c2 hlt hb1
    go_wp2_with fail
    refine (C2.out _).mono ?_
    rintro e w2 ⟨rfl, hb⟩
    have B2 := Lib.hid (B1.out.later hb)
    clear hb B1
    go_wp2_with fail
    refine (C3.out _).mono ?_
    rintro e w3 ⟨rfl, hb⟩
    have B3 := Lib.hid (B2.out.later hb)
    clear hb B2
    go_wp2_with fail
    go_ret
    exact QB.of (by first | exact HE.out.symm | (rw [HE.out]; simp [hn])) B3.out.2.2.2.2
set_option maxHeartbeats 1000000 in
set_option maxRecDepth 100000 in
/-- hasLine at every board. -/
theorem implHasL (W H Z f o t : Int) (w : World) : Calls Tryz.prog 61 #[.agg #[.int .i64 W, .int .i64 H, .int .i64 Z], .agg #[.int .i64 f, .int .i64 o, .int .i64 t]] w (QB ((lnsOf W H Z).contains (f, o, t)) w) := by
  cases h : okB W H Z
  · have C1 := Lib.hid (fun w => implHole_is (K := f) (holeB_no h) w)
    rw [lnsOf_no h]
    have HE : Hid (([] : List Ln).contains (f, o, t) = false) := rfl
    rw [HE.out]
    clear h HE
    go_enter Tryz.func61, Tryz.ntmps61
    go_wp2_with fail
    have B0 := Lib.hid (bx2_new W H Z f o t 25 46 w)
    generalize (w.alloc (.cells #[.int .i64 W, .int .i64 H, .int .i64 Z] 25)).alloc (.cells #[.int .i64 f, .int .i64 o, .int .i64 t] 46) = W1 at *
    obtain ⟨⟨c0, c1, c2, hlt, hb1⟩, ⟨d0, d1, d2, hlt2, -⟩⟩ := B0.out
    go_wp2_with fail
    refine (C1.out _).mono ?_
    rintro e w1 ⟨rfl, hb⟩
    have B1 := Lib.hid (B0.out.later hb)
    clear c0 c1 c2 hlt hb1 d0 d1 d2 hlt2 hb B0
    go_wp2_with fail
    go_ret
    exact ⟨rfl, B1.out.1.2.2.2.2⟩
  · exact implHasLine' h f o t w
theorem implHasL_is {W H Z f o t : Int} {b : Bool} (h : (lnsOf W H Z).contains (f, o, t) = b) (w : World) : Calls Tryz.prog 61 #[.agg #[.int .i64 W, .int .i64 H, .int .i64 Z], .agg #[.int .i64 f, .int .i64 o, .int .i64 t]] w (QB b w) := by rw [← h]; exact implHasL W H Z f o t w
theorem specIsL_is {W H Z f o t : Int} {b : Bool} (h : (lnsOf W H Z).contains (f, o, t) = b) (w : World) : Calls Tryz.prog 122 #[.agg #[.int .i64 W, .int .i64 H, .int .i64 Z], .agg #[.int .i64 f, .int .i64 o, .int .i64 t]] w (QB b w) := by rw [← h]; exact specIs W H Z f o t w
/-- A board's block, a line's, the result's. -/
def Bx2G (W H Z f o t : Int) (w0 w : World) : Prop := Bx2 W H Z f o t w0 w ∧ Bg 43 (w0.heap.size + 2) 0 0 w
theorem Bx2G.later {W H Z f o t : Int} {w0 w w' : World} (h : Bx2G W H Z f o t w0 w) (hb : Below w.heap.size w w') : Bx2G W H Z f o t w0 w' := ⟨h.1.later hb, h.2.later hb⟩
theorem bx2g_new (W H Z f o t : Int) (w : World) : Bx2G W H Z f o t w (((w.alloc (.cells #[.int .i64 W, .int .i64 H, .int .i64 Z] 25)).alloc (.cells #[.int .i64 f, .int .i64 o, .int .i64 t] 46)).alloc (.cells #[.int .i64 0, .int .i64 0] 43)) := by
  refine ⟨(bx2_new W H Z f o t 25 46 w).later ((Below.refl _ _).alloc (Nat.le_refl _) _), ?_⟩
  have := heap_alloc_new ((w.alloc (.cells #[.int .i64 W, .int .i64 H, .int .i64 Z] 25)).alloc (.cells #[.int .i64 f, .int .i64 o, .int .i64 t] 46)) (.cells #[.int .i64 0, .int .i64 0] 43)
  simpa [Bg] using this
theorem Gin.plus {m n : Int} {a b c d : Int} (h : Gin m (a, b)) (k : Gin n (c, d)) : Gin (m + n) (a + c, b + d) := by
  obtain ⟨⟨h1, h2⟩, h3, h4⟩ := h
  obtain ⟨⟨k1, k2⟩, k3, k4⟩ := k
  exact ⟨⟨by simp only at *; omega, by simp only at *; omega⟩, by simp only at *; omega, by simp only at *; omega⟩
set_option maxHeartbeats 2000000 in
set_option maxRecDepth 100000 in
theorem implGoldLoss (W H Z T f o t : Int) (w : World) : Calls Tryz.prog 23 #[.agg #[.int .i64 W, .int .i64 H, .int .i64 Z], .int .i64 T, .agg #[.int .i64 f, .int .i64 o, .int .i64 t]] w (GQ (glossB W H Z T (f, o, t)).1 (glossB W H Z T (f, o, t)).2 w) := by
  have C1 := Lib.hid (fun (b : Bool) (h : (lnsOf W H Z).contains (f, o, t) = b) => implHasL_is h)
  cases hl : (lnsOf W H Z).contains (f, o, t)
  · have HG := Lib.hid (gloss_no (T := T) (by rw [hl]; rfl))
    have C1 := Lib.hid (C1.out _ hl)
    clear hl
    go_enter Tryz.func23, Tryz.ntmps23
    go_wp2_with fail
    have B0 := Lib.hid (bx2g_new W H Z f o t w)
    generalize ((w.alloc (.cells #[.int .i64 W, .int .i64 H, .int .i64 Z] 25)).alloc (.cells #[.int .i64 f, .int .i64 o, .int .i64 t] 46)).alloc (.cells #[.int .i64 0, .int .i64 0] 43) = W1 at *
    obtain ⟨⟨c0, c1, c2, hlt, hb1⟩, ⟨d0, d1, d2, hlt2, -⟩⟩ := B0.out.1
    go_wp2_with fail
    refine (C1.out _).mono ?_
    rintro e w1 ⟨rfl, hb⟩
    have B1 := Lib.hid (B0.out.later hb)
    clear hb B0 c0 c1 c2 hlt hb1 d0 d1 d2 hlt2
    obtain ⟨z0, z1, f0, f1⟩ := two_facts B1.out.2
    go_wp2_with fail
    exact bodyPost_ret (v := .agg #[.int .i64 0, .int .i64 0]) (by simp [results, Tryz.results23, go_sem, z0, z1]) rfl ⟨by rw [HG.out], set_below (set_below B1.out.1.1.2.2.2.2 (by omega)) (by omega)⟩
  have C1 := Lib.hid (C1.out _ hl)
  have C2 := Lib.hid (fun (b : Bool) (h : holeB W H Z T = b) => implHole_is h)
  cases hh : holeB W H Z T
  · have HG := Lib.hid (gloss_no (W := W) (H := H) (Z := Z) (T := T) (l := (f, o, t)) (by rw [hl, hh]; rfl))
    have C2 := Lib.hid (C2.out _ hh)
    clear hl hh
    go_enter Tryz.func23, Tryz.ntmps23
    go_wp2_with fail
    have B0 := Lib.hid (bx2g_new W H Z f o t w)
    generalize ((w.alloc (.cells #[.int .i64 W, .int .i64 H, .int .i64 Z] 25)).alloc (.cells #[.int .i64 f, .int .i64 o, .int .i64 t] 46)).alloc (.cells #[.int .i64 0, .int .i64 0] 43) = W1 at *
    obtain ⟨⟨c0, c1, c2, hlt, hb1⟩, ⟨d0, d1, d2, hlt2, -⟩⟩ := B0.out.1
    go_wp2_with fail
    refine (C1.out _).mono ?_
    rintro e w1 ⟨rfl, hb⟩
    have B1 := Lib.hid (B0.out.later hb)
    clear hb B0 c0 c1 c2 hlt hb1 d0 d1 d2 hlt2
    obtain ⟨⟨c0, c1, c2, hlt, hb1⟩, ⟨d0, d1, d2, hlt2, -⟩⟩ := B1.out.1
    go_wp2_with fail
    refine (C2.out _).mono ?_
    rintro e w2 ⟨rfl, hb⟩
    have B2 := Lib.hid (B1.out.later hb)
    clear hb B1 c0 c1 c2 hlt hb1 d0 d1 d2 hlt2
    obtain ⟨z0, z1, f0, f1⟩ := two_facts B2.out.2
    go_wp2_with fail
    exact bodyPost_ret (v := .agg #[.int .i64 0, .int .i64 0]) (by simp [results, Tryz.results23, go_sem, z0, z1]) rfl ⟨by rw [HG.out], set_below (set_below B2.out.1.1.2.2.2.2 (by omega)) (by omega)⟩
  have C2 := Lib.hid (C2.out _ hh)
  have HG := Lib.hid (gloss_yes hl hh)
  have CF := Lib.hid (fun w => implFrom W H Z T w)
  have CG1 := Lib.hid (fun g t' w (h : DistAt W H Z T g t' w) => implGAt f w h)
  have CG2 := Lib.hid (fun g t' w (h : DistAt W H Z T g t' w) => implGAt o w h)
  have CG3 := Lib.hid (fun g t' w (h : DistAt W H Z T g t' w) => implGAt t w h)
  have I1 := gw_in W H Z T f
  have I2 := gw_in W H Z T o
  have I3 := gw_in W H Z T t
  simp only at HG
  obtain ⟨⟨x1, y1⟩, h1⟩ : ∃ r, gwB W H Z T f = r := ⟨_, rfl⟩
  obtain ⟨⟨x2, y2⟩, h2⟩ : ∃ r, gwB W H Z T o = r := ⟨_, rfl⟩
  obtain ⟨⟨x3, y3⟩, h3⟩ : ∃ r, gwB W H Z T t = r := ⟨_, rfl⟩
  rw [h1] at I1 CG1 HG
  rw [h2] at I2 CG2 HG
  rw [h3] at I3 CG3 HG
  have CL := Lib.hid (fun w => implPlus x1 y1 x2 y2 (I1.gold (by decide)) (I2.gold (by decide)) w)
  have CM := Lib.hid (fun w => implMinus (x1 + x2) (y1 + y2) x3 y3 ((I1.plus I2).gold (by decide)) (I3.gold (by decide)) w)
  clear hl hh h1 h2 h3 I1 I2 I3
  go_enter Tryz.func23, Tryz.ntmps23
  go_wp2_with fail
  have B0 := Lib.hid (bx2g_new W H Z f o t w)
  generalize ((w.alloc (.cells #[.int .i64 W, .int .i64 H, .int .i64 Z] 25)).alloc (.cells #[.int .i64 f, .int .i64 o, .int .i64 t] 46)).alloc (.cells #[.int .i64 0, .int .i64 0] 43) = W1 at *
  obtain ⟨⟨c0, c1, c2, hlt, hb1⟩, ⟨d0, d1, d2, hlt2, -⟩⟩ := B0.out.1
  go_wp2_with fail
  refine (C1.out _).mono ?_
  rintro e w1 ⟨rfl, hb⟩
  have B1 := Lib.hid (B0.out.later hb)
  clear hb B0 c0 c1 c2 hlt hb1 d0 d1 d2 hlt2
  obtain ⟨⟨c0, c1, c2, hlt, hb1⟩, ⟨d0, d1, d2, hlt2, -⟩⟩ := B1.out.1
  go_wp2_with fail
  refine (C2.out _).mono ?_
  rintro e w2 ⟨rfl, hb⟩
  have B2 := Lib.hid (B1.out.later hb)
  clear hb B1 c0 c1 c2 hlt hb1 d0 d1 d2 hlt2
  obtain ⟨⟨c0, c1, c2, hlt, hb1⟩, ⟨d0, d1, d2, hlt2, -⟩⟩ := B2.out.1
  go_wp2_with fail
  refine (CF.out _).mono ?_
  rintro e w3 ⟨g, t', rfl, hd, -, -, hb⟩
  have B3 := Lib.hid (B2.out.later hb)
  have D3 := Lib.hid hd
  clear hb B2 c0 c1 c2 hlt hb1 d0 d1 d2 hlt2 hd
  go_wp2_with fail
  refine wp_region_script (by kernel_rfl) (by kernel_rfl) ?_
  refine Script.load (i := 0) (v := ?_) rfl (by kernel_rfl) (by kernel_rfl) (fun _ _ _ h => h) (by kernel_rfl) ?_ ?_
  rotate_left
  · (intro wS hSw; obtain ⟨⟨⟨c0, c1, c2, -, -⟩, ⟨d0, d1, d2, -, -⟩⟩, hbg⟩ := B3.out.later (After.trans (After.drew (After.refl _)) hSw); obtain ⟨z0, z1, f0, f1⟩ := two_facts hbg; go_simp; try with_reducible rfl)
  try simp only [Act.put, List.getElem_toArray, List.getElem_cons_succ, List.getElem_cons_zero, List.setIfInBounds_toArray, List.set_cons_zero, List.set_cons_succ]
  refine Script.load (i := 1) (v := ?_) rfl (by kernel_rfl) (by kernel_rfl) (fun _ _ _ h => h) (by kernel_rfl) ?_ ?_
  rotate_left
  · (intro wS hSw; obtain ⟨⟨⟨c0, c1, c2, -, -⟩, ⟨d0, d1, d2, -, -⟩⟩, hbg⟩ := B3.out.later (After.trans (After.drew (After.refl _)) hSw); obtain ⟨z0, z1, f0, f1⟩ := two_facts hbg; go_simp; try with_reducible rfl)
  try simp only [Act.put, List.getElem_toArray, List.getElem_cons_succ, List.getElem_cons_zero, List.setIfInBounds_toArray, List.set_cons_zero, List.set_cons_succ]
  refine Script.load (i := 2) (v := ?_) rfl (by kernel_rfl) (by kernel_rfl) (fun _ _ _ h => h) (by kernel_rfl) ?_ ?_
  rotate_left
  · (intro wS hSw; obtain ⟨⟨⟨c0, c1, c2, -, -⟩, ⟨d0, d1, d2, -, -⟩⟩, hbg⟩ := B3.out.later (After.trans (After.drew (After.refl _)) hSw); obtain ⟨z0, z1, f0, f1⟩ := two_facts hbg; go_simp; try with_reducible rfl)
  try simp only [Act.put, List.getElem_toArray, List.getElem_cons_succ, List.getElem_cons_zero, List.setIfInBounds_toArray, List.set_cons_zero, List.set_cons_succ]
  refine Script.call (i := 3) (v := ?_) rfl (by kernel_rfl) (by kernel_rfl) (fun _ _ _ h => h) (by kernel_rfl) ?_ ?_
  rotate_left
  · (intro wS hSw K hK; obtain ⟨⟨⟨c0, c1, c2, -, -⟩, ⟨d0, d1, d2, -, -⟩⟩, hbg⟩ := B3.out.later (After.trans (After.drew (After.refl _)) hSw); obtain ⟨z0, z1, f0, f1⟩ := two_facts hbg; go_simp; go_at_call 64; refine (CG1.out _ _ _ (D3.out.later (After.trans (After.drew (After.refl _)) hSw))).mono ?_; rintro e wc ⟨rfl, hbc⟩; exact hK.out _ hbc)
  try simp only [Act.put, List.getElem_toArray, List.getElem_cons_succ, List.getElem_cons_zero, List.setIfInBounds_toArray, List.set_cons_zero, List.set_cons_succ]
  refine Script.load (i := 4) (v := ?_) rfl (by kernel_rfl) (by kernel_rfl) (fun _ _ _ h => h) (by kernel_rfl) ?_ ?_
  rotate_left
  · (intro wS hSw; obtain ⟨⟨⟨c0, c1, c2, -, -⟩, ⟨d0, d1, d2, -, -⟩⟩, hbg⟩ := B3.out.later (After.trans (After.drew (After.refl _)) hSw); obtain ⟨z0, z1, f0, f1⟩ := two_facts hbg; go_simp; try with_reducible rfl)
  try simp only [Act.put, List.getElem_toArray, List.getElem_cons_succ, List.getElem_cons_zero, List.setIfInBounds_toArray, List.set_cons_zero, List.set_cons_succ]
  refine Script.load (i := 5) (v := ?_) rfl (by kernel_rfl) (by kernel_rfl) (fun _ _ _ h => h) (by kernel_rfl) ?_ ?_
  rotate_left
  · (intro wS hSw; obtain ⟨⟨⟨c0, c1, c2, -, -⟩, ⟨d0, d1, d2, -, -⟩⟩, hbg⟩ := B3.out.later (After.trans (After.drew (After.refl _)) hSw); obtain ⟨z0, z1, f0, f1⟩ := two_facts hbg; go_simp; try with_reducible rfl)
  try simp only [Act.put, List.getElem_toArray, List.getElem_cons_succ, List.getElem_cons_zero, List.setIfInBounds_toArray, List.set_cons_zero, List.set_cons_succ]
  refine Script.load (i := 6) (v := ?_) rfl (by kernel_rfl) (by kernel_rfl) (fun _ _ _ h => h) (by kernel_rfl) ?_ ?_
  rotate_left
  · (intro wS hSw; obtain ⟨⟨⟨c0, c1, c2, -, -⟩, ⟨d0, d1, d2, -, -⟩⟩, hbg⟩ := B3.out.later (After.trans (After.drew (After.refl _)) hSw); obtain ⟨z0, z1, f0, f1⟩ := two_facts hbg; go_simp; try with_reducible rfl)
  try simp only [Act.put, List.getElem_toArray, List.getElem_cons_succ, List.getElem_cons_zero, List.setIfInBounds_toArray, List.set_cons_zero, List.set_cons_succ]
  refine Script.call (i := 7) (v := ?_) rfl (by kernel_rfl) (by kernel_rfl) (fun _ _ _ h => h) (by kernel_rfl) ?_ ?_
  rotate_left
  · (intro wS hSw K hK; obtain ⟨⟨⟨c0, c1, c2, -, -⟩, ⟨d0, d1, d2, -, -⟩⟩, hbg⟩ := B3.out.later (After.trans (After.drew (After.refl _)) hSw); obtain ⟨z0, z1, f0, f1⟩ := two_facts hbg; go_simp; go_at_call 64; refine (CG2.out _ _ _ (D3.out.later (After.trans (After.drew (After.refl _)) hSw))).mono ?_; rintro e wc ⟨rfl, hbc⟩; exact hK.out _ hbc)
  try simp only [Act.put, List.getElem_toArray, List.getElem_cons_succ, List.getElem_cons_zero, List.setIfInBounds_toArray, List.set_cons_zero, List.set_cons_succ]
  refine Script.call (i := 8) (v := ?_) rfl (by kernel_rfl) (by kernel_rfl) (fun _ _ _ h => h) (by kernel_rfl) ?_ ?_
  rotate_left
  · (intro wS hSw K hK; obtain ⟨⟨⟨c0, c1, c2, -, -⟩, ⟨d0, d1, d2, -, -⟩⟩, hbg⟩ := B3.out.later (After.trans (After.drew (After.refl _)) hSw); obtain ⟨z0, z1, f0, f1⟩ := two_facts hbg; go_simp; go_at_call 65; refine (CL.out _).mono ?_; rintro e wc ⟨rfl, hbc⟩; exact hK.out _ hbc)
  try simp only [Act.put, List.getElem_toArray, List.getElem_cons_succ, List.getElem_cons_zero, List.setIfInBounds_toArray, List.set_cons_zero, List.set_cons_succ]
  refine Script.load (i := 9) (v := ?_) rfl (by kernel_rfl) (by kernel_rfl) (fun _ _ _ h => h) (by kernel_rfl) ?_ ?_
  rotate_left
  · (intro wS hSw; obtain ⟨⟨⟨c0, c1, c2, -, -⟩, ⟨d0, d1, d2, -, -⟩⟩, hbg⟩ := B3.out.later (After.trans (After.drew (After.refl _)) hSw); obtain ⟨z0, z1, f0, f1⟩ := two_facts hbg; go_simp; try with_reducible rfl)
  try simp only [Act.put, List.getElem_toArray, List.getElem_cons_succ, List.getElem_cons_zero, List.setIfInBounds_toArray, List.set_cons_zero, List.set_cons_succ]
  refine Script.load (i := 10) (v := ?_) rfl (by kernel_rfl) (by kernel_rfl) (fun _ _ _ h => h) (by kernel_rfl) ?_ ?_
  rotate_left
  · (intro wS hSw; obtain ⟨⟨⟨c0, c1, c2, -, -⟩, ⟨d0, d1, d2, -, -⟩⟩, hbg⟩ := B3.out.later (After.trans (After.drew (After.refl _)) hSw); obtain ⟨z0, z1, f0, f1⟩ := two_facts hbg; go_simp; try with_reducible rfl)
  try simp only [Act.put, List.getElem_toArray, List.getElem_cons_succ, List.getElem_cons_zero, List.setIfInBounds_toArray, List.set_cons_zero, List.set_cons_succ]
  refine Script.load (i := 11) (v := ?_) rfl (by kernel_rfl) (by kernel_rfl) (fun _ _ _ h => h) (by kernel_rfl) ?_ ?_
  rotate_left
  · (intro wS hSw; obtain ⟨⟨⟨c0, c1, c2, -, -⟩, ⟨d0, d1, d2, -, -⟩⟩, hbg⟩ := B3.out.later (After.trans (After.drew (After.refl _)) hSw); obtain ⟨z0, z1, f0, f1⟩ := two_facts hbg; go_simp; try with_reducible rfl)
  try simp only [Act.put, List.getElem_toArray, List.getElem_cons_succ, List.getElem_cons_zero, List.setIfInBounds_toArray, List.set_cons_zero, List.set_cons_succ]
  refine Script.call (i := 12) (v := ?_) rfl (by kernel_rfl) (by kernel_rfl) (fun _ _ _ h => h) (by kernel_rfl) ?_ ?_
  rotate_left
  · (intro wS hSw K hK; obtain ⟨⟨⟨c0, c1, c2, -, -⟩, ⟨d0, d1, d2, -, -⟩⟩, hbg⟩ := B3.out.later (After.trans (After.drew (After.refl _)) hSw); obtain ⟨z0, z1, f0, f1⟩ := two_facts hbg; go_simp; go_at_call 64; refine (CG3.out _ _ _ (D3.out.later (After.trans (After.drew (After.refl _)) hSw))).mono ?_; rintro e wc ⟨rfl, hbc⟩; exact hK.out _ hbc)
  try simp only [Act.put, List.getElem_toArray, List.getElem_cons_succ, List.getElem_cons_zero, List.setIfInBounds_toArray, List.set_cons_zero, List.set_cons_succ]
  refine Script.call (i := 13) (v := ?_) rfl (by kernel_rfl) (by kernel_rfl) (fun _ _ _ h => h) (by kernel_rfl) ?_ ?_
  rotate_left
  · (intro wS hSw K hK; obtain ⟨⟨⟨c0, c1, c2, -, -⟩, ⟨d0, d1, d2, -, -⟩⟩, hbg⟩ := B3.out.later (After.trans (After.drew (After.refl _)) hSw); obtain ⟨z0, z1, f0, f1⟩ := two_facts hbg; go_simp; go_at_call 66; refine (CM.out _).mono ?_; rintro e wc ⟨rfl, hbc⟩; exact hK.out _ hbc)
  try simp only [Act.put, List.getElem_toArray, List.getElem_cons_succ, List.getElem_cons_zero, List.setIfInBounds_toArray, List.set_cons_zero, List.set_cons_succ]
  refine Script.last (i := 14) rfl (by kernel_rfl) (by kernel_rfl) (by kernel_rfl) ?_
  intro wO hO hGO K hK; have hSw := hO; obtain ⟨⟨⟨c0, c1, c2, -, -⟩, ⟨d0, d1, d2, -, -⟩⟩, hbg⟩ := B3.out.later (After.trans (After.drew (After.refl _)) hSw); obtain ⟨z0, z1, f0, f1⟩ := two_facts hbg; go_simp
  clear hSw
  refine hK.out undef _ ?_
  clear hK K
  try simp only [Act.put, List.getElem_toArray, List.getElem_cons_succ, List.getElem_cons_zero, List.setIfInBounds_toArray, List.set_cons_zero, List.set_cons_succ]
  refine Script.done (by kernel_rfl) ?_
  intro wD hD hG
  have B4 := Lib.hid (B3.out.later (After.trans (After.drew (After.refl _)) hO))
  have R4 := Lib.hid ((bg_set B4.out.2).later hD)
  have hb4 : Hid (Below w.heap.size w wD) := (set_below (set_below B4.out.1.1.2.2.2.2 (Nat.le_add_right _ 2)) (Nat.le_add_right _ 2)).trans (hD.mono (by simpa using B4.out.1.1.2.2.2.2.size))
  clear hD hG hO B3 B4 D3 CG1 CG2 CG3
  obtain ⟨z0, z1, f0, f1⟩ := two_facts R4.out
  go_wp2_with fail
  exact bodyPost_ret (v := .agg #[.int .i64 (x1 + x2 - x3), .int .i64 (y1 + y2 - y3)]) (by simp [results, Tryz.results23, go_sem, z0, z1]) rfl ⟨by rw [HG.out], hb4.out⟩
end Go.Proofs.YtllfgdcplbfdhaaGreat
