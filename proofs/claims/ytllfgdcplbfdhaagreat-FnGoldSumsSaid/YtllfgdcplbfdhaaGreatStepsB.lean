/- Golden weights of both: the distance as a function value, GoldAt. -/
import Derived.Test.YtllfgdcplbfdhaaGreatStepsA
import Derived.Test.YtllfgdcplbfdhaaGreatGolds
namespace Go.Proofs.YtllfgdcplbfdhaaGreat
open Go.RowKit
set_option linter.unusedVariables false
set_option linter.unusedSimpArgs false
/-- A distance: the function value over the board's block and the target's. -/
def DistV (g t : Nat) : Value := .func (.func 101) #[] #[.pointer (some ⟨g, 0, none⟩), .pointer (some ⟨t, 0, none⟩)]
def DistAt (W H Z T : Int) (g t : Nat) (w : World) : Prop :=
  (w.cell? ⟨g, 0, none⟩ = some (.int .i64 W) ∧ w.cell? ⟨g, 1, none⟩ = some (.int .i64 H) ∧ w.cell? ⟨g, 2, none⟩ = some (.int .i64 Z)) ∧ w.cell? ⟨t, 0, none⟩ = some (.int .i64 T) ∧ g < w.heap.size ∧ t < w.heap.size
theorem DistAt.later {W H Z T : Int} {g t : Nat} {w w' : World} (h : DistAt W H Z T g t w) (hb : Below w.heap.size w w') : DistAt W H Z T g t w' :=
  ⟨⟨(hb.cell (p := ⟨g, 0, none⟩) h.2.2.1).trans h.1.1, (hb.cell (p := ⟨g, 1, none⟩) h.2.2.1).trans h.1.2.1, (hb.cell (p := ⟨g, 2, none⟩) h.2.2.1).trans h.1.2.2⟩, (hb.cell (p := ⟨t, 0, none⟩) h.2.2.2).trans h.2.1, Nat.lt_of_lt_of_le h.2.2.1 hb.size, Nat.lt_of_lt_of_le h.2.2.2 hb.size⟩
theorem closed_dist {W H Z T : Int} {g t : Nat} : Closed (DistAt W H Z T g t) := fun _ _ h k => h.later k
theorem DistAt.kept {W H Z T : Int} {g t B : Nat} {w w' : World} (h : DistAt W H Z T g t w) (hb : Below B w w') (hg : g < B) (ht : t < B) : DistAt W H Z T g t w' :=
  ⟨⟨(hb.cell (p := ⟨g, 0, none⟩) hg).trans h.1.1, (hb.cell (p := ⟨g, 1, none⟩) hg).trans h.1.2.1, (hb.cell (p := ⟨g, 2, none⟩) hg).trans h.1.2.2⟩, (hb.cell (p := ⟨t, 0, none⟩) ht).trans h.2.1, Nat.lt_of_lt_of_le h.2.2.1 hb.size, Nat.lt_of_lt_of_le h.2.2.2 hb.size⟩
theorem dist_new (W H Z T : Int) (w : World) : DistAt W H Z T w.heap.size (w.heap.size + 1) ((w.alloc (.cells #[.int .i64 W, .int .i64 H, .int .i64 Z] 25)).alloc (.cells #[.int .i64 T] 3)) := by
  have h := (box_new W H Z w).later ((Below.refl _ _).alloc (Nat.le_refl _) (.cells #[.int .i64 T] 3))
  refine ⟨⟨h.1, h.2.1, h.2.2.1⟩, ?_, h.2.2.2.1, by simp⟩
  have := heap_alloc_new (w.alloc (.cells #[.int .i64 W, .int .i64 H, .int .i64 Z] 25)) (.cells #[.int .i64 T] 3)
  rw [show (w.alloc (.cells #[.int .i64 W, .int .i64 H, .int .i64 Z] 25)).heap.size = w.heap.size + 1 by simp] at this
  rw [cell_of_row _ _ _ _ _ _ this]; rfl
/-- What stepsFrom returns. -/
def DistPost (W H Z T : Int) (w : World) (e : Ending) (w' : World) : Prop := ∃ g t, e = .returned (DistV g t) ∧ DistAt W H Z T g t w' ∧ w.heap.size ≤ g ∧ w.heap.size ≤ t ∧ Below w.heap.size w w'
set_option maxRecDepth 100000 in
theorem implFrom (W H Z T : Int) (w : World) : Calls Tryz.prog 63 #[.agg #[.int .i64 W, .int .i64 H, .int .i64 Z], .int .i64 T] w (DistPost W H Z T w) := by
  have hp : Hid (DistPost W H Z T w (.returned (DistV w.heap.size (w.heap.size + 1))) ((w.alloc (.cells #[.int .i64 W, .int .i64 H, .int .i64 Z] 25)).alloc (.cells #[.int .i64 T] 3))) :=
    ⟨_, _, rfl, dist_new W H Z T w, Nat.le_refl _, Nat.le_succ _, ((Below.refl _ _).alloc (Nat.le_refl _) _).alloc (by simp) _⟩
  go_enter Tryz.func63, Tryz.ntmps63
  go_wp2_with fail
  go_ret
  exact hp.out
set_option maxRecDepth 100000 in
theorem implDist {W H Z T : Int} {g t : Nat} (K : Int) (w : World) (h : DistAt W H Z T g t w) : Calls Tryz.prog 101 #[.int .i64 K, .pointer (some ⟨g, 0, none⟩), .pointer (some ⟨t, 0, none⟩)] w (QI (stepsB W H Z T K) w) := by
  have C1 := Lib.hid (fun w => implSteps W H Z T K w)
  obtain ⟨⟨c0, c1, c2⟩, c3, -, -⟩ := h
  go_enter Tryz.func101, Tryz.ntmps101
  go_wp2_with fail
  refine (C1.out _).mono ?_
  rintro e w1 ⟨rfl, hb⟩
  go_wp2_with fail
  go_ret
  exact ⟨rfl, hb⟩
/-- One new block of a golden number. -/
theorem implGAt {W H Z T : Int} {g t : Nat} (K : Int) (w : World) (h : DistAt W H Z T g t w) : Calls Tryz.prog 64 #[DistV g t, .int .i64 K] w (GQ (gwB W H Z T K).1 (gwB W H Z T K).2 w) := by
  have C1 := Lib.hid (fun w (h : DistAt W H Z T g t w) => implDist K w h)
  have C2 := Lib.hid (fun w => implPowerOf (stepsB W H Z T K) w)
  have HG : Hid (powG (stepsB W H Z T K) = gwB W H Z T K) := rfl
  rw [HG.out] at C2
  generalize stepsB W H Z T K = n at *
  obtain ⟨⟨x, y⟩, hg⟩ : ∃ r, gwB W H Z T K = r := ⟨_, rfl⟩
  rw [hg] at C2 ⊢
  have HD := Lib.hid h
  clear h hg HG
  unfold DistV
  go_enter Tryz.func64, Tryz.ntmps64
  go_wp2_with fail
  have B0 := Lib.hid (bg1_new 0 0 w)
  have HD0 := Lib.hid (HD.out.later B0.out.2)
  generalize w.alloc (.cells #[.int .i64 0, .int .i64 0] 43) = W1 at *
  go_wp2_with fail
  refine (C1.out _ HD0.out).mono ?_
  rintro e w1 ⟨rfl, hb⟩
  have B1 := Lib.hid (B0.out.later hb)
  clear hb B0 HD0
  go_wp2_with fail
  refine (C2.out _).mono ?_
  rintro e w2 ⟨rfl, hb⟩
  have B2 := Lib.hid (B1.out.later hb)
  clear hb B1
  obtain ⟨z0, z1, f0, f1⟩ := two_facts B2.out.1
  go_wp2_with fail
  exact bodyPost_ret (v := .agg #[.int .i64 x, .int .i64 y]) (by simp [results, Tryz.results64, go_sem, z0, z1]) rfl ⟨rfl, set_below (set_below B2.out.2 (by omega)) (by omega)⟩
/-- A board's block and the result's behind it. -/
def BxG (W H Z x y : Int) (w0 w : World) : Prop := Box w0.heap.size W H Z w0 w ∧ Bg 43 (w0.heap.size + 1) x y w
theorem BxG.later {W H Z x y : Int} {w0 w w' : World} (h : BxG W H Z x y w0 w) (hb : Below w.heap.size w w') : BxG W H Z x y w0 w' := ⟨h.1.later hb, h.2.later hb⟩
theorem closed_bxg {W H Z x y : Int} {w0 : World} : Closed (BxG W H Z x y w0) := fun _ _ h k => h.later k
theorem bxg_new (W H Z x y : Int) (w : World) : BxG W H Z x y w ((w.alloc (.cells #[.int .i64 W, .int .i64 H, .int .i64 Z] 25)).alloc (.cells #[.int .i64 x, .int .i64 y] 43)) := by
  refine ⟨(box_new W H Z w).later ((Below.refl _ _).alloc (Nat.le_refl _) _), ?_⟩
  have := heap_alloc_new (w.alloc (.cells #[.int .i64 W, .int .i64 H, .int .i64 Z] 25)) (.cells #[.int .i64 x, .int .i64 y] 43)
  simpa [Bg] using this
set_option maxHeartbeats 1000000 in
set_option maxRecDepth 100000 in
theorem implGoldAt (W H Z T K : Int) (w : World) : Calls Tryz.prog 29 #[.agg #[.int .i64 W, .int .i64 H, .int .i64 Z], .int .i64 T, .int .i64 K] w (GQ (gwB W H Z T K).1 (gwB W H Z T K).2 w) := by
  have C1 := Lib.hid (fun w => implFrom W H Z T w)
  have C2 := Lib.hid (fun g t w (h : DistAt W H Z T g t w) => implGAt K w h)
  obtain ⟨⟨x, y⟩, hg⟩ : ∃ r, gwB W H Z T K = r := ⟨_, rfl⟩
  rw [hg] at C2 ⊢
  clear hg
  go_enter Tryz.func29, Tryz.ntmps29
  go_wp2_with fail
  have B0 := Lib.hid (bxg_new W H Z 0 0 w)
  generalize (w.alloc (.cells #[.int .i64 W, .int .i64 H, .int .i64 Z] 25)).alloc (.cells #[.int .i64 0, .int .i64 0] 43) = W1 at *
  obtain ⟨c0, c1, c2, hlt, hb1⟩ := B0.out.1
  go_wp2_with fail
  refine (C1.out _).mono ?_
  rintro e w1 ⟨g, t, rfl, hd, -, -, hb⟩
  have B1 := Lib.hid (B0.out.later hb)
  have HD := Lib.hid hd
  clear hb B0 c0 c1 c2 hlt hb1 hd
  go_wp2_with fail
  refine (C2.out _ _ _ HD.out).mono ?_
  rintro e w2 ⟨rfl, hb⟩
  have B2 := Lib.hid (B1.out.later hb)
  clear hb B1
  obtain ⟨z0, z1, f0, f1⟩ := two_facts B2.out.2
  go_wp2_with fail
  exact bodyPost_ret (v := .agg #[.int .i64 x, .int .i64 y]) (by simp [results, Tryz.results29, go_sem, z0, z1]) rfl ⟨rfl, set_below (set_below B2.out.1.2.2.2.2 (by omega)) (by omega)⟩
end Go.Proofs.YtllfgdcplbfdhaaGreat
