/- DrawSolvableHoles: any board of the stages before, or a rectangle of three columns at most. -/
import Derived.Test.YtkenlighpelhiaaGreatDrawReach
import Derived.Test.YtkenlighpelhiaaGreatDrawAny
import Derived.Test.YtkenlighpelhiaaGreatReachA
namespace Go.Proofs.YtkenlighpelhiaaGreat
open Go.RowKit
set_option linter.unusedVariables false
set_option linter.unusedSimpArgs false
set_option maxRecDepth 100000 in
theorem specCountR (W H Z : Int) (w : World) : Calls Tryz.prog 14 #[.agg #[.int .i64 W, .int .i64 H, .int .i64 Z]] w fun e w' => e = .returned (.int .i64 ((holesR W H Z).length : Nat)) ∧ Below w.heap.size w w' := by
  cases h : okB W H Z
  · have e : holesR W H Z = [] := by unfold holesR; rw [h]; rfl
    rw [e]
    exact specCount_no h w
  · obtain ⟨N, z, rfl, ho⟩ := ok_of h
    have e : holesR W H z = bitsOf N z := by unfold holesR; rw [h, if_pos rfl, Int.toNat_natCast, ho.list]
    rw [e]
    exact specCount ho w
def DrawSolvPost (w : World) (e : Ending) (w' : World) : Prop := ∃ W H Z : Int, e = .returned (.agg #[.int .i64 W, .int .i64 H, .int .i64 Z]) ∧ Below w.heap.size w w'
set_option maxHeartbeats 4000000 in
set_option maxRecDepth 100000 in
theorem drawSolv {a : Option Addr} {len cap : Nat} (w : World) (hcode : CodeAt w a len) :
    Calls Tryz.prog 13 #[.slice a len cap] w (DrawSolvPost w) := by
  have HCO := Lib.hid hcode
  clear hcode
  go_enter Tryz.func13, Tryz.ntmps13
  go_wp2_with fail
  have hA : zero3 (w.alloc (.cells #[.int .i64 0, .int .i64 0, .int .i64 0] 25)) w.heap.size := heap_alloc_new w _
  have hB : Below w.heap.size w (w.alloc (.cells #[.int .i64 0, .int .i64 0, .int .i64 0] 25)) := (Below.refl _ _).alloc (Nat.le_refl _) _
  have hS : w.heap.size < (w.alloc (.cells #[.int .i64 0, .int .i64 0, .int .i64 0] 25)).heap.size := by simp
  have HC1 := Lib.hid (HCO.out.below hB)
  have HB := Lib.hid hB
  generalize w.alloc (.cells #[.int .i64 0, .int .i64 0, .int .i64 0] 25) = W1 at *
  refine (curNew _ HC1.out).mono ?_
  rintro e w1 ⟨p, rfl, hd⟩
  have HD := Lib.hid hd
  have hp := hd.1
  have HA1 : Hid (zero3 w1 w.heap.size) := row_later hA hd.2.1 hS
  have hlt1 : w.heap.size < w1.heap.size := Nat.lt_of_lt_of_le hS hd.2.1.size
  clear hA hd hB
  go_wp2_with fail
  refine (any14 (cap := cap) (p := p) HC1.out _ HD.out).mono ?_
  rintro e w2 ⟨W, H, Z, P, hP, rfl, hd2, hg⟩
  have hpb : ¬ w.heap.size = p := by omega
  have HH2 : Hid (HeldG W1 a len cap p w.heap.size 0 0 0 w2) := ⟨hd2, row_grown HA1.out hg hpb⟩
  have hr2 := row_lt HH2.out.2
  have hp2 := Dr.lt hd2
  clear hd2 hg HA1 HD
  have hB3 : Below w2.heap.size w2 (w2.alloc (.cells #[.int .i64 W, .int .i64 H, .int .i64 Z] 25)) := (Below.refl _ _).alloc (Nat.le_refl _) _
  have HQ3 : Hid ((w2.alloc (.cells #[.int .i64 W, .int .i64 H, .int .i64 Z] 25)).heap[w2.heap.size]? = some (.cells #[.int .i64 W, .int .i64 H, .int .i64 Z] 25 (0, 0))) := heap_alloc_new w2 _
  have HH3 := Lib.hid (closed_heldG _ _ HH2.out hB3)
  have hpq : ¬ w2.heap.size = p := by omega
  have hqb : ¬ w2.heap.size = w.heap.size := by omega
  clear hB3 HH2 hr2
  go_wp2_with fail
  generalize w2.alloc (.cells #[.int .i64 W, .int .i64 H, .int .i64 Z] 25) = w3 at *
  generalize w2.heap.size = q at *
  obtain ⟨c0, c1, c2, -, -, -⟩ := row_facts HQ3.out
  go_wp2_with fail
  refine (specCountR W H Z _).mono ?_
  rintro e w4 ⟨rfl, hb4⟩
  have HBW3 : Hid (Below w.heap.size w w3) := HB.out.trans (HH3.out.1.2.1.mono HB.out.size)
  have HQ4 := Lib.hid (closed_row _ _ _ _ HQ3.out hb4)
  have HH4 := Lib.hid (closed_heldG _ _ HH3.out hb4)
  have HN := Lib.hid (holesR_len W H Z)
  clear HQ3 HH3 hb4 c0 c1 c2
  generalize (holesR W H Z).length = n at *
  have hn49 := HN.out
  by_cases h9 : 9 < n
  · have h9' : (9 : Int) < (n : Int) := by omega
    go_wp2_with fail
    refine (below (cap := cap) (p := p) HC1.out 4 _ HH4.out.1 (by omega) (by omega)).mono ?_
    rintro e w5 ⟨x, hx1, rfl, hd5, hg5⟩
    have HQ5 := Lib.hid (row_grown HQ4.out hg5 hpq)
    have HH5 : Hid (HeldG W1 a len cap p w.heap.size 0 0 0 w5) := ⟨hd5, row_grown HH4.out.2 hg5 hpb⟩
    clear HQ4 HH4 hd5 hg5
    by_cases hx : (0 : Int) < (x : Int)
    · go_wp2_with fail
      refine (below (cap := cap) (p := p) HC1.out 3 _ HH5.out.1 (by omega) (by omega)).mono ?_
      rintro e w6 ⟨y, hy1, rfl, hd6, hg6⟩
      have HH6 : Hid (HeldG W1 a len cap p w.heap.size 0 0 0 w6) := ⟨hd6, row_grown HH5.out.2 hg6 hpb⟩
      clear HQ5 HH5 hd6 hg6
      go_wp2_with fail
      refine (specRect _ _ _).mono ?_
      rintro e w7 ⟨rfl, hb7⟩
      unfold bd
      have HH7 := Lib.hid (closed_heldG _ _ HH6.out hb7)
      clear HH6 hb7
      generalize (rectZ (1 + (y : Int)) 3).1 = W' at *
      generalize (rectZ (1 + (y : Int)) 3).2.1 = H' at *
      generalize (rectZ (1 + (y : Int)) 3).2.2 = Z' at *
      obtain ⟨z0, z1, z2, f0, f1, f2⟩ := row_facts HH7.out.2
      have HF := Lib.hid (row_set3 (x' := .int .i64 W') (y' := .int .i64 H') (z' := .int .i64 Z') HH7.out.2)
      have HF2 : Hid (Below w.heap.size w (set3 w7 w.heap.size (.int .i64 W') (.int .i64 H') (.int .i64 Z'))) := set3_below (HB.out.trans (HH7.out.1.2.1.mono HB.out.size)) (Nat.le_refl _)
      obtain ⟨a0, a1, a2, -, -, -⟩ := row_facts HF.out
      unfold set3 at a0 a1 a2 HF2
      go_wp2_with fail
      exact bodyPost_ret (v := .agg #[.int .i64 W', .int .i64 H', .int .i64 Z']) (by simp [results, Tryz.results13, go_sem, a0, a1, a2]) rfl ⟨W', H', Z', rfl, HF2.out⟩
    · obtain ⟨c0, c1, c2, -, -, -⟩ := row_facts HQ5.out
      obtain ⟨z0, z1, z2, f0, f1, f2⟩ := row_facts HH5.out.2
      have HF := Lib.hid (row_set3 (x' := .int .i64 W) (y' := .int .i64 H) (z' := .int .i64 Z) HH5.out.2)
      have HF2 : Hid (Below w.heap.size w (set3 w5 w.heap.size (.int .i64 W) (.int .i64 H) (.int .i64 Z))) := set3_below (HB.out.trans (HH5.out.1.2.1.mono HB.out.size)) (Nat.le_refl _)
      obtain ⟨a0, a1, a2, -, -, -⟩ := row_facts HF.out
      unfold set3 at a0 a1 a2 HF2
      go_wp2_with fail
      exact bodyPost_ret (v := .agg #[.int .i64 W, .int .i64 H, .int .i64 Z]) (by simp [results, Tryz.results13, go_sem, a0, a1, a2]) rfl ⟨W, H, Z, rfl, HF2.out⟩
  · have h9' : ¬ (9 : Int) < (n : Int) := by omega
    obtain ⟨c0, c1, c2, -, -, -⟩ := row_facts HQ4.out
    obtain ⟨z0, z1, z2, f0, f1, f2⟩ := row_facts HH4.out.2
    have HF := Lib.hid (row_set3 (x' := .int .i64 W) (y' := .int .i64 H) (z' := .int .i64 Z) HH4.out.2)
    have HF2 : Hid (Below w.heap.size w (set3 w4 w.heap.size (.int .i64 W) (.int .i64 H) (.int .i64 Z))) := set3_below (HB.out.trans (HH4.out.1.2.1.mono HB.out.size)) (Nat.le_refl _)
    obtain ⟨a0, a1, a2, -, -, -⟩ := row_facts HF.out
    unfold set3 at a0 a1 a2 HF2
    go_wp2_with fail
    exact bodyPost_ret (v := .agg #[.int .i64 W, .int .i64 H, .int .i64 Z]) (by simp [results, Tryz.results13, go_sem, a0, a1, a2]) rfl ⟨W, H, Z, rfl, HF2.out⟩
end Go.Proofs.YtkenlighpelhiaaGreat
