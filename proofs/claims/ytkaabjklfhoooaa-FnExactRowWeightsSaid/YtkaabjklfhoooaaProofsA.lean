/- ClassWeights, ColumnWeights, RowWeights of the program: the numbers of Fibonacci, the rules by column and row, the list over the grid. -/
import Derived.Test.YtkaabjklfhoooaaProofMath
import Derived.Test.YtkaabjklfhoooaaWeights
import Derived.Test.YtkaabjklfhoooaaBoards
import Derived.Test.YtkaabjklfhoooaaLinesAll
namespace Go.Proofs.Ytkaabjklfhoooaa
open Go.RowKit
set_option linter.unusedVariables false
set_option linter.unusedSimpArgs false
set_option maxHeartbeats 1000000 in
set_option maxRecDepth 100000 in
theorem implFib (n : Nat) (hn : n ≤ 7) (w : World) : Calls Try.prog 51 #[.int .i64 n] w fun e w' => e = .returned (.int .i64 (fibN n)) ∧ w = w' := by
  go_enter Try.func51, Try.ntmps51
  go_wp2_with fail
  go_loopw [3, 4, 6] (fun x y i wr => ∃ k : Nat, k ≤ n ∧ i = .int .i64 k ∧ x = .int .i64 (fibP k).1 ∧ y = .int .i64 (fibP k).2 ∧ wr = w) (fun _ _ i _ => n - (intOf i).toNat)
  case atStart => exact ⟨0, Nat.zero_le _, rfl, rfl, rfl, rfl⟩
  case round =>
    obtain ⟨k, hk, rfl, rfl, rfl, rfl⟩ := hrel
    by_cases hlt : k < n
    · have h0 : (0 : Int) ≤ (k : Int) := by omega
      have h1 : (k : Int) < (n : Int) := by omega
      obtain ⟨f1, f2, f3, f4⟩ := fib_le (show k ≤ 8 by omega)
      have HE : Hid ((fibP (k + 1)).1 = (fibP k).2 ∧ (fibP (k + 1)).2 = (fibP k).1 + (fibP k).2) := ⟨rfl, rfl⟩
      generalize (fibP k).1 = x at *
      generalize (fibP k).2 = y at *
      go_wp2_with fail
      go_roundw
      case rel => exact ⟨k + 1, by omega, by go_num, by rw [HE.out.1], by rw [HE.out.2], trivial⟩
      case measure => simp [intOf]; omega
    · obtain rfl : k = n := by omega
      go_wp2_with fail
      go_ret
      exact ⟨rfl, rfl⟩
set_option maxHeartbeats 1000000 in
set_option maxRecDepth 100000 in
theorem implNear (x p : Nat) (hx : x < 7) (hp : p < 7) (w : World) : Calls Try.prog 38 #[.int .i64 x, .int .i64 p] w fun e w' => e = .returned (.int .i64 (nearW x p)) ∧ w = w' := by
  obtain ⟨d, hd⟩ : ∃ d : Nat, 7 - max (x - p) (p - x) = d := ⟨_, rfl⟩
  have hd7 : d ≤ 7 := by omega
  have C1 := Lib.hid (fun w => implFib d hd7 w)
  have HE : Hid (nearW x p = fibN d) := by unfold Hid nearW; rw [hd]
  rw [HE.out]
  by_cases h1 : x < p
  · have e1 : (p : Int) - x = 7 - d := by omega
    have e2 : (x : Int) - p = d - 7 := by omega
    have e3 : ¬ (7 : Int) - d ≤ d - 7 := by omega
    have e4 : (d : Int) - 7 ≤ 7 - d := by omega
    have e5 : (7 : Int) - (7 - d) = d := by omega
    have d0 : (0 : Int) ≤ d := by omega
    have d7 : (d : Int) ≤ 7 := by omega
    clear hd HE
    go_enter Try.func38, Try.ntmps38
    go_wp2_with fail
    refine (C1.out _).mono ?_
    rintro e w1 ⟨rfl, rfl⟩
    go_wp2_with fail
    go_ret
    exact ⟨rfl, rfl⟩
  · have e1 : (p : Int) - x = d - 7 := by omega
    have e2 : (x : Int) - p = 7 - d := by omega
    have e4 : (d : Int) - 7 ≤ 7 - d := by omega
    have e5 : (7 : Int) - (7 - d) = d := by omega
    have d0 : (0 : Int) ≤ d := by omega
    have d7 : (d : Int) ≤ 7 := by omega
    clear hd HE
    go_enter Try.func38, Try.ntmps38
    go_wp2_with fail
    refine (C1.out _).mono ?_
    rintro e w1 ⟨rfl, rfl⟩
    go_wp2_with fail
    go_ret
    exact ⟨rfl, rfl⟩
/-- A number in a block of its own. -/
def BoxI (g : Nat) (R : Int) (w : World) : Prop := w.cell? ⟨g, 0, none⟩ = some (.int .i64 R) ∧ g < w.heap.size
theorem BoxI.later {g : Nat} {R : Int} {w w' : World} (h : BoxI g R w) (hb : Below w.heap.size w w') : BoxI g R w' := ⟨(hb.cell h.2).trans h.1, Nat.lt_of_lt_of_le h.2 hb.size⟩
set_option maxHeartbeats 1000000 in
set_option maxRecDepth 100000 in
theorem implCls (x y r g : Nat) (hx : x < 7) (hy : y < 7) (hr : r < 3) (w : World) (hb : BoxI g r w) : Calls Try.prog 33 #[.int .i64 x, .int .i64 y, .pointer (some ⟨g, 0, none⟩)] w fun e w' => e = .returned (.int .i64 (clsW r x y)) ∧ w = w' := by
  obtain ⟨c0, -⟩ := hb
  have hs : (x : Int) + y = ((x + y : Nat) : Int) := by omega
  have hm : ((x + y : Nat) : Int).tmod 3 = (((x + y) % 3 : Nat) : Int) := by rw [Int.tmod_eq_emod_of_nonneg (by omega)]; omega
  have hb2 : x + y < 14 := by omega
  have hE : Hid (clsW r x y = if (x + y) % 3 = r then 0 else 1) := rfl
  rw [hE.out]
  have hq : (x + y) % 3 < 3 := Nat.mod_lt _ (by decide)
  generalize (x + y) % 3 = q at *
  generalize x + y = s at *
  by_cases h : q = r
  · subst h
    rw [if_pos rfl]
    clear hE
    go_enter Try.func33, Try.ntmps33
    go_wp2_with fail
    go_ret
    exact ⟨rfl, rfl⟩
  · rw [if_neg h]
    have h' : ¬ (q : Int) = r := by omega
    clear hE h
    go_enter Try.func33, Try.ntmps33
    go_wp2_with fail
    go_ret
    exact ⟨rfl, rfl⟩
set_option maxHeartbeats 1000000 in
set_option maxRecDepth 100000 in
theorem implCol (x y p g : Nat) (hx : x < 7) (hp : p < 7) (w : World) (hb : BoxI g p w) : Calls Try.prog 37 #[.int .i64 x, .int .i64 y, .pointer (some ⟨g, 0, none⟩)] w fun e w' => e = .returned (.int .i64 (colW p x y)) ∧ w = w' := by
  obtain ⟨c0, -⟩ := hb
  have C1 := Lib.hid (fun w => implNear x p hx hp w)
  unfold colW
  go_enter Try.func37, Try.ntmps37
  go_wp2_with fail
  refine (C1.out _).mono ?_
  rintro e w1 ⟨rfl, rfl⟩
  go_wp2_with fail
  go_ret
  exact ⟨rfl, rfl⟩
set_option maxHeartbeats 1000000 in
set_option maxRecDepth 100000 in
theorem implRow (x y p g : Nat) (hy : y < 7) (hp : p < 7) (w : World) (hb : BoxI g p w) : Calls Try.prog 39 #[.int .i64 x, .int .i64 y, .pointer (some ⟨g, 0, none⟩)] w fun e w' => e = .returned (.int .i64 (rowW p x y)) ∧ w = w' := by
  obtain ⟨c0, -⟩ := hb
  have C1 := Lib.hid (fun w => implNear y p hy hp w)
  unfold rowW
  go_enter Try.func39, Try.ntmps39
  go_wp2_with fail
  refine (C1.out _).mono ?_
  rintro e w1 ⟨rfl, rfl⟩
  go_wp2_with fail
  go_ret
  exact ⟨rfl, rfl⟩
/-- What is asked of a rule: at each column and row it returns the number, and turns nothing. -/
def RuleAt (c g : Nat) (f : Nat → Nat → Int) (w : World) : Prop := ∀ (x y : Nat) (w' : World), x < 7 → y < 7 → Below w.heap.size w w' → Calls Try.prog c #[.int .i64 x, .int .i64 y, .pointer (some ⟨g, 0, none⟩)] w' fun e w'' => e = .returned (.int .i64 (f x y)) ∧ w' = w''
set_option maxHeartbeats 2000000 in
set_option maxRecDepth 100000 in
theorem implBy {a b N z : Nat} (ho : Ok (a : Int) (b : Int) N z) (c g : Nat) (f : Nat → Nat → Int) (w : World) (hc : c = 33 ∨ c = 37 ∨ c = 39) (hr : RuleAt c g f w) :
    Calls Try.prog 32 #[.agg #[.int .i64 a, .int .i64 b, .int .i64 z], .func (.func c) #[] #[.pointer (some ⟨g, 0, none⟩)]] w (OwnIv (gridL a N f) w) := by
  obtain ⟨i0, hi, hz0, hz1, hz2⟩ : ∃ i, Try.prog.info? 3 = some i ∧ i.zero = some (.int .i64 0) ∧ i.size = 1 ∧ i.bytes = 8 := ⟨_, by rfl, by rfl, by rfl, by rfl⟩
  obtain ⟨hN, ha0, ha7, hb0, hb7, h49⟩ := ho.nat
  rw [hN] at h49
  have C1 := Lib.hid (fun w => implSize (a : Int) (b : Int) z w N ho.wh ho.n49)
  have C2 := Lib.hid (fun k w (hk : k < N) => implPlaceN ho (k := k) (by rw [hN]; exact hk) w)
  have CR := Lib.hid hr
  have HG := Lib.hid (fun k (hk : k < N) => gridL_get (a := a) f hk)
  have HL : Hid ((gridL a N f).length = N) := gridL_len a N f
  have HX : Hid (∀ k, k < N → k % a < 7 ∧ k / a < 7) := fun k hk => ⟨by have := Nat.mod_lt k ha0; omega, by
    have : k / a < b := by rw [Nat.div_lt_iff_lt_mul ha0, Nat.mul_comm, hN]; exact hk
    omega⟩
  generalize gridL a N f = xs at *
  clear hr hN ho
  go_enter Try.func32, Try.ntmps32
  go_wp2_with fail
  have B0 := Lib.hid (box_new a b z w)
  generalize w.alloc (.cells #[.int .i64 a, .int .i64 b, .int .i64 (z : Int)] 26) = W1 at *
  obtain ⟨c0, c1, c2, hlt, hb1⟩ := B0.out
  go_wp2_with fail
  refine (C1.out _).mono ?_
  rintro e w1 ⟨rfl, hb⟩
  have B1 := Lib.hid (B0.out.later hb)
  clear c0 c1 c2 hlt hb1 hb B0 C1
  obtain ⟨w3, hmk, hrow, hg3⟩ := run_make_full (P := Try.prog) w1 w1.heap.size 24 3 i0 (.int .i64 0) 1 Try.underlying24 hi hz0 hz1 .i64 .i64 N (by rw [hz2]; omega) (by unfold maxLen; omega) (Nat.le_refl _)
  have HB3 : Hid (Below w1.heap.size w1 w3) := ⟨hg3.os, hg3.tape, hg3.output, hg3.size, fun j hj => hg3.block j hj (by simp)⟩
  obtain ⟨L, hL⟩ : ∃ L, (madeCells (Value.int .i64 0).cells (N * 1)).toList = L := ⟨_, rfl⟩
  have HLL : Hid (L.length = N) := by unfold Hid; rw [← hL]; simp [madeCells]
  rw [hL] at hrow
  have HR := Lib.hid hrow
  clear hrow hg3 hL
  obtain ⟨c0', c1', c2', hlt, hb1⟩ := B1.out
  obtain ⟨q, hq⟩ : ∃ q, w1.heap.size = q := ⟨_, rfl⟩
  rw [hq] at hmk HB3 HR hlt
  have HQ := Lib.hid hq
  have HC0 := Lib.hid c0'
  have HC1 := Lib.hid c1'
  have HC2 := Lib.hid c2'
  have HBW := Lib.hid hb1
  clear hq c0' c1' c2' hb1
  go_wp2_with fail
  clear hmk
  go_loopw [12] (fun i wr => ∃ k : Nat, k ≤ N ∧ i = .int .i64 k ∧ Hid (wr.ownsRow q 3 1 (.slice (some ⟨q, 0, none⟩) N N) N (iv (xs.take k) ++ L.drop k)) ∧ Hid (Below q w1 wr)) (fun i _ => N - (intOf i).toNat)
  case atStart => exact ⟨0, Nat.zero_le _, rfl, HR, HB3⟩
  case round =>
    clear HR HB3
    obtain ⟨k, hk, rfl, HO, HW⟩ := hrel
    by_cases hlk : k < N
    · have h0 : (0 : Int) ≤ (k : Int) := by omega
      have h1 : (k : Int) < (N : Int) := by omega
      have c0 := (HW.out.cell hlt).trans HC0.out
      have c1 := (HW.out.cell hlt).trans HC1.out
      have c2 := (HW.out.cell hlt).trans HC2.out
      have CK := Lib.hid (fun w => C2.out k w hlk)
      have hqs : q ≤ wr.heap.size := by rw [← HQ.out]; exact HW.out.size
      go_wp2_with fail
      refine (CK.out _).mono ?_
      rintro e w5 ⟨rfl, hb5⟩
      have HO5 := Lib.hid (own_below HO.out hb5)
      have HW5 := Lib.hid (HW.out.trans (hb5.mono hqs))
      obtain ⟨x7, y7⟩ := HX.out k hlk
      have hx := HG.out k hlk
      have CF := Lib.hid (CR.out (k % a) (k / a) w5 x7 y7 (HBW.out.trans (HW5.out.mono (by rw [← HQ.out]; exact HBW.out.size))))
      generalize f (k % a) (k / a) = v at *
      generalize k % a = x at *
      generalize k / a = y at *
      have HS := Lib.hid (take_one hx)
      have HT : Hid ((xs.take k).length = k) := by unfold Hid; rw [List.length_take, HL.out]; omega
      have f0 := HO5.out.frozenAt k
      obtain ⟨v0, d0⟩ : ∃ v, w5.cell? ⟨q, k, none⟩ = some v := by
        rw [HO5.out.cellAt k (by omega)]
        exact ⟨_, List.getElem?_eq_getElem (by have := HO5.out.1; omega)⟩
      have hst := HO5.out.stored k (.int .i64 v)
      have hpl := iput L (xs.take k) v HT.out HLL.out hlk
      rw [hpl, ← HS.out] at hst
      have hqs5 : q ≤ w5.heap.size := by rw [← HQ.out]; exact HW5.out.size
      have HST := Lib.hid hst.1
      have HWT := Lib.hid (HW5.out.grown hst.2 hqs5 (fun j hj => by cases hj; exact Nat.le_refl _))
      clear hx hst hpl HO HW hqs hqs5 hb5 c0 c1 c2 CK HO5 HW5 HS HT
      rcases hc with rfl | rfl | rfl
      all_goals
        go_wp2_with fail
        refine CF.out.mono ?_
        rintro e w6 ⟨rfl, rfl⟩
        clear CF
        go_wp2_with fail
        go_roundw
        case rel => exact ⟨k + 1, by omega, by go_num, HST, HWT⟩
        case measure => simp [intOf]; omega
    · obtain rfl : k = N := by omega
      have hp : Hid (OwnIv xs w (.returned (.slice (some ⟨q, 0, none⟩) k k)) wr) := by
        refine ⟨_, rfl, ?_, ?_⟩
        · have := HO.out
          rw [List.drop_of_length_le (by rw [HLL.out]; exact Nat.le_refl _), List.append_nil, List.take_of_length_le (by rw [HL.out]; exact Nat.le_refl _)] at this
          rw [HL.out]; exact own_base this (by rw [← HQ.out]; exact HBW.out.size)
        · exact HBW.out.trans (HW.out.mono (by rw [← HQ.out]; exact HBW.out.size))
      clear HO HW
      go_wp2_with fail
      go_ret
      exact hp.out
end Go.Proofs.Ytkaabjklfhoooaa
