/- Ways, of the program: GoodJumps, WayTo, JumpsBetween, IsSpoiled, WayToSingle, for every three ints and ints up to 2^63 - 1. -/
import Derived.Test.YtlklnabnomfhbaaGreatGoodC
import Derived.Test.YtlklnabnomfhbaaGreatReachI
import Derived.Test.YtlklnabnomfhbaaGreatWayA
namespace Go.Proofs.YtlklnabnomfhbaaGreat
open Go.RowKit
set_option linter.unusedVariables false
set_option linter.unusedSimpArgs false
set_option maxHeartbeats 4000000 in
set_option maxRecDepth 100000 in
theorem implFitG {a b N z : Nat} (ho : Ok (a : Int) (b : Int) N z) (h16 : N ≤ 16) {G : Int} {B bk bg bl bi bm n0 vc bj : Nat} {va : Option Addr} (P : Int) (hP : P ≤ 9223372036854775807) (w : World) (hJ : JSt (lnsOf (a : Int) b z) G B bk bg bl bi bm va n0 vc bj w) (hK : Knows a b z G bm w) :
    Calls Tryz.prog 21 #[.agg #[.int .i64 a, .int .i64 b, .int .i64 z], .int .i64 P, JumpV bj] w (fun e w' => ∃ v, e = .returned v ∧ w'.ownsRow w.heap.size 39 3 v (goodL a b z P G).length (lv (goodL a b z P G)) ∧ Knows a b z G bm w' ∧ w.grownBy w' (some bm)) := by
  obtain ⟨i0, hi, hz0, hz1, hz2⟩ : ∃ i, Tryz.prog.info? 39 = some i ∧ i.zero = some (.agg #[.int .i64 0, .int .i64 0, .int .i64 0]) ∧ i.size = 3 ∧ i.bytes = 24 := ⟨_, by rfl, by rfl, by rfl, by rfl⟩
  cases hp : posB (a : Int) b z P
  · have C1 := Lib.hid (implPos_is hP hp)
    rw [goodL_pos hp]
    have HK := Lib.hid hK
    clear hp hP hJ hK
    unfold JumpV
    go_enter Tryz.func21, Tryz.ntmps21
    go_wp2_with fail
    have B00 := Lib.hid (box_new a b z w)
    have hS : (w.alloc (.cells #[.int .i64 (a : Int), .int .i64 (b : Int), .int .i64 (z : Int)] 25)).heap.size = w.heap.size + 1 := by simp
    generalize w.alloc (.cells #[.int .i64 (a : Int), .int .i64 (b : Int), .int .i64 (z : Int)] 25) = W1 at *
    have HL0 : Hid (Held (W1.alloc (.cells #[] 39)) (w.heap.size + 1) (.slice (some ⟨w.heap.size + 1, 0, none⟩) 0 0) 0 []) := by
      refine ⟨rfl, ?_⟩
      rw [← hS]
      exact World.ownsRow_made W1 #[] 0 (Nat.le_refl _) (by unfold maxLen; omega) rfl
    have B0 := Lib.hid (B00.out.later ((Below.refl _ _).alloc (Nat.le_refl _) (.cells #[] 39)))
    generalize W1.alloc (.cells #[] 39) = W2 at *
    clear B00 hS
    obtain ⟨c0, c1, c2, hlt, hb1⟩ := B0.out
    go_wp2_with fail
    refine (C1.out _).mono ?_
    rintro e w3 ⟨rfl, hb3⟩
    have HF := Lib.hid (own_base (HL0.out.below hb3).2 (Nat.le_succ _))
    have B3 := Lib.hid (B0.out.later hb3)
    clear hb3 B0 HL0 c0 c1 c2 hlt hb1
    go_wp2_with fail
    go_ret
    exact ⟨_, rfl, HF.out, HK.out.later B3.out.2.2.2.2, grown_below B3.out.2.2.2.2 _⟩
  · have C0 := Lib.hid (implPos_is hP hp)
    rw [goodL_fit hp]
    obtain ⟨N', z', p, e1, rfl, -, hpz⟩ := pos_yes hp
    obtain rfl : z = z' := by omega
    have CB : Hid (∀ (f o t : Int), (f, o, t) ∈ lnsOf (a : Int) b z → ∀ w1, w.grownBy w1 (some bm) → Knows a b z G bm w1 → Calls Tryz.prog 49 #[.int .i64 (p : Int), .agg #[.int .i64 f, .int .i64 o, .int .i64 t], .pointer (some ⟨bj, 0, none⟩)] w1 (fun e w' => e = .returned (.bool (fitB a b z G p (f, o, t))) ∧ Knows a b z G bm w' ∧ w1.grownBy w' (some bm))) := by
      intro f o t hm w1 hg hk
      obtain ⟨f', o', t', r, he, h49, ho49, ht49, hfl, e2, e3, hpc, hpt⟩ := line_is5 ho p hm
      obtain ⟨rfl, rfl, rfl⟩ : f = (f' : Int) ∧ o = (o' : Int) ∧ t = (t' : Int) := by simpa using he
      unfold fitB
      rw [e2, e3]
      exact implJumpG (hpz.big ho) h49 ho49 ht49 hfl (fun _ w hF hK => implGood ho h16 (hpt hpz) w hF hK) w1 (hJ.grown hg) hk
    have C1 := Lib.hid (fun w => implLinesA (a : Int) b z w)
    have hle := lnsOf_le (a : Int) b z
    have HK := Lib.hid hK
    have HLt := hJ.fix.lt
    generalize fitB a b z G p = fit at *
    generalize lnsOf (a : Int) b z = xs at *
    clear hp hP hJ hK ho h16 hpz e1
    obtain ⟨n, hn⟩ : ∃ n, xs.length = n := ⟨_, rfl⟩
    have HN := Lib.hid hn
    rw [hn] at hle
    clear hn
    unfold JumpV
    go_enter Tryz.func21, Tryz.ntmps21
    go_wp2_with fail
    have B00 := Lib.hid (box_new a b z w)
    have hS : (w.alloc (.cells #[.int .i64 (a : Int), .int .i64 (b : Int), .int .i64 (z : Int)] 25)).heap.size = w.heap.size + 1 := by simp
    generalize w.alloc (.cells #[.int .i64 (a : Int), .int .i64 (b : Int), .int .i64 (z : Int)] 25) = W1 at *
    have HL0 : Hid ((W1.alloc (.cells #[] 39)).ownsRow (w.heap.size + 1) 39 3 (.slice (some ⟨w.heap.size + 1, 0, none⟩) 0 0) 0 (lv [])) := by
      unfold Hid
      rw [← hS]
      exact World.ownsRow_made W1 #[] 0 (Nat.le_refl _) (by unfold maxLen; omega) rfl
    have hba1 : Below W1.heap.size W1 (W1.alloc (.cells #[] 39)) := (Below.refl _ _).alloc (Nat.le_refl _) _
    have B0 := Lib.hid (B00.out.later hba1)
    generalize W1.alloc (.cells #[] 39) = W2 at *
    have HS0 : Hid (FitSt w a b z a b z G bm none 0 0 [] (.slice (some ⟨w.heap.size + 1, 0, none⟩) 0 0) [] W2) :=
      ⟨⟨B0.out.1, B0.out.2.1, B0.out.2.2.1, B0.out.2.2.2.1⟩, World.ownsRow_nil _ _ _ _, rfl, HL0.out, fun g0 h => (by cases h), HK.out.later B0.out.2.2.2.2, grown_below B0.out.2.2.2.2 _, HLt⟩
    clear B00 hS hba1 B0 HL0 HLt
    obtain ⟨c0, c1, c2, hlt⟩ := HS0.out.box
    go_wp2_with fail
    refine (C0.out _).mono ?_
    rintro e w3 ⟨rfl, hb⟩
    have HS1 := Lib.hid (HS0.out.later hb)
    clear hb HS0 c0 c1 c2 hlt
    obtain ⟨c0, c1, c2, hlt⟩ := HS1.out.box
    go_wp2_with fail
    refine (C1.out _).mono ?_
    rintro e w4 ⟨hv, rfl, hh, hb⟩
    rw [HN.out] at hh
    obtain ⟨ga, gc, rfl⟩ := lines_form hh
    have HS3 := Lib.hid (HS1.out.take hb hh HN.out)
    clear hh HS1 hb c0 c1 c2 hlt
    go_wp2_with fail
    go_loopw [7, 19] (fun s i wr => ∃ (k : Nat) (v : Value), k ≤ n ∧ i = .int .i64 k ∧ v = s ∧ Hid (FitSt w a b z a b z G bm ga n gc xs v ((xs.take k).filter fit) wr)) (fun _ i _ => n - (intOf i).toNat)
    case atStart => exact ⟨0, _, Nat.zero_le _, rfl, rfl, HS3⟩
    case round =>
      clear HS3
      obtain ⟨k, v, hk, rfl, rfl, HS⟩ := hrel
      by_cases hkn : k < n
      · obtain ⟨⟨f, o, t⟩, hl⟩ : ∃ l, xs[k]? = some l := ⟨_, List.getElem?_eq_getElem (by rw [HN.out]; exact hkn)⟩
        have CX := Lib.hid (CB.out f o t (List.mem_of_getElem? hl))
        have k0 : (0 : Int) ≤ (k : Int) := by omega
        have k1 : (k : Int) < (n : Int) := by omega
        obtain ⟨g, rfl, l0, l1, l2⟩ := HS.out.cells hl
        simp only at l0 l1 l2
        have hbl : Below wr.heap.size wr (wr.alloc (.cells #[.int .i64 f, .int .i64 o, .int .i64 t] 39)) := (Below.refl _ _).alloc (Nat.le_refl _) _
        have HSa := Lib.hid (HS.out.later hbl)
        have hrow := heap_alloc_new wr (.cells #[.int .i64 f, .int .i64 o, .int .i64 t] 39)
        obtain ⟨olen, holen⟩ : ∃ m, ((xs.take k).filter fit).length = m := ⟨_, rfl⟩
        have hol : olen ≤ 1000000000 := by
          rw [← holen]
          refine Nat.le_trans (List.length_filter_le ..) (Nat.le_trans (List.length_take_le' ..) (by rw [HN.out]; omega))
        have HOL := Lib.hid holen
        have HNE : Hid (some wr.heap.size ≠ some bm) := fun e => by
          have h1 := HS.out.box.2.2.2
          have h2 := HS.out.lt
          simp at e
          omega
        have HR1 : Hid (∀ w', (wr.alloc (.cells #[.int .i64 f, .int .i64 o, .int .i64 t] 39)).grownBy w' (some bm) → w'.heap[wr.heap.size]? = some (.cells #[.int .i64 f, .int .i64 o, .int .i64 t] 39 (0, 0))) := fun w' h => (h.block _ (by simp) HNE.out).trans hrow
        clear hbl HS holen
        go_wp2_with fail
        clear l0 l1 l2
        generalize wr.alloc (.cells #[.int .i64 f, .int .i64 o, .int .i64 t] 39) = wa at *
        refine (CX.out wa HSa.out.gb HSa.out.kn).mono ?_
        rintro e wb ⟨rfl, hkb, hgb⟩
        have HSb := Lib.hid (HSa.out.turn hgb hkb)
        obtain ⟨r0, r1, r2, -, -, -⟩ := row_facts (HR1.out _ hgb)
        clear HSa hrow hkb hgb CX HR1
        cases hc : fit (f, o, t)
        · have HF := Lib.hid (filter_no hl hc)
          rw [← HF.out] at HSb
          clear hl hc r0 r1 r2
          go_wp2_with fail
          go_roundw
          case rel => exact ⟨k + 1, _, by omega, by go_num, rfl, HSb⟩
          case measure => simp [intOf]; omega
        · have HF := Lib.hid (filter_yes hl hc)
          clear hl hc
          have hown0 := HSb.out.out
          rw [HOL.out] at hown0
          have hbz : w.heap.size + 1 ≤ wb.heap.size := HSb.out.box.2.2.2
          have HPush := Lib.hid (fun w' g' cap ho hg hb hat => HSb.out.push (w' := w') (g := g') (cap := cap) (f := f) (o := o) (t := t) ho hg hb hat)
          rw [HOL.out, ← HF.out] at HPush
          clear HSb
          go_wp2_with (at_builtin; refine wpList_append_line rfl (.tmp 27) (.tmp 29) 28 rfl (w.heap.size + 1) 39 i0 (.agg #[.int .i64 0, .int .i64 0, .int .i64 0]) Tryz.underlying28 hi hz0 hz1 hz2 rfl _ _ _ rfl hown0 _ rfl rfl hol hbz ?_; intro g' cap' w7 hown' hgrow hb2 hat)
          have HS7 := Lib.hid (HPush.out w7 g' cap' (by rw [HF.out]; exact hown') hgrow hb2 hat)
          clear hown' hgrow hb2 hat HPush hown0 r0 r1 r2
          go_wp2_with fail
          go_roundw
          case rel => exact ⟨k + 1, _, by omega, by go_num, rfl, HS7⟩
          case measure => simp [intOf]; omega
      · obtain rfl : k = n := by omega
        have hfull : Hid (xs.take k = xs) := List.take_of_length_le (by rw [HN.out]; exact Nat.le_refl _)
        rw [hfull.out] at HS
        go_wp2_with fail
        go_ret
        exact ⟨_, rfl, own_base HS.out.out (Nat.le_succ _), HS.out.kn, HS.out.gb⟩
end Go.Proofs.YtlklnabnomfhbaaGreat
