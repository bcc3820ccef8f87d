/- The law FnWeights returns true for every code: of a drawn board and weights of it: each line's loss is the weights' and the difference of two sums; where they are falling no line gains, and else the broken line gains; the doubled weights have the doubled sum and fall as they do; no peg, no sum. No condition. -/
import Derived.Test.YtpdhdogllejdbaaRows
import Derived.WalkKit
import Derived.WalkSpells
import Derived.ProofKit
import Derived.OpenShut
import Derived.ShutString
import Derived.ChangeOld
import Derived.Below
import Derived.Lib.Hide
import Derived.Lib.SmallJoins
import Derived.ChangeArms
import Derived.Test.YtpdhdogllejdbaaDrawWts
import Derived.Test.YtpdhdogllejdbaaWeightFacts
import Derived.Test.YtpdhdogllejdbaaWeights
import Derived.Test.YtpdhdogllejdbaaDraws
namespace Go.Proofs.Ytpdhdogllejdbaa.fnWeights
open Go.ChangeShapes Go.WideShapes Go.ChangeAt Go.RowKit
open Go.ChangeMaps (open_string shut_string)
set_option linter.unusedVariables false
set_option linter.unusedSimpArgs false
theorem own : ownKnob Try.prog.godebug = none := by kernel_rfl
theorem laidOut : laidOutB Try.prog = true := by kernel_rfl
/-- What the walk is told of a slice of integers that came in. -/
def IsRow (k : IntKind) (w : World) (a : Option Addr) (len cap : Nat) (zs : List Int) : Prop :=
  (a = none ∧ len = 0 ∧ cap = 0 ∧ zs = []) ∨
  ∃ x, a = some x ∧ len ≤ cap ∧ cap ≤ maxLen ∧ zs.length = cap ∧ (∀ i, i < zs.length → w.cell? (x.add i) = some (.int k (zs.getD i 0))) ∧ ∀ n ∈ zs, (Lit.int k n).wf = true
/-- A result of BrokenLine, in cells. -/
def xc (o : Option Ln) : Ln := o.getD (0, 0, 0)
set_option maxHeartbeats 16000000 in
set_option maxRecDepth 100000 in
theorem walk_in {a0 : Option Addr} {len cap : Nat} (w : World) (hcode : CodeAt w a0 len) :
    Calls Try.prog 9 #[.slice a0 len cap] w fun e w' => e = .returned (.bool true) ∧ Below w.heap.size w w' := by
  have HCO := Lib.hid hcode
  clear hcode
  go_enter Try.func9, Try.ntmps9
  go_wp2_with fail
  refine (big_no _ HCO.out.1).mono ?_
  rintro e w' ⟨rfl, rfl⟩
  go_wp2_with fail
  refine (drawWeights w HCO.out).mono ?_
  rintro e w1 ⟨W, H, N, z, xs, v, ho, hN16, hbd, rfl, hx1, hb1⟩
  unfold bd
  have hN20 : N ≤ 1048576 := by omega
  have hok := bnd_ok ho hbd
  have h49 := ho.n49
  have hzb := ho.zbig
  have HN := Lib.hid hbd.1
  have K1 := Lib.hid (fun (ga : Option Addr) (gc : Nat) w (hi : IntsAt w ga N xs) => implFalling W H z (c := gc) w hN20 hi)
  have K2 := Lib.hid (fun (ga : Option Addr) (gc : Nat) w (hi : IntsAt w ga N xs) => implBroken W H z (c := gc) w hN20 hi)
  have K3 := Lib.hid (fun w => specLinesA W H z w)
  have K4 := Lib.hid (fun (f o t : Int) (ga : Option Addr) (gc : Nat) w (hi : IntsAt w ga N xs) => implLossOf W H z f o t (c := gc) w hN20 hi)
  have K5 := Lib.hid (fun (P : Int) (hP : P ≤ 9223372036854775807) (ga : Option Addr) (gc : Nat) w (hi : IntsAt w ga N xs) => implSum W H z P hP (c := gc) w hN20 hi)
  have K6 := Lib.hid (fun (ga : Option Addr) (gc : Nat) w (hi : IntsAt w ga N xs) => implAddWeights W H z (c := gc) (c' := gc) w hN20 hi hN20 hi)
  have K7 := Lib.hid (fun (ga : Option Addr) (gc : Nat) w (hi : IntsAt w ga N xs) => implWeightsOk W H z (c := gc) w hN20 hi)
  have K8 := Lib.hid (fun (P : Int) (hP : P ≤ 9223372036854775807) (ga : Option Addr) (gc : Nat) w (hi : IntsAt w ga N (addL xs xs)) => implSum W H z P hP (c := gc) w hN20 hi)
  have K9 := Lib.hid (fun (ga : Option Addr) (gc : Nat) w (hi : IntsAt w ga N (addL xs xs)) => implFalling W H z (c := gc) w hN20 hi)
  rw [hok] at K7
  have K10 : Hid (∀ (ga : Option Addr) (gc : Nat) w (hi : IntsAt w ga N xs), Calls Try.prog 68 #[.agg #[.int .i64 W, .int .i64 H, .int .i64 z], .slice ga N gc, .int .i64 0] w (QI 0 w)) := fun ga gc w hi => by
    have := K5.out ((0 : Nat) : Int) (by omega) ga gc w hi
    rw [sum_nat ho hbd (part_zero z), sumTo_zero] at this
    exact this
  have hle := lnsOf_le W H z
  -- what is told of a line: its naturals, its loss, and the two sums
  have HLN : Hid (∀ (f o t : Int), (f, o, t) ∈ lnsOf W H z → ∃ f' o' t' : Nat, f = f' ∧ o = o' ∧ t = t' ∧ f' < N ∧ o' < N ∧ t' < N ∧ lossB W H z xs (f, o, t) = wAt xs f' + wAt xs o' - wAt xs t' ∧ sumB W H z xs ((2 ^ f' + 2 ^ o' : Nat) : Int) = wAt xs f' + wAt xs o' ∧ sumB W H z xs ((2 ^ t' : Nat) : Int) = wAt xs t' ∧ (fallB W H z xs = true → 0 ≤ wAt xs f' + wAt xs o' - wAt xs t')) := fun f o t hm => by
    obtain ⟨f', o', t', rfl, rfl, rfl, l1, l2, l3, b1, b2, b3, n1, n2, n3⟩ := line_nat ho hm
    refine ⟨f', o', t', rfl, rfl, rfl, l1, l2, l3, loss_is hok hm, ?_, ?_, fun hf => fall_loss hf hm⟩
    · rw [sum_nat ho hbd (part_two b1 b2 n1), sumTo_two xs l1 l2 n1]
    · rw [sum_nat ho hbd (part_pow b3), sumTo_one xs l3]
  have HGE := Lib.hid (fun (k : Nat) (hk : k < N) => get_wAt (xs := xs) (k := k) (by rw [hbd.1]; exact hk))
  have HWB := Lib.hid (fun (k : Nat) => all_wAt (wOk_yes hok).2.2 k)
  have HBR : Hid (∀ l, brkL W H z xs = some l → lossB W H z xs l < 0) := fun l hl => brk_loss hl
  have HFB := Lib.hid (fall_brk hok)
  have HAD : Hid (∀ y zs, addB W H z xs xs = (zs, y) → y = true → zs = addL xs xs ∧ fallB W H z (addL xs xs) = fallB W H z xs ∧ zs.length = N) := fun y zs h hy => by
    subst hy
    unfold addB at h
    split at h
    · rename_i h2
      rw [Bool.and_eq_true] at h2
      injection h with h1 _
      subst h1
      exact ⟨rfl, fall_double hok h2.2, (hbd.add hbd).1⟩
    · injection h with _ h1
      cases h1
  have HSZ : Hid (sumB W H z xs (z : Int) = sumTo xs z N ∧ (wOkB W H z (addL xs xs) = true → sumB W H z (addL xs xs) (z : Int) = 2 * sumTo xs z N)) := by
    refine ⟨sum_nat ho hbd (part_self z), fun h => ?_⟩
    have hb2 : Bnd N 1000 (addL xs xs) := ⟨(hbd.add hbd).1, fun k x hk => all_get (wOk_yes h).2.2 hk⟩
    rw [sum_nat ho hb2 (part_self z), sumTo_double]
  have HSB := Lib.hid (sumTo_le (wOk_yes hok).2.2 z N)
  have HAK : Hid (∀ y zs, addB W H z xs xs = (zs, y) → y = true → wOkB W H z (addL xs xs) = true) := fun y zs h hy => by
    subst hy
    unfold addB at h
    split at h
    · rename_i h2
      rw [Bool.and_eq_true] at h2
      exact h2.2
    · injection h with _ h1
      cases h1
  obtain ⟨ls, hls⟩ : ∃ ls, lnsOf W H z = ls := ⟨_, rfl⟩
  rw [hls] at hle K3 HLN
  obtain ⟨m, hm⟩ : ∃ m, ls.length = m := ⟨_, rfl⟩
  have HM := Lib.hid hm
  rw [hm] at hle
  obtain ⟨xo, hxo⟩ : ∃ o, brkL W H z xs = o := ⟨_, rfl⟩
  rw [hxo] at K2 HFB HBR
  obtain ⟨fb, hfb⟩ : ∃ o, fallB W H z xs = o := ⟨_, rfl⟩
  rw [hfb] at K1 HFB HLN HAD
  obtain ⟨⟨zs, y⟩, hzy⟩ : ∃ r, addB W H z xs xs = r := ⟨_, rfl⟩
  rw [hzy] at K6 HAD HAK
  have HAD := Lib.hid (HAD.out y zs rfl)
  have HAK := Lib.hid (HAK.out y zs rfl)
  have HB1 := Lib.hid hb1
  have hsz : w.heap.size ≤ w1.heap.size := hb1.size
  have B0 := Lib.hid (box_newT 25 W H z w1)
  have X0 := Lib.hid (own_below hx1 ((Below.refl _ _).alloc (Nat.le_refl _) (.cells #[.int .i64 W, .int .i64 H, .int .i64 (z : Int)] 25)))
  obtain ⟨ga, gc, rfl⟩ := int_form hx1
  clear hx1 hb1 ho hbd hok hls hm hxo hfb hzy HCO
  obtain ⟨c0, c1, c2, hlt, hbw⟩ := B0.out
  go_wp2_with fail
  clear c0 c1 c2 hlt hbw
  generalize w1.alloc (.cells #[.int .i64 W, .int .i64 H, .int .i64 (z : Int)] 25) = w2 at *
  refine (K1.out _ _ _ (ints_own X0.out HN.out)).mono ?_
  rintro e w3 ⟨rfl, hb⟩
  have B1 := Lib.hid (B0.out.later hb)
  have X1 := Lib.hid (own_below X0.out hb)
  clear hb B0 X0
  obtain ⟨c0, c1, c2, hlt, hbw⟩ := B1.out
  go_wp2_with fail
  refine (K2.out _ _ _ (ints_own X1.out HN.out)).mono ?_
  rintro e w4 ⟨rfl, hb⟩
  have B2 := Lib.hid (B1.out.later hb)
  have X2 := Lib.hid (own_below X1.out hb)
  clear hb B1 X1 c0 c1 c2 hlt hbw K1 K2
  rcases xo with _ | ⟨xf, xp, xt⟩
  · obtain rfl : fb = true := HFB.out
    have hbl : Below w4.heap.size w4 (w4.alloc (.cells #[.int .i64 0, .int .i64 0, .int .i64 0] 31)) := (Below.refl _ _).alloc (Nat.le_refl _) _
    have B3 := Lib.hid (B2.out.later hbl)
    have X3 := Lib.hid (own_below X2.out hbl)
    have R3 := Lib.hid (heap_alloc_new w4 (.cells #[.int .i64 0, .int .i64 0, .int .i64 0] 31))
    have P3 : Hid (w4.heap.size < (w4.alloc (.cells #[.int .i64 0, .int .i64 0, .int .i64 0] 31)).heap.size) := by unfold Hid; simp
    obtain ⟨c0, c1, c2, hlt, hbw⟩ := B3.out
    clear hbl B2 X2
    unfold lineV
    go_wp2_with fail
    clear c0 c1 c2 hlt hbw
    generalize w4.alloc (.cells #[.int .i64 0, .int .i64 0, .int .i64 0] 31) = w5 at *
    generalize w4.heap.size = Q at *
    refine (K3.out _).mono ?_
    rintro e w6 ⟨lvv, rfl, hh, hb⟩
    rw [HM.out] at hh
    obtain ⟨la, lc, rfl⟩ := lines_form hh
    have B6 := Lib.hid (B3.out.later hb)
    have X6 := Lib.hid (own_below X3.out hb)
    have R6 := Lib.hid (row_later R3.out hb P3.out)
    have P6 := Lib.hid (Nat.lt_of_lt_of_le P3.out hb.size)
    have L6 := Lib.hid hh
    generalize w5.heap.size = L0 at *
    clear hb hh B3 X3 R3 P3 K3
    go_upto_block 0 with fail
    go_cut [9, 10, 11] from 32 to 108 (fun s9 s10 s11 wx => Hid (Box w1.heap.size W H z w1 wx) ∧ Hid (wx.ownsRow w.heap.size 3 1 (.slice ga N gc) N (iv xs)) ∧ Hid (wx.heap[Q]? = some (.cells #[.int .i64 0, .int .i64 0, .int .i64 0] 31 (0, 0))))
    case first =>
      go_wp2_with fail
      go_loopw [9] (fun i wr => ∃ j : Nat, j ≤ m ∧ i = .int .i64 j ∧ Hid (Box w1.heap.size W H z w1 wr) ∧ Hid (wr.ownsRow w.heap.size 3 1 (.slice ga N gc) N (iv xs)) ∧ Hid (wr.heap[Q]? = some (.cells #[.int .i64 0, .int .i64 0, .int .i64 0] 31 (0, 0))) ∧ Hid (wr.ownsRow L0 31 3 (.slice la m lc) m (lv ls))) (fun i _ => m - (intOf i).toNat)
      case atStart => exact ⟨0, Nat.zero_le _, rfl, B6, X6, R6, L6⟩
      case round =>
        clear B6 X6 R6 L6 P6
        obtain ⟨j, hj, rfl, B0, X0, R0, L0'⟩ := hrel
        by_cases hjm : j < m
        · have j0 : (0 : Int) ≤ (j : Int) := by omega
          have j1 : (j : Int) < (m : Int) := by omega
          obtain ⟨⟨lf, lo, lt⟩, hl⟩ : ∃ l, ls[j]? = some l := ⟨_, List.getElem?_eq_getElem (by rw [HM.out]; exact hjm)⟩
          obtain ⟨f, o, t, rfl, rfl, rfl, hf, hoo, ht, hloss, hs1, hs2, hge⟩ := HLN.out _ _ _ (List.mem_of_getElem? hl)
          obtain ⟨gl, rfl⟩ := lines_at' L0'.out (by omega)
          have CL : Hid (∀ w : World, w.ownsRow L0 31 3 (.slice (some ⟨gl, 0, none⟩) m lc) m (lv ls) → w.cell? ⟨gl, j * 3, none⟩ = some (.int .i64 (f : Int)) ∧ w.cell? ⟨gl, j * 3 + 1, none⟩ = some (.int .i64 (o : Int)) ∧ w.cell? ⟨gl, j * 3 + 2, none⟩ = some (.int .i64 (t : Int))) := fun w hh => line_cells hh HM.out hl
          obtain ⟨g, rfl⟩ := lines_at' X0.out (by omega)
          have g1 := HGE.out f hf
          have g2 := HGE.out o hoo
          have g3 := HGE.out t ht
          obtain ⟨x1, x2⟩ := HWB.out f
          obtain ⟨y1, y2⟩ := HWB.out o
          obtain ⟨u1, u2⟩ := HWB.out t
          have KL := Lib.hid (K4.out (f : Int) (o : Int) (t : Int))
          rw [hloss] at KL
          obtain ⟨qf, hqf, hqf', qf1, qf2⟩ := pow_nat f (by omega)
          obtain ⟨qo, hqo, hqo', qo1, qo2⟩ := pow_nat o (by omega)
          obtain ⟨qt, hqt, hqt', qt1, qt2⟩ := pow_nat t (by omega)
          rw [hqf', hqo'] at hs1
          rw [hqt'] at hs2
          rw [Int.natCast_add] at hs1
          have KM := Lib.hid (K5.out ((qf : Int) + (qo : Int)) (by omega))
          have KT := Lib.hid (K5.out ((qt : Nat) : Int) (by omega))
          rw [hs1] at KM
          rw [hs2] at KT
          generalize wAt xs f = x at *
          generalize wAt xs o = yy at *
          generalize wAt xs t = u at *
          have CX : Hid (∀ w' : World, w'.ownsRow w.heap.size 3 1 (.slice (some ⟨g, 0, none⟩) N gc) N (iv xs) → w'.cell? ⟨g, f, none⟩ = some (.int .i64 x) ∧ w'.cell? ⟨g, o, none⟩ = some (.int .i64 yy) ∧ w'.cell? ⟨g, t, none⟩ = some (.int .i64 u)) := fun w hh => ⟨own_cell hh f hf _ (by simp [iv, g1]), own_cell hh o hoo _ (by simp [iv, g2]), own_cell hh t ht _ (by simp [iv, g3])⟩
          have f0 : (0 : Int) ≤ (f : Int) := by omega
          have f1 : (f : Int) < (N : Int) := by omega
          have o0 : (0 : Int) ≤ (o : Int) := by omega
          have o1 : (o : Int) < (N : Int) := by omega
          have t0 : (0 : Int) ≤ (t : Int) := by omega
          have t1 : (t : Int) < (N : Int) := by omega
          clear hl g1 g2 g3 hloss hs1 hs2 hqf' hqo' hqt'
          go_wp2_with fail
          refine wp_region_script (by kernel_rfl) (by kernel_rfl) ?_
          refine Script.load (i := 0) (v := ?_) rfl (by kernel_rfl) (by kernel_rfl) (fun _ _ _ h => h) (by kernel_rfl) ?_ ?_
          rotate_left
          · (intro wS hSw; obtain ⟨c0, c1, c2, -, -⟩ := B0.out.later (After.trans (After.drew (After.refl _)) hSw); obtain ⟨l0, l1, l2⟩ := CL.out _ (own_below L0'.out (After.trans (After.drew (After.refl _)) hSw)); go_simp; try with_reducible rfl)
          try simp only [Act.put, List.getElem_toArray, List.getElem_cons_succ, List.getElem_cons_zero, List.setIfInBounds_toArray, List.set_cons_zero, List.set_cons_succ]
          refine Script.load (i := 1) (v := ?_) rfl (by kernel_rfl) (by kernel_rfl) (fun _ _ _ h => h) (by kernel_rfl) ?_ ?_
          rotate_left
          · (intro wS hSw; obtain ⟨c0, c1, c2, -, -⟩ := B0.out.later (After.trans (After.drew (After.refl _)) hSw); obtain ⟨l0, l1, l2⟩ := CL.out _ (own_below L0'.out (After.trans (After.drew (After.refl _)) hSw)); go_simp; try with_reducible rfl)
          try simp only [Act.put, List.getElem_toArray, List.getElem_cons_succ, List.getElem_cons_zero, List.setIfInBounds_toArray, List.set_cons_zero, List.set_cons_succ]
          refine Script.load (i := 2) (v := ?_) rfl (by kernel_rfl) (by kernel_rfl) (fun _ _ _ h => h) (by kernel_rfl) ?_ ?_
          rotate_left
          · (intro wS hSw; obtain ⟨c0, c1, c2, -, -⟩ := B0.out.later (After.trans (After.drew (After.refl _)) hSw); obtain ⟨l0, l1, l2⟩ := CL.out _ (own_below L0'.out (After.trans (After.drew (After.refl _)) hSw)); go_simp; try with_reducible rfl)
          try simp only [Act.put, List.getElem_toArray, List.getElem_cons_succ, List.getElem_cons_zero, List.setIfInBounds_toArray, List.set_cons_zero, List.set_cons_succ]
          refine Script.load (i := 3) (v := ?_) rfl (by kernel_rfl) (by kernel_rfl) (fun _ _ _ h => h) (by kernel_rfl) ?_ ?_
          rotate_left
          · (intro wS hSw; obtain ⟨c0, c1, c2, -, -⟩ := B0.out.later (After.trans (After.drew (After.refl _)) hSw); obtain ⟨l0, l1, l2⟩ := CL.out _ (own_below L0'.out (After.trans (After.drew (After.refl _)) hSw)); go_simp; try with_reducible rfl)
          try simp only [Act.put, List.getElem_toArray, List.getElem_cons_succ, List.getElem_cons_zero, List.setIfInBounds_toArray, List.set_cons_zero, List.set_cons_succ]
          refine Script.load (i := 4) (v := ?_) rfl (by kernel_rfl) (by kernel_rfl) (fun _ _ _ h => h) (by kernel_rfl) ?_ ?_
          rotate_left
          · (intro wS hSw; obtain ⟨c0, c1, c2, -, -⟩ := B0.out.later (After.trans (After.drew (After.refl _)) hSw); obtain ⟨l0, l1, l2⟩ := CL.out _ (own_below L0'.out (After.trans (After.drew (After.refl _)) hSw)); go_simp; try with_reducible rfl)
          try simp only [Act.put, List.getElem_toArray, List.getElem_cons_succ, List.getElem_cons_zero, List.setIfInBounds_toArray, List.set_cons_zero, List.set_cons_succ]
          refine Script.load (i := 5) (v := ?_) rfl (by kernel_rfl) (by kernel_rfl) (fun _ _ _ h => h) (by kernel_rfl) ?_ ?_
          rotate_left
          · (intro wS hSw; obtain ⟨c0, c1, c2, -, -⟩ := B0.out.later (After.trans (After.drew (After.refl _)) hSw); obtain ⟨l0, l1, l2⟩ := CL.out _ (own_below L0'.out (After.trans (After.drew (After.refl _)) hSw)); go_simp; try with_reducible rfl)
          try simp only [Act.put, List.getElem_toArray, List.getElem_cons_succ, List.getElem_cons_zero, List.setIfInBounds_toArray, List.set_cons_zero, List.set_cons_succ]
          refine Script.call (i := 6) (v := ?_) rfl (by kernel_rfl) (by kernel_rfl) (fun _ _ _ h => h) (by kernel_rfl) ?_ ?_
          rotate_left
          · (intro wS hSw K hK; obtain ⟨c0, c1, c2, -, -⟩ := B0.out.later (After.trans (After.drew (After.refl _)) hSw); obtain ⟨l0, l1, l2⟩ := CL.out _ (own_below L0'.out (After.trans (After.drew (After.refl _)) hSw)); go_simp; go_at_call 67; refine (KL.out _ _ _ (ints_own (own_below X0.out (After.trans (After.drew (After.refl _)) hSw)) HN.out)).mono ?_; rintro e wc ⟨rfl, hbc⟩; exact hK.out _ hbc)
          try simp only [Act.put, List.getElem_toArray, List.getElem_cons_succ, List.getElem_cons_zero, List.setIfInBounds_toArray, List.set_cons_zero, List.set_cons_succ]
          refine Script.load (i := 7) (v := ?_) rfl (by kernel_rfl) (by kernel_rfl) (fun _ _ _ h => h) (by kernel_rfl) ?_ ?_
          rotate_left
          · (intro wS hSw; obtain ⟨c0, c1, c2, -, -⟩ := B0.out.later (After.trans (After.drew (After.refl _)) hSw); obtain ⟨l0, l1, l2⟩ := CL.out _ (own_below L0'.out (After.trans (After.drew (After.refl _)) hSw)); go_simp; try with_reducible rfl)
          try simp only [Act.put, List.getElem_toArray, List.getElem_cons_succ, List.getElem_cons_zero, List.setIfInBounds_toArray, List.set_cons_zero, List.set_cons_succ]
          refine Script.done (by kernel_rfl) ?_
          intro wD hD hG
          have hb7 := After.trans (After.drew (After.refl wr)) hD
          have B1 := Lib.hid (B0.out.later hb7)
          have X1 := Lib.hid (own_below X0.out hb7)
          have R1 := Lib.hid (row_later R0.out hb7 (row_lt R0.out))
          have L1 := Lib.hid (own_below L0'.out hb7)
          clear hb7 hD hG B0 X0 R0 L0' KL
          obtain ⟨l0, l1, l2⟩ := CL.out _ L1.out
          obtain ⟨e0, e1, e2⟩ := CX.out _ X1.out
          have hge0 : ¬ x + yy - u < 0 := by have := hge trivial; omega
          go_wp2_with fail
          go_quiet (fail)
          have B2 := Lib.hid (B1.out.later (below_drewN nq (Below.refl _ _)))
          have X2 : Hid ((wD.drewN nq).ownsRow w.heap.size 3 1 (.slice (some ⟨g, 0, none⟩) N gc) N (iv xs)) := X1.out
          have R2 : Hid ((wD.drewN nq).heap[Q]? = some (.cells #[.int .i64 0, .int .i64 0, .int .i64 0] 31 (0, 0))) := R1.out
          have L2 : Hid ((wD.drewN nq).ownsRow L0 31 3 (.slice (some ⟨gl, 0, none⟩) m lc) m (lv ls)) := L1.out
          clear B1 X1 R1 L1 l0 l1 l2 e0 e1 e2
          generalize wD.drewN nq = wE at *
          obtain ⟨l0, l1, l2⟩ := CL.out _ L2.out
          go_wp2_with fail
          go_quiet (fail)
          have B3 := Lib.hid (B2.out.later (below_drewN nq (Below.refl _ _)))
          have X3 : Hid ((wE.drewN nq).ownsRow w.heap.size 3 1 (.slice (some ⟨g, 0, none⟩) N gc) N (iv xs)) := X2.out
          have R3 : Hid ((wE.drewN nq).heap[Q]? = some (.cells #[.int .i64 0, .int .i64 0, .int .i64 0] 31 (0, 0))) := R2.out
          have L3 : Hid ((wE.drewN nq).ownsRow L0 31 3 (.slice (some ⟨gl, 0, none⟩) m lc) m (lv ls)) := L2.out
          clear B2 X2 R2 L2 l0 l1 l2
          generalize wE.drewN nq = wF at *
          go_wp2_with fail
          have hwq : IntKind.i64.wrap (qt : Int) = (qt : Int) := IntWalk.i64_in _ (by omega)
          have hws : IntKind.i64.wrap (x + yy - u) = x + yy - u := IntWalk.i64_in _ (by omega)
          refine wp_region_script (by kernel_rfl) (by kernel_rfl) ?_
          refine Script.load (i := 0) (v := ?_) rfl (by kernel_rfl) (by kernel_rfl) (fun _ _ _ h => h) (by kernel_rfl) ?_ ?_
          rotate_left
          · (intro wS hSw; obtain ⟨c0, c1, c2, -, -⟩ := B3.out.later (After.trans (After.drew (After.refl _)) hSw); obtain ⟨l0, l1, l2⟩ := CL.out _ (own_below L3.out (After.trans (After.drew (After.refl _)) hSw)); go_simp; try with_reducible rfl)
          try simp only [Act.put, List.getElem_toArray, List.getElem_cons_succ, List.getElem_cons_zero, List.setIfInBounds_toArray, List.set_cons_zero, List.set_cons_succ]
          refine Script.load (i := 1) (v := ?_) rfl (by kernel_rfl) (by kernel_rfl) (fun _ _ _ h => h) (by kernel_rfl) ?_ ?_
          rotate_left
          · (intro wS hSw; obtain ⟨c0, c1, c2, -, -⟩ := B3.out.later (After.trans (After.drew (After.refl _)) hSw); obtain ⟨l0, l1, l2⟩ := CL.out _ (own_below L3.out (After.trans (After.drew (After.refl _)) hSw)); go_simp; try with_reducible rfl)
          try simp only [Act.put, List.getElem_toArray, List.getElem_cons_succ, List.getElem_cons_zero, List.setIfInBounds_toArray, List.set_cons_zero, List.set_cons_succ]
          refine Script.load (i := 2) (v := ?_) rfl (by kernel_rfl) (by kernel_rfl) (fun _ _ _ h => h) (by kernel_rfl) ?_ ?_
          rotate_left
          · (intro wS hSw; obtain ⟨c0, c1, c2, -, -⟩ := B3.out.later (After.trans (After.drew (After.refl _)) hSw); obtain ⟨l0, l1, l2⟩ := CL.out _ (own_below L3.out (After.trans (After.drew (After.refl _)) hSw)); go_simp; try with_reducible rfl)
          try simp only [Act.put, List.getElem_toArray, List.getElem_cons_succ, List.getElem_cons_zero, List.setIfInBounds_toArray, List.set_cons_zero, List.set_cons_succ]
          refine Script.call (i := 3) (v := ?_) rfl (by kernel_rfl) (by kernel_rfl) (fun _ _ _ h => h) (by kernel_rfl) ?_ ?_
          rotate_left
          · (intro wS hSw K hK; obtain ⟨c0, c1, c2, -, -⟩ := B3.out.later (After.trans (After.drew (After.refl _)) hSw); obtain ⟨l0, l1, l2⟩ := CL.out _ (own_below L3.out (After.trans (After.drew (After.refl _)) hSw)); go_simp; go_at_call 68; refine (KM.out _ _ _ (ints_own (own_below X3.out (After.trans (After.drew (After.refl _)) hSw)) HN.out)).mono ?_; rintro e wc ⟨rfl, hbc⟩; exact hK.out _ hbc)
          try simp only [Act.put, List.getElem_toArray, List.getElem_cons_succ, List.getElem_cons_zero, List.setIfInBounds_toArray, List.set_cons_zero, List.set_cons_succ]
          refine Script.load (i := 4) (v := ?_) rfl (by kernel_rfl) (by kernel_rfl) (fun _ _ _ h => h) (by kernel_rfl) ?_ ?_
          rotate_left
          · (intro wS hSw; obtain ⟨c0, c1, c2, -, -⟩ := B3.out.later (After.trans (After.drew (After.refl _)) hSw); obtain ⟨l0, l1, l2⟩ := CL.out _ (own_below L3.out (After.trans (After.drew (After.refl _)) hSw)); go_simp; try with_reducible rfl)
          try simp only [Act.put, List.getElem_toArray, List.getElem_cons_succ, List.getElem_cons_zero, List.setIfInBounds_toArray, List.set_cons_zero, List.set_cons_succ]
          refine Script.load (i := 5) (v := ?_) rfl (by kernel_rfl) (by kernel_rfl) (fun _ _ _ h => h) (by kernel_rfl) ?_ ?_
          rotate_left
          · (intro wS hSw; obtain ⟨c0, c1, c2, -, -⟩ := B3.out.later (After.trans (After.drew (After.refl _)) hSw); obtain ⟨l0, l1, l2⟩ := CL.out _ (own_below L3.out (After.trans (After.drew (After.refl _)) hSw)); go_simp; try with_reducible rfl)
          try simp only [Act.put, List.getElem_toArray, List.getElem_cons_succ, List.getElem_cons_zero, List.setIfInBounds_toArray, List.set_cons_zero, List.set_cons_succ]
          refine Script.load (i := 6) (v := ?_) rfl (by kernel_rfl) (by kernel_rfl) (fun _ _ _ h => h) (by kernel_rfl) ?_ ?_
          rotate_left
          · (intro wS hSw; obtain ⟨c0, c1, c2, -, -⟩ := B3.out.later (After.trans (After.drew (After.refl _)) hSw); obtain ⟨l0, l1, l2⟩ := CL.out _ (own_below L3.out (After.trans (After.drew (After.refl _)) hSw)); go_simp; try with_reducible rfl)
          try simp only [Act.put, List.getElem_toArray, List.getElem_cons_succ, List.getElem_cons_zero, List.setIfInBounds_toArray, List.set_cons_zero, List.set_cons_succ]
          refine Script.load (i := 7) (v := ?_) rfl (by kernel_rfl) (by kernel_rfl) (fun _ _ _ h => h) (by kernel_rfl) ?_ ?_
          rotate_left
          · (intro wS hSw; obtain ⟨c0, c1, c2, -, -⟩ := B3.out.later (After.trans (After.drew (After.refl _)) hSw); obtain ⟨l0, l1, l2⟩ := CL.out _ (own_below L3.out (After.trans (After.drew (After.refl _)) hSw)); go_simp; try with_reducible rfl)
          try simp only [Act.put, List.getElem_toArray, List.getElem_cons_succ, List.getElem_cons_zero, List.setIfInBounds_toArray, List.set_cons_zero, List.set_cons_succ]
          refine Script.load (i := 8) (v := ?_) rfl (by kernel_rfl) (by kernel_rfl) (fun _ _ _ h => h) (by kernel_rfl) ?_ ?_
          rotate_left
          · (intro wS hSw; obtain ⟨c0, c1, c2, -, -⟩ := B3.out.later (After.trans (After.drew (After.refl _)) hSw); obtain ⟨l0, l1, l2⟩ := CL.out _ (own_below L3.out (After.trans (After.drew (After.refl _)) hSw)); go_simp; try with_reducible rfl)
          try simp only [Act.put, List.getElem_toArray, List.getElem_cons_succ, List.getElem_cons_zero, List.setIfInBounds_toArray, List.set_cons_zero, List.set_cons_succ]
          refine Script.load (i := 9) (v := ?_) rfl (by kernel_rfl) (by kernel_rfl) (fun _ _ _ h => h) (by kernel_rfl) ?_ ?_
          rotate_left
          · (intro wS hSw; obtain ⟨c0, c1, c2, -, -⟩ := B3.out.later (After.trans (After.drew (After.refl _)) hSw); obtain ⟨l0, l1, l2⟩ := CL.out _ (own_below L3.out (After.trans (After.drew (After.refl _)) hSw)); go_simp; try with_reducible rfl)
          try simp only [Act.put, List.getElem_toArray, List.getElem_cons_succ, List.getElem_cons_zero, List.setIfInBounds_toArray, List.set_cons_zero, List.set_cons_succ]
          refine Script.load (i := 10) (v := ?_) rfl (by kernel_rfl) (by kernel_rfl) (fun _ _ _ h => h) (by kernel_rfl) ?_ ?_
          rotate_left
          · (intro wS hSw; obtain ⟨c0, c1, c2, -, -⟩ := B3.out.later (After.trans (After.drew (After.refl _)) hSw); obtain ⟨l0, l1, l2⟩ := CL.out _ (own_below L3.out (After.trans (After.drew (After.refl _)) hSw)); go_simp; try with_reducible rfl)
          try simp only [Act.put, List.getElem_toArray, List.getElem_cons_succ, List.getElem_cons_zero, List.setIfInBounds_toArray, List.set_cons_zero, List.set_cons_succ]
          refine Script.load (i := 11) (v := ?_) rfl (by kernel_rfl) (by kernel_rfl) (fun _ _ _ h => h) (by kernel_rfl) ?_ ?_
          rotate_left
          · (intro wS hSw; obtain ⟨c0, c1, c2, -, -⟩ := B3.out.later (After.trans (After.drew (After.refl _)) hSw); obtain ⟨l0, l1, l2⟩ := CL.out _ (own_below L3.out (After.trans (After.drew (After.refl _)) hSw)); go_simp; try with_reducible rfl)
          try simp only [Act.put, List.getElem_toArray, List.getElem_cons_succ, List.getElem_cons_zero, List.setIfInBounds_toArray, List.set_cons_zero, List.set_cons_succ]
          refine Script.call (i := 12) (v := ?_) rfl (by kernel_rfl) (by kernel_rfl) (fun _ _ _ h => h) (by kernel_rfl) ?_ ?_
          rotate_left
          · (intro wS hSw K hK; obtain ⟨c0, c1, c2, -, -⟩ := B3.out.later (After.trans (After.drew (After.refl _)) hSw); obtain ⟨l0, l1, l2⟩ := CL.out _ (own_below L3.out (After.trans (After.drew (After.refl _)) hSw)); go_simp; go_at_call 68; refine (KT.out _ _ _ (ints_own (own_below X3.out (After.trans (After.drew (After.refl _)) hSw)) HN.out)).mono ?_; rintro e wc ⟨rfl, hbc⟩; exact hK.out _ hbc)
          try simp only [Act.put, List.getElem_toArray, List.getElem_cons_succ, List.getElem_cons_zero, List.setIfInBounds_toArray, List.set_cons_zero, List.set_cons_succ]
          refine Script.load (i := 13) (v := ?_) rfl (by kernel_rfl) (by kernel_rfl) (fun _ _ _ h => h) (by kernel_rfl) ?_ ?_
          rotate_left
          · (intro wS hSw; obtain ⟨c0, c1, c2, -, -⟩ := B3.out.later (After.trans (After.drew (After.refl _)) hSw); obtain ⟨l0, l1, l2⟩ := CL.out _ (own_below L3.out (After.trans (After.drew (After.refl _)) hSw)); go_simp; try with_reducible rfl)
          try simp only [Act.put, List.getElem_toArray, List.getElem_cons_succ, List.getElem_cons_zero, List.setIfInBounds_toArray, List.set_cons_zero, List.set_cons_succ]
          refine Script.load (i := 14) (v := ?_) rfl (by kernel_rfl) (by kernel_rfl) (fun _ _ _ h => h) (by kernel_rfl) ?_ ?_
          rotate_left
          · (intro wS hSw; obtain ⟨c0, c1, c2, -, -⟩ := B3.out.later (After.trans (After.drew (After.refl _)) hSw); obtain ⟨l0, l1, l2⟩ := CL.out _ (own_below L3.out (After.trans (After.drew (After.refl _)) hSw)); go_simp; try with_reducible rfl)
          try simp only [Act.put, List.getElem_toArray, List.getElem_cons_succ, List.getElem_cons_zero, List.setIfInBounds_toArray, List.set_cons_zero, List.set_cons_succ]
          refine Script.load (i := 15) (v := ?_) rfl (by kernel_rfl) (by kernel_rfl) (fun _ _ _ h => h) (by kernel_rfl) ?_ ?_
          rotate_left
          · (intro wS hSw; obtain ⟨c0, c1, c2, -, -⟩ := B3.out.later (After.trans (After.drew (After.refl _)) hSw); obtain ⟨l0, l1, l2⟩ := CL.out _ (own_below L3.out (After.trans (After.drew (After.refl _)) hSw)); go_simp; try with_reducible rfl)
          try simp only [Act.put, List.getElem_toArray, List.getElem_cons_succ, List.getElem_cons_zero, List.setIfInBounds_toArray, List.set_cons_zero, List.set_cons_succ]
          refine Script.done (by kernel_rfl) ?_
          intro wD hD hG
          have hb7 := After.trans (After.drew (After.refl wF)) hD
          have B4 := Lib.hid (B3.out.later hb7)
          have X4 := Lib.hid (own_below X3.out hb7)
          have R4 := Lib.hid (row_later R3.out hb7 (row_lt R3.out))
          have L4 := Lib.hid (own_below L3.out hb7)
          clear hb7 hD hG B3 X3 R3 L3 KM KT CL CX
          go_wp2_with fail
          go_roundw
          case rel => exact ⟨j + 1, by omega, by go_num, B4, X4, R4, L4⟩
          case measure => simp [intOf]; omega
        · obtain rfl : j = m := by omega
          have j1 : ¬ (j : Int) < (j : Int) := by omega
          go_wp2_with fail
          go_meet
          exact ⟨B0, X0, R0⟩
    case rest =>
      clear B6 X6 R6 L6 P6
      obtain ⟨B6, X6, R6⟩ := hcut
      obtain ⟨c0, c1, c2, hlt, hbw⟩ := B6.out
      go_wp2_with fail
      refine (K6.out _ _ _ (ints_own X6.out HN.out)).mono ?_
      rintro e w7 ⟨vv, rfl, hh, hb⟩
      have B7 := Lib.hid (B6.out.later hb)
      have X7 := Lib.hid (own_below X6.out hb)
      have R7 := Lib.hid (row_later R6.out hb (row_lt R6.out))
      have V7 := Lib.hid hh
      clear hb hh B6 X6 R6 c0 c1 c2 hlt hbw K6
      cases y
      · clear K8 K9 V7 HAD HAK HSZ
        go_wp2_with fail
        refine wp_region_script (by kernel_rfl) (by kernel_rfl) ?_
        refine Script.load (i := 0) (v := ?_) rfl (by kernel_rfl) (by kernel_rfl) (fun _ _ _ h => h) (by kernel_rfl) ?_ ?_
        rotate_left
        · (intro wS hSw; obtain ⟨c0, c1, c2, -, -⟩ := B7.out.later (After.trans (After.drew (After.refl _)) hSw); obtain ⟨r0, r1, r2, -, -, -⟩ := row_facts (row_later R7.out (After.trans (After.drew (After.refl _)) hSw) (row_lt R7.out)); go_simp; try with_reducible rfl)
        try simp only [Act.put, List.getElem_toArray, List.getElem_cons_succ, List.getElem_cons_zero, List.setIfInBounds_toArray, List.set_cons_zero, List.set_cons_succ]
        refine Script.load (i := 1) (v := ?_) rfl (by kernel_rfl) (by kernel_rfl) (fun _ _ _ h => h) (by kernel_rfl) ?_ ?_
        rotate_left
        · (intro wS hSw; obtain ⟨c0, c1, c2, -, -⟩ := B7.out.later (After.trans (After.drew (After.refl _)) hSw); obtain ⟨r0, r1, r2, -, -, -⟩ := row_facts (row_later R7.out (After.trans (After.drew (After.refl _)) hSw) (row_lt R7.out)); go_simp; try with_reducible rfl)
        try simp only [Act.put, List.getElem_toArray, List.getElem_cons_succ, List.getElem_cons_zero, List.setIfInBounds_toArray, List.set_cons_zero, List.set_cons_succ]
        refine Script.call (i := 2) (v := ?_) rfl (by kernel_rfl) (by kernel_rfl) (fun _ _ _ h => h) (by kernel_rfl) ?_ ?_
        rotate_left
        · (intro wS hSw K hK; obtain ⟨c0, c1, c2, -, -⟩ := B7.out.later (After.trans (After.drew (After.refl _)) hSw); obtain ⟨r0, r1, r2, -, -, -⟩ := row_facts (row_later R7.out (After.trans (After.drew (After.refl _)) hSw) (row_lt R7.out)); go_simp; go_at_call 70; refine (K7.out _ _ _ (ints_own (own_below X7.out (After.trans (After.drew (After.refl _)) hSw)) HN.out)).mono ?_; rintro e wc ⟨rfl, hbc⟩; exact hK.out _ hbc)
        try simp only [Act.put, List.getElem_toArray, List.getElem_cons_succ, List.getElem_cons_zero, List.setIfInBounds_toArray, List.set_cons_zero, List.set_cons_succ]
        refine Script.load (i := 3) (v := ?_) rfl (by kernel_rfl) (by kernel_rfl) (fun _ _ _ h => h) (by kernel_rfl) ?_ ?_
        rotate_left
        · (intro wS hSw; obtain ⟨c0, c1, c2, -, -⟩ := B7.out.later (After.trans (After.drew (After.refl _)) hSw); obtain ⟨r0, r1, r2, -, -, -⟩ := row_facts (row_later R7.out (After.trans (After.drew (After.refl _)) hSw) (row_lt R7.out)); go_simp; try with_reducible rfl)
        try simp only [Act.put, List.getElem_toArray, List.getElem_cons_succ, List.getElem_cons_zero, List.setIfInBounds_toArray, List.set_cons_zero, List.set_cons_succ]
        refine Script.load (i := 4) (v := ?_) rfl (by kernel_rfl) (by kernel_rfl) (fun _ _ _ h => h) (by kernel_rfl) ?_ ?_
        rotate_left
        · (intro wS hSw; obtain ⟨c0, c1, c2, -, -⟩ := B7.out.later (After.trans (After.drew (After.refl _)) hSw); obtain ⟨r0, r1, r2, -, -, -⟩ := row_facts (row_later R7.out (After.trans (After.drew (After.refl _)) hSw) (row_lt R7.out)); go_simp; try with_reducible rfl)
        try simp only [Act.put, List.getElem_toArray, List.getElem_cons_succ, List.getElem_cons_zero, List.setIfInBounds_toArray, List.set_cons_zero, List.set_cons_succ]
        refine Script.load (i := 5) (v := ?_) rfl (by kernel_rfl) (by kernel_rfl) (fun _ _ _ h => h) (by kernel_rfl) ?_ ?_
        rotate_left
        · (intro wS hSw; obtain ⟨c0, c1, c2, -, -⟩ := B7.out.later (After.trans (After.drew (After.refl _)) hSw); obtain ⟨r0, r1, r2, -, -, -⟩ := row_facts (row_later R7.out (After.trans (After.drew (After.refl _)) hSw) (row_lt R7.out)); go_simp; try with_reducible rfl)
        try simp only [Act.put, List.getElem_toArray, List.getElem_cons_succ, List.getElem_cons_zero, List.setIfInBounds_toArray, List.set_cons_zero, List.set_cons_succ]
        refine Script.load (i := 6) (v := ?_) rfl (by kernel_rfl) (by kernel_rfl) (fun _ _ _ h => h) (by kernel_rfl) ?_ ?_
        rotate_left
        · (intro wS hSw; obtain ⟨c0, c1, c2, -, -⟩ := B7.out.later (After.trans (After.drew (After.refl _)) hSw); obtain ⟨r0, r1, r2, -, -, -⟩ := row_facts (row_later R7.out (After.trans (After.drew (After.refl _)) hSw) (row_lt R7.out)); go_simp; try with_reducible rfl)
        try simp only [Act.put, List.getElem_toArray, List.getElem_cons_succ, List.getElem_cons_zero, List.setIfInBounds_toArray, List.set_cons_zero, List.set_cons_succ]
        refine Script.load (i := 7) (v := ?_) rfl (by kernel_rfl) (by kernel_rfl) (fun _ _ _ h => h) (by kernel_rfl) ?_ ?_
        rotate_left
        · (intro wS hSw; obtain ⟨c0, c1, c2, -, -⟩ := B7.out.later (After.trans (After.drew (After.refl _)) hSw); obtain ⟨r0, r1, r2, -, -, -⟩ := row_facts (row_later R7.out (After.trans (After.drew (After.refl _)) hSw) (row_lt R7.out)); go_simp; try with_reducible rfl)
        try simp only [Act.put, List.getElem_toArray, List.getElem_cons_succ, List.getElem_cons_zero, List.setIfInBounds_toArray, List.set_cons_zero, List.set_cons_succ]
        refine Script.load (i := 8) (v := ?_) rfl (by kernel_rfl) (by kernel_rfl) (fun _ _ _ h => h) (by kernel_rfl) ?_ ?_
        rotate_left
        · (intro wS hSw; obtain ⟨c0, c1, c2, -, -⟩ := B7.out.later (After.trans (After.drew (After.refl _)) hSw); obtain ⟨r0, r1, r2, -, -, -⟩ := row_facts (row_later R7.out (After.trans (After.drew (After.refl _)) hSw) (row_lt R7.out)); go_simp; try with_reducible rfl)
        try simp only [Act.put, List.getElem_toArray, List.getElem_cons_succ, List.getElem_cons_zero, List.setIfInBounds_toArray, List.set_cons_zero, List.set_cons_succ]
        refine Script.load (i := 9) (v := ?_) rfl (by kernel_rfl) (by kernel_rfl) (fun _ _ _ h => h) (by kernel_rfl) ?_ ?_
        rotate_left
        · (intro wS hSw; obtain ⟨c0, c1, c2, -, -⟩ := B7.out.later (After.trans (After.drew (After.refl _)) hSw); obtain ⟨r0, r1, r2, -, -, -⟩ := row_facts (row_later R7.out (After.trans (After.drew (After.refl _)) hSw) (row_lt R7.out)); go_simp; try with_reducible rfl)
        try simp only [Act.put, List.getElem_toArray, List.getElem_cons_succ, List.getElem_cons_zero, List.setIfInBounds_toArray, List.set_cons_zero, List.set_cons_succ]
        refine Script.load (i := 10) (v := ?_) rfl (by kernel_rfl) (by kernel_rfl) (fun _ _ _ h => h) (by kernel_rfl) ?_ ?_
        rotate_left
        · (intro wS hSw; obtain ⟨c0, c1, c2, -, -⟩ := B7.out.later (After.trans (After.drew (After.refl _)) hSw); obtain ⟨r0, r1, r2, -, -, -⟩ := row_facts (row_later R7.out (After.trans (After.drew (After.refl _)) hSw) (row_lt R7.out)); go_simp; try with_reducible rfl)
        try simp only [Act.put, List.getElem_toArray, List.getElem_cons_succ, List.getElem_cons_zero, List.setIfInBounds_toArray, List.set_cons_zero, List.set_cons_succ]
        refine Script.load (i := 11) (v := ?_) rfl (by kernel_rfl) (by kernel_rfl) (fun _ _ _ h => h) (by kernel_rfl) ?_ ?_
        rotate_left
        · (intro wS hSw; obtain ⟨c0, c1, c2, -, -⟩ := B7.out.later (After.trans (After.drew (After.refl _)) hSw); obtain ⟨r0, r1, r2, -, -, -⟩ := row_facts (row_later R7.out (After.trans (After.drew (After.refl _)) hSw) (row_lt R7.out)); go_simp; try with_reducible rfl)
        try simp only [Act.put, List.getElem_toArray, List.getElem_cons_succ, List.getElem_cons_zero, List.setIfInBounds_toArray, List.set_cons_zero, List.set_cons_succ]
        refine Script.skip (i := 12) rfl (by kernel_rfl) (by kernel_rfl) (fun _ _ _ h => h) (by kernel_rfl) ?_
        try simp only [Act.put, List.getElem_toArray, List.getElem_cons_succ, List.getElem_cons_zero, List.setIfInBounds_toArray, List.set_cons_zero, List.set_cons_succ]
        refine Script.skip (i := 13) rfl (by kernel_rfl) (by kernel_rfl) (fun _ _ _ h => h) (by kernel_rfl) ?_
        try simp only [Act.put, List.getElem_toArray, List.getElem_cons_succ, List.getElem_cons_zero, List.setIfInBounds_toArray, List.set_cons_zero, List.set_cons_succ]
        refine Script.skip (i := 14) rfl (by kernel_rfl) (by kernel_rfl) (fun _ _ _ h => h) (by kernel_rfl) ?_
        try simp only [Act.put, List.getElem_toArray, List.getElem_cons_succ, List.getElem_cons_zero, List.setIfInBounds_toArray, List.set_cons_zero, List.set_cons_succ]
        refine Script.skip (i := 15) rfl (by kernel_rfl) (by kernel_rfl) (fun _ _ _ h => h) (by kernel_rfl) ?_
        try simp only [Act.put, List.getElem_toArray, List.getElem_cons_succ, List.getElem_cons_zero, List.setIfInBounds_toArray, List.set_cons_zero, List.set_cons_succ]
        refine Script.skip (i := 16) rfl (by kernel_rfl) (by kernel_rfl) (fun _ _ _ h => h) (by kernel_rfl) ?_
        try simp only [Act.put, List.getElem_toArray, List.getElem_cons_succ, List.getElem_cons_zero, List.setIfInBounds_toArray, List.set_cons_zero, List.set_cons_succ]
        refine Script.load (i := 17) (v := ?_) rfl (by kernel_rfl) (by kernel_rfl) (fun _ _ _ h => h) (by kernel_rfl) ?_ ?_
        rotate_left
        · (intro wS hSw; obtain ⟨c0, c1, c2, -, -⟩ := B7.out.later (After.trans (After.drew (After.refl _)) hSw); obtain ⟨r0, r1, r2, -, -, -⟩ := row_facts (row_later R7.out (After.trans (After.drew (After.refl _)) hSw) (row_lt R7.out)); go_simp; try with_reducible rfl)
        try simp only [Act.put, List.getElem_toArray, List.getElem_cons_succ, List.getElem_cons_zero, List.setIfInBounds_toArray, List.set_cons_zero, List.set_cons_succ]
        refine Script.load (i := 18) (v := ?_) rfl (by kernel_rfl) (by kernel_rfl) (fun _ _ _ h => h) (by kernel_rfl) ?_ ?_
        rotate_left
        · (intro wS hSw; obtain ⟨c0, c1, c2, -, -⟩ := B7.out.later (After.trans (After.drew (After.refl _)) hSw); obtain ⟨r0, r1, r2, -, -, -⟩ := row_facts (row_later R7.out (After.trans (After.drew (After.refl _)) hSw) (row_lt R7.out)); go_simp; try with_reducible rfl)
        try simp only [Act.put, List.getElem_toArray, List.getElem_cons_succ, List.getElem_cons_zero, List.setIfInBounds_toArray, List.set_cons_zero, List.set_cons_succ]
        refine Script.load (i := 19) (v := ?_) rfl (by kernel_rfl) (by kernel_rfl) (fun _ _ _ h => h) (by kernel_rfl) ?_ ?_
        rotate_left
        · (intro wS hSw; obtain ⟨c0, c1, c2, -, -⟩ := B7.out.later (After.trans (After.drew (After.refl _)) hSw); obtain ⟨r0, r1, r2, -, -, -⟩ := row_facts (row_later R7.out (After.trans (After.drew (After.refl _)) hSw) (row_lt R7.out)); go_simp; try with_reducible rfl)
        try simp only [Act.put, List.getElem_toArray, List.getElem_cons_succ, List.getElem_cons_zero, List.setIfInBounds_toArray, List.set_cons_zero, List.set_cons_succ]
        refine Script.load (i := 20) (v := ?_) rfl (by kernel_rfl) (by kernel_rfl) (fun _ _ _ h => h) (by kernel_rfl) ?_ ?_
        rotate_left
        · (intro wS hSw; obtain ⟨c0, c1, c2, -, -⟩ := B7.out.later (After.trans (After.drew (After.refl _)) hSw); obtain ⟨r0, r1, r2, -, -, -⟩ := row_facts (row_later R7.out (After.trans (After.drew (After.refl _)) hSw) (row_lt R7.out)); go_simp; try with_reducible rfl)
        try simp only [Act.put, List.getElem_toArray, List.getElem_cons_succ, List.getElem_cons_zero, List.setIfInBounds_toArray, List.set_cons_zero, List.set_cons_succ]
        refine Script.load (i := 21) (v := ?_) rfl (by kernel_rfl) (by kernel_rfl) (fun _ _ _ h => h) (by kernel_rfl) ?_ ?_
        rotate_left
        · (intro wS hSw; obtain ⟨c0, c1, c2, -, -⟩ := B7.out.later (After.trans (After.drew (After.refl _)) hSw); obtain ⟨r0, r1, r2, -, -, -⟩ := row_facts (row_later R7.out (After.trans (After.drew (After.refl _)) hSw) (row_lt R7.out)); go_simp; try with_reducible rfl)
        try simp only [Act.put, List.getElem_toArray, List.getElem_cons_succ, List.getElem_cons_zero, List.setIfInBounds_toArray, List.set_cons_zero, List.set_cons_succ]
        refine Script.load (i := 22) (v := ?_) rfl (by kernel_rfl) (by kernel_rfl) (fun _ _ _ h => h) (by kernel_rfl) ?_ ?_
        rotate_left
        · (intro wS hSw; obtain ⟨c0, c1, c2, -, -⟩ := B7.out.later (After.trans (After.drew (After.refl _)) hSw); obtain ⟨r0, r1, r2, -, -, -⟩ := row_facts (row_later R7.out (After.trans (After.drew (After.refl _)) hSw) (row_lt R7.out)); go_simp; try with_reducible rfl)
        try simp only [Act.put, List.getElem_toArray, List.getElem_cons_succ, List.getElem_cons_zero, List.setIfInBounds_toArray, List.set_cons_zero, List.set_cons_succ]
        refine Script.skip (i := 23) rfl (by kernel_rfl) (by kernel_rfl) (fun _ _ _ h => h) (by kernel_rfl) ?_
        try simp only [Act.put, List.getElem_toArray, List.getElem_cons_succ, List.getElem_cons_zero, List.setIfInBounds_toArray, List.set_cons_zero, List.set_cons_succ]
        refine Script.skip (i := 24) rfl (by kernel_rfl) (by kernel_rfl) (fun _ _ _ h => h) (by kernel_rfl) ?_
        try simp only [Act.put, List.getElem_toArray, List.getElem_cons_succ, List.getElem_cons_zero, List.setIfInBounds_toArray, List.set_cons_zero, List.set_cons_succ]
        refine Script.skip (i := 25) rfl (by kernel_rfl) (by kernel_rfl) (fun _ _ _ h => h) (by kernel_rfl) ?_
        try simp only [Act.put, List.getElem_toArray, List.getElem_cons_succ, List.getElem_cons_zero, List.setIfInBounds_toArray, List.set_cons_zero, List.set_cons_succ]
        refine Script.skip (i := 26) rfl (by kernel_rfl) (by kernel_rfl) (fun _ _ _ h => h) (by kernel_rfl) ?_
        try simp only [Act.put, List.getElem_toArray, List.getElem_cons_succ, List.getElem_cons_zero, List.setIfInBounds_toArray, List.set_cons_zero, List.set_cons_succ]
        refine Script.skip (i := 27) rfl (by kernel_rfl) (by kernel_rfl) (fun _ _ _ h => h) (by kernel_rfl) ?_
        try simp only [Act.put, List.getElem_toArray, List.getElem_cons_succ, List.getElem_cons_zero, List.setIfInBounds_toArray, List.set_cons_zero, List.set_cons_succ]
        refine Script.skip (i := 28) rfl (by kernel_rfl) (by kernel_rfl) (fun _ _ _ h => h) (by kernel_rfl) ?_
        try simp only [Act.put, List.getElem_toArray, List.getElem_cons_succ, List.getElem_cons_zero, List.setIfInBounds_toArray, List.set_cons_zero, List.set_cons_succ]
        refine Script.skip (i := 29) rfl (by kernel_rfl) (by kernel_rfl) (fun _ _ _ h => h) (by kernel_rfl) ?_
        try simp only [Act.put, List.getElem_toArray, List.getElem_cons_succ, List.getElem_cons_zero, List.setIfInBounds_toArray, List.set_cons_zero, List.set_cons_succ]
        refine Script.skip (i := 30) rfl (by kernel_rfl) (by kernel_rfl) (fun _ _ _ h => h) (by kernel_rfl) ?_
        try simp only [Act.put, List.getElem_toArray, List.getElem_cons_succ, List.getElem_cons_zero, List.setIfInBounds_toArray, List.set_cons_zero, List.set_cons_succ]
        refine Script.skip (i := 31) rfl (by kernel_rfl) (by kernel_rfl) (fun _ _ _ h => h) (by kernel_rfl) ?_
        try simp only [Act.put, List.getElem_toArray, List.getElem_cons_succ, List.getElem_cons_zero, List.setIfInBounds_toArray, List.set_cons_zero, List.set_cons_succ]
        refine Script.skip (i := 32) rfl (by kernel_rfl) (by kernel_rfl) (fun _ _ _ h => h) (by kernel_rfl) ?_
        try simp only [Act.put, List.getElem_toArray, List.getElem_cons_succ, List.getElem_cons_zero, List.setIfInBounds_toArray, List.set_cons_zero, List.set_cons_succ]
        refine Script.skip (i := 33) rfl (by kernel_rfl) (by kernel_rfl) (fun _ _ _ h => h) (by kernel_rfl) ?_
        try simp only [Act.put, List.getElem_toArray, List.getElem_cons_succ, List.getElem_cons_zero, List.setIfInBounds_toArray, List.set_cons_zero, List.set_cons_succ]
        refine Script.skip (i := 34) rfl (by kernel_rfl) (by kernel_rfl) (fun _ _ _ h => h) (by kernel_rfl) ?_
        try simp only [Act.put, List.getElem_toArray, List.getElem_cons_succ, List.getElem_cons_zero, List.setIfInBounds_toArray, List.set_cons_zero, List.set_cons_succ]
        refine Script.skip (i := 35) rfl (by kernel_rfl) (by kernel_rfl) (fun _ _ _ h => h) (by kernel_rfl) ?_
        try simp only [Act.put, List.getElem_toArray, List.getElem_cons_succ, List.getElem_cons_zero, List.setIfInBounds_toArray, List.set_cons_zero, List.set_cons_succ]
        refine Script.skip (i := 36) rfl (by kernel_rfl) (by kernel_rfl) (fun _ _ _ h => h) (by kernel_rfl) ?_
        try simp only [Act.put, List.getElem_toArray, List.getElem_cons_succ, List.getElem_cons_zero, List.setIfInBounds_toArray, List.set_cons_zero, List.set_cons_succ]
        refine Script.skip (i := 37) rfl (by kernel_rfl) (by kernel_rfl) (fun _ _ _ h => h) (by kernel_rfl) ?_
        try simp only [Act.put, List.getElem_toArray, List.getElem_cons_succ, List.getElem_cons_zero, List.setIfInBounds_toArray, List.set_cons_zero, List.set_cons_succ]
        refine Script.skip (i := 38) rfl (by kernel_rfl) (by kernel_rfl) (fun _ _ _ h => h) (by kernel_rfl) ?_
        try simp only [Act.put, List.getElem_toArray, List.getElem_cons_succ, List.getElem_cons_zero, List.setIfInBounds_toArray, List.set_cons_zero, List.set_cons_succ]
        refine Script.skip (i := 39) rfl (by kernel_rfl) (by kernel_rfl) (fun _ _ _ h => h) (by kernel_rfl) ?_
        try simp only [Act.put, List.getElem_toArray, List.getElem_cons_succ, List.getElem_cons_zero, List.setIfInBounds_toArray, List.set_cons_zero, List.set_cons_succ]
        refine Script.skip (i := 40) rfl (by kernel_rfl) (by kernel_rfl) (fun _ _ _ h => h) (by kernel_rfl) ?_
        try simp only [Act.put, List.getElem_toArray, List.getElem_cons_succ, List.getElem_cons_zero, List.setIfInBounds_toArray, List.set_cons_zero, List.set_cons_succ]
        refine Script.skip (i := 41) rfl (by kernel_rfl) (by kernel_rfl) (fun _ _ _ h => h) (by kernel_rfl) ?_
        try simp only [Act.put, List.getElem_toArray, List.getElem_cons_succ, List.getElem_cons_zero, List.setIfInBounds_toArray, List.set_cons_zero, List.set_cons_succ]
        refine Script.load (i := 42) (v := ?_) rfl (by kernel_rfl) (by kernel_rfl) (fun _ _ _ h => h) (by kernel_rfl) ?_ ?_
        rotate_left
        · (intro wS hSw; obtain ⟨c0, c1, c2, -, -⟩ := B7.out.later (After.trans (After.drew (After.refl _)) hSw); obtain ⟨r0, r1, r2, -, -, -⟩ := row_facts (row_later R7.out (After.trans (After.drew (After.refl _)) hSw) (row_lt R7.out)); go_simp; try with_reducible rfl)
        try simp only [Act.put, List.getElem_toArray, List.getElem_cons_succ, List.getElem_cons_zero, List.setIfInBounds_toArray, List.set_cons_zero, List.set_cons_succ]
        refine Script.load (i := 43) (v := ?_) rfl (by kernel_rfl) (by kernel_rfl) (fun _ _ _ h => h) (by kernel_rfl) ?_ ?_
        rotate_left
        · (intro wS hSw; obtain ⟨c0, c1, c2, -, -⟩ := B7.out.later (After.trans (After.drew (After.refl _)) hSw); obtain ⟨r0, r1, r2, -, -, -⟩ := row_facts (row_later R7.out (After.trans (After.drew (After.refl _)) hSw) (row_lt R7.out)); go_simp; try with_reducible rfl)
        try simp only [Act.put, List.getElem_toArray, List.getElem_cons_succ, List.getElem_cons_zero, List.setIfInBounds_toArray, List.set_cons_zero, List.set_cons_succ]
        refine Script.load (i := 44) (v := ?_) rfl (by kernel_rfl) (by kernel_rfl) (fun _ _ _ h => h) (by kernel_rfl) ?_ ?_
        rotate_left
        · (intro wS hSw; obtain ⟨c0, c1, c2, -, -⟩ := B7.out.later (After.trans (After.drew (After.refl _)) hSw); obtain ⟨r0, r1, r2, -, -, -⟩ := row_facts (row_later R7.out (After.trans (After.drew (After.refl _)) hSw) (row_lt R7.out)); go_simp; try with_reducible rfl)
        try simp only [Act.put, List.getElem_toArray, List.getElem_cons_succ, List.getElem_cons_zero, List.setIfInBounds_toArray, List.set_cons_zero, List.set_cons_succ]
        refine Script.load (i := 45) (v := ?_) rfl (by kernel_rfl) (by kernel_rfl) (fun _ _ _ h => h) (by kernel_rfl) ?_ ?_
        rotate_left
        · (intro wS hSw; obtain ⟨c0, c1, c2, -, -⟩ := B7.out.later (After.trans (After.drew (After.refl _)) hSw); obtain ⟨r0, r1, r2, -, -, -⟩ := row_facts (row_later R7.out (After.trans (After.drew (After.refl _)) hSw) (row_lt R7.out)); go_simp; try with_reducible rfl)
        try simp only [Act.put, List.getElem_toArray, List.getElem_cons_succ, List.getElem_cons_zero, List.setIfInBounds_toArray, List.set_cons_zero, List.set_cons_succ]
        refine Script.load (i := 46) (v := ?_) rfl (by kernel_rfl) (by kernel_rfl) (fun _ _ _ h => h) (by kernel_rfl) ?_ ?_
        rotate_left
        · (intro wS hSw; obtain ⟨c0, c1, c2, -, -⟩ := B7.out.later (After.trans (After.drew (After.refl _)) hSw); obtain ⟨r0, r1, r2, -, -, -⟩ := row_facts (row_later R7.out (After.trans (After.drew (After.refl _)) hSw) (row_lt R7.out)); go_simp; try with_reducible rfl)
        try simp only [Act.put, List.getElem_toArray, List.getElem_cons_succ, List.getElem_cons_zero, List.setIfInBounds_toArray, List.set_cons_zero, List.set_cons_succ]
        refine Script.call (i := 47) (v := ?_) rfl (by kernel_rfl) (by kernel_rfl) (fun _ _ _ h => h) (by kernel_rfl) ?_ ?_
        rotate_left
        · (intro wS hSw K hK; obtain ⟨c0, c1, c2, -, -⟩ := B7.out.later (After.trans (After.drew (After.refl _)) hSw); obtain ⟨r0, r1, r2, -, -, -⟩ := row_facts (row_later R7.out (After.trans (After.drew (After.refl _)) hSw) (row_lt R7.out)); go_simp; go_at_call 68; refine (K10.out _ _ _ (ints_own (own_below X7.out (After.trans (After.drew (After.refl _)) hSw)) HN.out)).mono ?_; rintro e wc ⟨rfl, hbc⟩; exact hK.out _ hbc)
        try simp only [Act.put, List.getElem_toArray, List.getElem_cons_succ, List.getElem_cons_zero, List.setIfInBounds_toArray, List.set_cons_zero, List.set_cons_succ]
        refine Script.load (i := 48) (v := ?_) rfl (by kernel_rfl) (by kernel_rfl) (fun _ _ _ h => h) (by kernel_rfl) ?_ ?_
        rotate_left
        · (intro wS hSw; obtain ⟨c0, c1, c2, -, -⟩ := B7.out.later (After.trans (After.drew (After.refl _)) hSw); obtain ⟨r0, r1, r2, -, -, -⟩ := row_facts (row_later R7.out (After.trans (After.drew (After.refl _)) hSw) (row_lt R7.out)); go_simp; try with_reducible rfl)
        try simp only [Act.put, List.getElem_toArray, List.getElem_cons_succ, List.getElem_cons_zero, List.setIfInBounds_toArray, List.set_cons_zero, List.set_cons_succ]
        refine Script.load (i := 49) (v := ?_) rfl (by kernel_rfl) (by kernel_rfl) (fun _ _ _ h => h) (by kernel_rfl) ?_ ?_
        rotate_left
        · (intro wS hSw; obtain ⟨c0, c1, c2, -, -⟩ := B7.out.later (After.trans (After.drew (After.refl _)) hSw); obtain ⟨r0, r1, r2, -, -, -⟩ := row_facts (row_later R7.out (After.trans (After.drew (After.refl _)) hSw) (row_lt R7.out)); go_simp; try with_reducible rfl)
        try simp only [Act.put, List.getElem_toArray, List.getElem_cons_succ, List.getElem_cons_zero, List.setIfInBounds_toArray, List.set_cons_zero, List.set_cons_succ]
        refine Script.load (i := 50) (v := ?_) rfl (by kernel_rfl) (by kernel_rfl) (fun _ _ _ h => h) (by kernel_rfl) ?_ ?_
        rotate_left
        · (intro wS hSw; obtain ⟨c0, c1, c2, -, -⟩ := B7.out.later (After.trans (After.drew (After.refl _)) hSw); obtain ⟨r0, r1, r2, -, -, -⟩ := row_facts (row_later R7.out (After.trans (After.drew (After.refl _)) hSw) (row_lt R7.out)); go_simp; try with_reducible rfl)
        try simp only [Act.put, List.getElem_toArray, List.getElem_cons_succ, List.getElem_cons_zero, List.setIfInBounds_toArray, List.set_cons_zero, List.set_cons_succ]
        refine Script.done (by kernel_rfl) ?_
        intro wD hD hG
        have hb7 := After.trans (After.drew (After.refl w7)) hD
        have HF := Lib.hid (HB1.out.trans ((B7.out.later hb7).2.2.2.2.mono hsz))
        clear hb7 hD hG B7 X7 R7
        go_wp2_with fail
        go_ret
        exact ⟨rfl, HF.out⟩
      · obtain ⟨hz1, hfall, hzl⟩ := HAD.out rfl
        have hwk := HAK.out rfl
        have V := V7.out
        simp only at V
        rw [hzl, hz1] at V
        rw [hz1] at hzl
        have HVL := Lib.hid hzl
        obtain ⟨va, vc, rfl⟩ := int_form V
        have V8 := Lib.hid V
        have hS1 := HSZ.out.1
        have hS2 := HSZ.out.2 hwk
        have KV := Lib.hid (K8.out (z : Int) (by omega))
        rw [hS2] at KV
        have KW := Lib.hid (K5.out (z : Int) (by omega))
        rw [hS1] at KW
        have KF := K9
        rw [hfall] at KF
        have hsb := HSB.out
        generalize sumTo xs z N = s at *
        have hw2 : IntKind.i64.wrap (2 * s) = 2 * s := IntWalk.i64_in _ (by omega)
        clear K8 K9 V V7 HAD HAK HSZ hS1 hS2 hwk hfall hz1 hzl hsb HSB
        go_wp2_with fail
        refine wp_region_script (by kernel_rfl) (by kernel_rfl) ?_
        refine Script.load (i := 0) (v := ?_) rfl (by kernel_rfl) (by kernel_rfl) (fun _ _ _ h => h) (by kernel_rfl) ?_ ?_
        rotate_left
        · (intro wS hSw; obtain ⟨c0, c1, c2, -, -⟩ := B7.out.later (After.trans (After.drew (After.refl _)) hSw); obtain ⟨r0, r1, r2, -, -, -⟩ := row_facts (row_later R7.out (After.trans (After.drew (After.refl _)) hSw) (row_lt R7.out)); go_simp; try with_reducible rfl)
        try simp only [Act.put, List.getElem_toArray, List.getElem_cons_succ, List.getElem_cons_zero, List.setIfInBounds_toArray, List.set_cons_zero, List.set_cons_succ]
        refine Script.load (i := 1) (v := ?_) rfl (by kernel_rfl) (by kernel_rfl) (fun _ _ _ h => h) (by kernel_rfl) ?_ ?_
        rotate_left
        · (intro wS hSw; obtain ⟨c0, c1, c2, -, -⟩ := B7.out.later (After.trans (After.drew (After.refl _)) hSw); obtain ⟨r0, r1, r2, -, -, -⟩ := row_facts (row_later R7.out (After.trans (After.drew (After.refl _)) hSw) (row_lt R7.out)); go_simp; try with_reducible rfl)
        try simp only [Act.put, List.getElem_toArray, List.getElem_cons_succ, List.getElem_cons_zero, List.setIfInBounds_toArray, List.set_cons_zero, List.set_cons_succ]
        refine Script.call (i := 2) (v := ?_) rfl (by kernel_rfl) (by kernel_rfl) (fun _ _ _ h => h) (by kernel_rfl) ?_ ?_
        rotate_left
        · (intro wS hSw K hK; obtain ⟨c0, c1, c2, -, -⟩ := B7.out.later (After.trans (After.drew (After.refl _)) hSw); obtain ⟨r0, r1, r2, -, -, -⟩ := row_facts (row_later R7.out (After.trans (After.drew (After.refl _)) hSw) (row_lt R7.out)); go_simp; go_at_call 70; refine (K7.out _ _ _ (ints_own (own_below X7.out (After.trans (After.drew (After.refl _)) hSw)) HN.out)).mono ?_; rintro e wc ⟨rfl, hbc⟩; exact hK.out _ hbc)
        try simp only [Act.put, List.getElem_toArray, List.getElem_cons_succ, List.getElem_cons_zero, List.setIfInBounds_toArray, List.set_cons_zero, List.set_cons_succ]
        refine Script.load (i := 3) (v := ?_) rfl (by kernel_rfl) (by kernel_rfl) (fun _ _ _ h => h) (by kernel_rfl) ?_ ?_
        rotate_left
        · (intro wS hSw; obtain ⟨c0, c1, c2, -, -⟩ := B7.out.later (After.trans (After.drew (After.refl _)) hSw); obtain ⟨r0, r1, r2, -, -, -⟩ := row_facts (row_later R7.out (After.trans (After.drew (After.refl _)) hSw) (row_lt R7.out)); go_simp; try with_reducible rfl)
        try simp only [Act.put, List.getElem_toArray, List.getElem_cons_succ, List.getElem_cons_zero, List.setIfInBounds_toArray, List.set_cons_zero, List.set_cons_succ]
        refine Script.load (i := 4) (v := ?_) rfl (by kernel_rfl) (by kernel_rfl) (fun _ _ _ h => h) (by kernel_rfl) ?_ ?_
        rotate_left
        · (intro wS hSw; obtain ⟨c0, c1, c2, -, -⟩ := B7.out.later (After.trans (After.drew (After.refl _)) hSw); obtain ⟨r0, r1, r2, -, -, -⟩ := row_facts (row_later R7.out (After.trans (After.drew (After.refl _)) hSw) (row_lt R7.out)); go_simp; try with_reducible rfl)
        try simp only [Act.put, List.getElem_toArray, List.getElem_cons_succ, List.getElem_cons_zero, List.setIfInBounds_toArray, List.set_cons_zero, List.set_cons_succ]
        refine Script.load (i := 5) (v := ?_) rfl (by kernel_rfl) (by kernel_rfl) (fun _ _ _ h => h) (by kernel_rfl) ?_ ?_
        rotate_left
        · (intro wS hSw; obtain ⟨c0, c1, c2, -, -⟩ := B7.out.later (After.trans (After.drew (After.refl _)) hSw); obtain ⟨r0, r1, r2, -, -, -⟩ := row_facts (row_later R7.out (After.trans (After.drew (After.refl _)) hSw) (row_lt R7.out)); go_simp; try with_reducible rfl)
        try simp only [Act.put, List.getElem_toArray, List.getElem_cons_succ, List.getElem_cons_zero, List.setIfInBounds_toArray, List.set_cons_zero, List.set_cons_succ]
        refine Script.load (i := 6) (v := ?_) rfl (by kernel_rfl) (by kernel_rfl) (fun _ _ _ h => h) (by kernel_rfl) ?_ ?_
        rotate_left
        · (intro wS hSw; obtain ⟨c0, c1, c2, -, -⟩ := B7.out.later (After.trans (After.drew (After.refl _)) hSw); obtain ⟨r0, r1, r2, -, -, -⟩ := row_facts (row_later R7.out (After.trans (After.drew (After.refl _)) hSw) (row_lt R7.out)); go_simp; try with_reducible rfl)
        try simp only [Act.put, List.getElem_toArray, List.getElem_cons_succ, List.getElem_cons_zero, List.setIfInBounds_toArray, List.set_cons_zero, List.set_cons_succ]
        refine Script.load (i := 7) (v := ?_) rfl (by kernel_rfl) (by kernel_rfl) (fun _ _ _ h => h) (by kernel_rfl) ?_ ?_
        rotate_left
        · (intro wS hSw; obtain ⟨c0, c1, c2, -, -⟩ := B7.out.later (After.trans (After.drew (After.refl _)) hSw); obtain ⟨r0, r1, r2, -, -, -⟩ := row_facts (row_later R7.out (After.trans (After.drew (After.refl _)) hSw) (row_lt R7.out)); go_simp; try with_reducible rfl)
        try simp only [Act.put, List.getElem_toArray, List.getElem_cons_succ, List.getElem_cons_zero, List.setIfInBounds_toArray, List.set_cons_zero, List.set_cons_succ]
        refine Script.load (i := 8) (v := ?_) rfl (by kernel_rfl) (by kernel_rfl) (fun _ _ _ h => h) (by kernel_rfl) ?_ ?_
        rotate_left
        · (intro wS hSw; obtain ⟨c0, c1, c2, -, -⟩ := B7.out.later (After.trans (After.drew (After.refl _)) hSw); obtain ⟨r0, r1, r2, -, -, -⟩ := row_facts (row_later R7.out (After.trans (After.drew (After.refl _)) hSw) (row_lt R7.out)); go_simp; try with_reducible rfl)
        try simp only [Act.put, List.getElem_toArray, List.getElem_cons_succ, List.getElem_cons_zero, List.setIfInBounds_toArray, List.set_cons_zero, List.set_cons_succ]
        refine Script.load (i := 9) (v := ?_) rfl (by kernel_rfl) (by kernel_rfl) (fun _ _ _ h => h) (by kernel_rfl) ?_ ?_
        rotate_left
        · (intro wS hSw; obtain ⟨c0, c1, c2, -, -⟩ := B7.out.later (After.trans (After.drew (After.refl _)) hSw); obtain ⟨r0, r1, r2, -, -, -⟩ := row_facts (row_later R7.out (After.trans (After.drew (After.refl _)) hSw) (row_lt R7.out)); go_simp; try with_reducible rfl)
        try simp only [Act.put, List.getElem_toArray, List.getElem_cons_succ, List.getElem_cons_zero, List.setIfInBounds_toArray, List.set_cons_zero, List.set_cons_succ]
        refine Script.load (i := 10) (v := ?_) rfl (by kernel_rfl) (by kernel_rfl) (fun _ _ _ h => h) (by kernel_rfl) ?_ ?_
        rotate_left
        · (intro wS hSw; obtain ⟨c0, c1, c2, -, -⟩ := B7.out.later (After.trans (After.drew (After.refl _)) hSw); obtain ⟨r0, r1, r2, -, -, -⟩ := row_facts (row_later R7.out (After.trans (After.drew (After.refl _)) hSw) (row_lt R7.out)); go_simp; try with_reducible rfl)
        try simp only [Act.put, List.getElem_toArray, List.getElem_cons_succ, List.getElem_cons_zero, List.setIfInBounds_toArray, List.set_cons_zero, List.set_cons_succ]
        refine Script.load (i := 11) (v := ?_) rfl (by kernel_rfl) (by kernel_rfl) (fun _ _ _ h => h) (by kernel_rfl) ?_ ?_
        rotate_left
        · (intro wS hSw; obtain ⟨c0, c1, c2, -, -⟩ := B7.out.later (After.trans (After.drew (After.refl _)) hSw); obtain ⟨r0, r1, r2, -, -, -⟩ := row_facts (row_later R7.out (After.trans (After.drew (After.refl _)) hSw) (row_lt R7.out)); go_simp; try with_reducible rfl)
        try simp only [Act.put, List.getElem_toArray, List.getElem_cons_succ, List.getElem_cons_zero, List.setIfInBounds_toArray, List.set_cons_zero, List.set_cons_succ]
        refine Script.skip (i := 12) rfl (by kernel_rfl) (by kernel_rfl) (fun _ _ _ h => h) (by kernel_rfl) ?_
        try simp only [Act.put, List.getElem_toArray, List.getElem_cons_succ, List.getElem_cons_zero, List.setIfInBounds_toArray, List.set_cons_zero, List.set_cons_succ]
        refine Script.skip (i := 13) rfl (by kernel_rfl) (by kernel_rfl) (fun _ _ _ h => h) (by kernel_rfl) ?_
        try simp only [Act.put, List.getElem_toArray, List.getElem_cons_succ, List.getElem_cons_zero, List.setIfInBounds_toArray, List.set_cons_zero, List.set_cons_succ]
        refine Script.skip (i := 14) rfl (by kernel_rfl) (by kernel_rfl) (fun _ _ _ h => h) (by kernel_rfl) ?_
        try simp only [Act.put, List.getElem_toArray, List.getElem_cons_succ, List.getElem_cons_zero, List.setIfInBounds_toArray, List.set_cons_zero, List.set_cons_succ]
        refine Script.skip (i := 15) rfl (by kernel_rfl) (by kernel_rfl) (fun _ _ _ h => h) (by kernel_rfl) ?_
        try simp only [Act.put, List.getElem_toArray, List.getElem_cons_succ, List.getElem_cons_zero, List.setIfInBounds_toArray, List.set_cons_zero, List.set_cons_succ]
        refine Script.skip (i := 16) rfl (by kernel_rfl) (by kernel_rfl) (fun _ _ _ h => h) (by kernel_rfl) ?_
        try simp only [Act.put, List.getElem_toArray, List.getElem_cons_succ, List.getElem_cons_zero, List.setIfInBounds_toArray, List.set_cons_zero, List.set_cons_succ]
        refine Script.load (i := 17) (v := ?_) rfl (by kernel_rfl) (by kernel_rfl) (fun _ _ _ h => h) (by kernel_rfl) ?_ ?_
        rotate_left
        · (intro wS hSw; obtain ⟨c0, c1, c2, -, -⟩ := B7.out.later (After.trans (After.drew (After.refl _)) hSw); obtain ⟨r0, r1, r2, -, -, -⟩ := row_facts (row_later R7.out (After.trans (After.drew (After.refl _)) hSw) (row_lt R7.out)); go_simp; try with_reducible rfl)
        try simp only [Act.put, List.getElem_toArray, List.getElem_cons_succ, List.getElem_cons_zero, List.setIfInBounds_toArray, List.set_cons_zero, List.set_cons_succ]
        refine Script.load (i := 18) (v := ?_) rfl (by kernel_rfl) (by kernel_rfl) (fun _ _ _ h => h) (by kernel_rfl) ?_ ?_
        rotate_left
        · (intro wS hSw; obtain ⟨c0, c1, c2, -, -⟩ := B7.out.later (After.trans (After.drew (After.refl _)) hSw); obtain ⟨r0, r1, r2, -, -, -⟩ := row_facts (row_later R7.out (After.trans (After.drew (After.refl _)) hSw) (row_lt R7.out)); go_simp; try with_reducible rfl)
        try simp only [Act.put, List.getElem_toArray, List.getElem_cons_succ, List.getElem_cons_zero, List.setIfInBounds_toArray, List.set_cons_zero, List.set_cons_succ]
        refine Script.load (i := 19) (v := ?_) rfl (by kernel_rfl) (by kernel_rfl) (fun _ _ _ h => h) (by kernel_rfl) ?_ ?_
        rotate_left
        · (intro wS hSw; obtain ⟨c0, c1, c2, -, -⟩ := B7.out.later (After.trans (After.drew (After.refl _)) hSw); obtain ⟨r0, r1, r2, -, -, -⟩ := row_facts (row_later R7.out (After.trans (After.drew (After.refl _)) hSw) (row_lt R7.out)); go_simp; try with_reducible rfl)
        try simp only [Act.put, List.getElem_toArray, List.getElem_cons_succ, List.getElem_cons_zero, List.setIfInBounds_toArray, List.set_cons_zero, List.set_cons_succ]
        refine Script.load (i := 20) (v := ?_) rfl (by kernel_rfl) (by kernel_rfl) (fun _ _ _ h => h) (by kernel_rfl) ?_ ?_
        rotate_left
        · (intro wS hSw; obtain ⟨c0, c1, c2, -, -⟩ := B7.out.later (After.trans (After.drew (After.refl _)) hSw); obtain ⟨r0, r1, r2, -, -, -⟩ := row_facts (row_later R7.out (After.trans (After.drew (After.refl _)) hSw) (row_lt R7.out)); go_simp; try with_reducible rfl)
        try simp only [Act.put, List.getElem_toArray, List.getElem_cons_succ, List.getElem_cons_zero, List.setIfInBounds_toArray, List.set_cons_zero, List.set_cons_succ]
        refine Script.load (i := 21) (v := ?_) rfl (by kernel_rfl) (by kernel_rfl) (fun _ _ _ h => h) (by kernel_rfl) ?_ ?_
        rotate_left
        · (intro wS hSw; obtain ⟨c0, c1, c2, -, -⟩ := B7.out.later (After.trans (After.drew (After.refl _)) hSw); obtain ⟨r0, r1, r2, -, -, -⟩ := row_facts (row_later R7.out (After.trans (After.drew (After.refl _)) hSw) (row_lt R7.out)); go_simp; try with_reducible rfl)
        try simp only [Act.put, List.getElem_toArray, List.getElem_cons_succ, List.getElem_cons_zero, List.setIfInBounds_toArray, List.set_cons_zero, List.set_cons_succ]
        refine Script.load (i := 22) (v := ?_) rfl (by kernel_rfl) (by kernel_rfl) (fun _ _ _ h => h) (by kernel_rfl) ?_ ?_
        rotate_left
        · (intro wS hSw; obtain ⟨c0, c1, c2, -, -⟩ := B7.out.later (After.trans (After.drew (After.refl _)) hSw); obtain ⟨r0, r1, r2, -, -, -⟩ := row_facts (row_later R7.out (After.trans (After.drew (After.refl _)) hSw) (row_lt R7.out)); go_simp; try with_reducible rfl)
        try simp only [Act.put, List.getElem_toArray, List.getElem_cons_succ, List.getElem_cons_zero, List.setIfInBounds_toArray, List.set_cons_zero, List.set_cons_succ]
        refine Script.load (i := 23) (v := ?_) rfl (by kernel_rfl) (by kernel_rfl) (fun _ _ _ h => h) (by kernel_rfl) ?_ ?_
        rotate_left
        · (intro wS hSw; obtain ⟨c0, c1, c2, -, -⟩ := B7.out.later (After.trans (After.drew (After.refl _)) hSw); obtain ⟨r0, r1, r2, -, -, -⟩ := row_facts (row_later R7.out (After.trans (After.drew (After.refl _)) hSw) (row_lt R7.out)); go_simp; try with_reducible rfl)
        try simp only [Act.put, List.getElem_toArray, List.getElem_cons_succ, List.getElem_cons_zero, List.setIfInBounds_toArray, List.set_cons_zero, List.set_cons_succ]
        refine Script.load (i := 24) (v := ?_) rfl (by kernel_rfl) (by kernel_rfl) (fun _ _ _ h => h) (by kernel_rfl) ?_ ?_
        rotate_left
        · (intro wS hSw; obtain ⟨c0, c1, c2, -, -⟩ := B7.out.later (After.trans (After.drew (After.refl _)) hSw); obtain ⟨r0, r1, r2, -, -, -⟩ := row_facts (row_later R7.out (After.trans (After.drew (After.refl _)) hSw) (row_lt R7.out)); go_simp; try with_reducible rfl)
        try simp only [Act.put, List.getElem_toArray, List.getElem_cons_succ, List.getElem_cons_zero, List.setIfInBounds_toArray, List.set_cons_zero, List.set_cons_succ]
        refine Script.load (i := 25) (v := ?_) rfl (by kernel_rfl) (by kernel_rfl) (fun _ _ _ h => h) (by kernel_rfl) ?_ ?_
        rotate_left
        · (intro wS hSw; obtain ⟨c0, c1, c2, -, -⟩ := B7.out.later (After.trans (After.drew (After.refl _)) hSw); obtain ⟨r0, r1, r2, -, -, -⟩ := row_facts (row_later R7.out (After.trans (After.drew (After.refl _)) hSw) (row_lt R7.out)); go_simp; try with_reducible rfl)
        try simp only [Act.put, List.getElem_toArray, List.getElem_cons_succ, List.getElem_cons_zero, List.setIfInBounds_toArray, List.set_cons_zero, List.set_cons_succ]
        refine Script.load (i := 26) (v := ?_) rfl (by kernel_rfl) (by kernel_rfl) (fun _ _ _ h => h) (by kernel_rfl) ?_ ?_
        rotate_left
        · (intro wS hSw; obtain ⟨c0, c1, c2, -, -⟩ := B7.out.later (After.trans (After.drew (After.refl _)) hSw); obtain ⟨r0, r1, r2, -, -, -⟩ := row_facts (row_later R7.out (After.trans (After.drew (After.refl _)) hSw) (row_lt R7.out)); go_simp; try with_reducible rfl)
        try simp only [Act.put, List.getElem_toArray, List.getElem_cons_succ, List.getElem_cons_zero, List.setIfInBounds_toArray, List.set_cons_zero, List.set_cons_succ]
        refine Script.call (i := 27) (v := ?_) rfl (by kernel_rfl) (by kernel_rfl) (fun _ _ _ h => h) (by kernel_rfl) ?_ ?_
        rotate_left
        · (intro wS hSw K hK; obtain ⟨c0, c1, c2, -, -⟩ := B7.out.later (After.trans (After.drew (After.refl _)) hSw); obtain ⟨r0, r1, r2, -, -, -⟩ := row_facts (row_later R7.out (After.trans (After.drew (After.refl _)) hSw) (row_lt R7.out)); go_simp; go_at_call 68; refine (KV.out _ _ _ (ints_own (own_below V8.out (After.trans (After.drew (After.refl _)) hSw)) HVL.out)).mono ?_; rintro e wc ⟨rfl, hbc⟩; exact hK.out _ hbc)
        try simp only [Act.put, List.getElem_toArray, List.getElem_cons_succ, List.getElem_cons_zero, List.setIfInBounds_toArray, List.set_cons_zero, List.set_cons_succ]
        refine Script.load (i := 28) (v := ?_) rfl (by kernel_rfl) (by kernel_rfl) (fun _ _ _ h => h) (by kernel_rfl) ?_ ?_
        rotate_left
        · (intro wS hSw; obtain ⟨c0, c1, c2, -, -⟩ := B7.out.later (After.trans (After.drew (After.refl _)) hSw); obtain ⟨r0, r1, r2, -, -, -⟩ := row_facts (row_later R7.out (After.trans (After.drew (After.refl _)) hSw) (row_lt R7.out)); go_simp; try with_reducible rfl)
        try simp only [Act.put, List.getElem_toArray, List.getElem_cons_succ, List.getElem_cons_zero, List.setIfInBounds_toArray, List.set_cons_zero, List.set_cons_succ]
        refine Script.load (i := 29) (v := ?_) rfl (by kernel_rfl) (by kernel_rfl) (fun _ _ _ h => h) (by kernel_rfl) ?_ ?_
        rotate_left
        · (intro wS hSw; obtain ⟨c0, c1, c2, -, -⟩ := B7.out.later (After.trans (After.drew (After.refl _)) hSw); obtain ⟨r0, r1, r2, -, -, -⟩ := row_facts (row_later R7.out (After.trans (After.drew (After.refl _)) hSw) (row_lt R7.out)); go_simp; try with_reducible rfl)
        try simp only [Act.put, List.getElem_toArray, List.getElem_cons_succ, List.getElem_cons_zero, List.setIfInBounds_toArray, List.set_cons_zero, List.set_cons_succ]
        refine Script.load (i := 30) (v := ?_) rfl (by kernel_rfl) (by kernel_rfl) (fun _ _ _ h => h) (by kernel_rfl) ?_ ?_
        rotate_left
        · (intro wS hSw; obtain ⟨c0, c1, c2, -, -⟩ := B7.out.later (After.trans (After.drew (After.refl _)) hSw); obtain ⟨r0, r1, r2, -, -, -⟩ := row_facts (row_later R7.out (After.trans (After.drew (After.refl _)) hSw) (row_lt R7.out)); go_simp; try with_reducible rfl)
        try simp only [Act.put, List.getElem_toArray, List.getElem_cons_succ, List.getElem_cons_zero, List.setIfInBounds_toArray, List.set_cons_zero, List.set_cons_succ]
        refine Script.load (i := 31) (v := ?_) rfl (by kernel_rfl) (by kernel_rfl) (fun _ _ _ h => h) (by kernel_rfl) ?_ ?_
        rotate_left
        · (intro wS hSw; obtain ⟨c0, c1, c2, -, -⟩ := B7.out.later (After.trans (After.drew (After.refl _)) hSw); obtain ⟨r0, r1, r2, -, -, -⟩ := row_facts (row_later R7.out (After.trans (After.drew (After.refl _)) hSw) (row_lt R7.out)); go_simp; try with_reducible rfl)
        try simp only [Act.put, List.getElem_toArray, List.getElem_cons_succ, List.getElem_cons_zero, List.setIfInBounds_toArray, List.set_cons_zero, List.set_cons_succ]
        refine Script.call (i := 32) (v := ?_) rfl (by kernel_rfl) (by kernel_rfl) (fun _ _ _ h => h) (by kernel_rfl) ?_ ?_
        rotate_left
        · (intro wS hSw K hK; obtain ⟨c0, c1, c2, -, -⟩ := B7.out.later (After.trans (After.drew (After.refl _)) hSw); obtain ⟨r0, r1, r2, -, -, -⟩ := row_facts (row_later R7.out (After.trans (After.drew (After.refl _)) hSw) (row_lt R7.out)); go_simp; go_at_call 68; refine (KW.out _ _ _ (ints_own (own_below X7.out (After.trans (After.drew (After.refl _)) hSw)) HN.out)).mono ?_; rintro e wc ⟨rfl, hbc⟩; exact hK.out _ hbc)
        try simp only [Act.put, List.getElem_toArray, List.getElem_cons_succ, List.getElem_cons_zero, List.setIfInBounds_toArray, List.set_cons_zero, List.set_cons_succ]
        refine Script.load (i := 33) (v := ?_) rfl (by kernel_rfl) (by kernel_rfl) (fun _ _ _ h => h) (by kernel_rfl) ?_ ?_
        rotate_left
        · (intro wS hSw; obtain ⟨c0, c1, c2, -, -⟩ := B7.out.later (After.trans (After.drew (After.refl _)) hSw); obtain ⟨r0, r1, r2, -, -, -⟩ := row_facts (row_later R7.out (After.trans (After.drew (After.refl _)) hSw) (row_lt R7.out)); go_simp; try with_reducible rfl)
        try simp only [Act.put, List.getElem_toArray, List.getElem_cons_succ, List.getElem_cons_zero, List.setIfInBounds_toArray, List.set_cons_zero, List.set_cons_succ]
        refine Script.load (i := 34) (v := ?_) rfl (by kernel_rfl) (by kernel_rfl) (fun _ _ _ h => h) (by kernel_rfl) ?_ ?_
        rotate_left
        · (intro wS hSw; obtain ⟨c0, c1, c2, -, -⟩ := B7.out.later (After.trans (After.drew (After.refl _)) hSw); obtain ⟨r0, r1, r2, -, -, -⟩ := row_facts (row_later R7.out (After.trans (After.drew (After.refl _)) hSw) (row_lt R7.out)); go_simp; try with_reducible rfl)
        try simp only [Act.put, List.getElem_toArray, List.getElem_cons_succ, List.getElem_cons_zero, List.setIfInBounds_toArray, List.set_cons_zero, List.set_cons_succ]
        refine Script.load (i := 35) (v := ?_) rfl (by kernel_rfl) (by kernel_rfl) (fun _ _ _ h => h) (by kernel_rfl) ?_ ?_
        rotate_left
        · (intro wS hSw; obtain ⟨c0, c1, c2, -, -⟩ := B7.out.later (After.trans (After.drew (After.refl _)) hSw); obtain ⟨r0, r1, r2, -, -, -⟩ := row_facts (row_later R7.out (After.trans (After.drew (After.refl _)) hSw) (row_lt R7.out)); go_simp; try with_reducible rfl)
        try simp only [Act.put, List.getElem_toArray, List.getElem_cons_succ, List.getElem_cons_zero, List.setIfInBounds_toArray, List.set_cons_zero, List.set_cons_succ]
        refine Script.load (i := 36) (v := ?_) rfl (by kernel_rfl) (by kernel_rfl) (fun _ _ _ h => h) (by kernel_rfl) ?_ ?_
        rotate_left
        · (intro wS hSw; obtain ⟨c0, c1, c2, -, -⟩ := B7.out.later (After.trans (After.drew (After.refl _)) hSw); obtain ⟨r0, r1, r2, -, -, -⟩ := row_facts (row_later R7.out (After.trans (After.drew (After.refl _)) hSw) (row_lt R7.out)); go_simp; try with_reducible rfl)
        try simp only [Act.put, List.getElem_toArray, List.getElem_cons_succ, List.getElem_cons_zero, List.setIfInBounds_toArray, List.set_cons_zero, List.set_cons_succ]
        refine Script.load (i := 37) (v := ?_) rfl (by kernel_rfl) (by kernel_rfl) (fun _ _ _ h => h) (by kernel_rfl) ?_ ?_
        rotate_left
        · (intro wS hSw; obtain ⟨c0, c1, c2, -, -⟩ := B7.out.later (After.trans (After.drew (After.refl _)) hSw); obtain ⟨r0, r1, r2, -, -, -⟩ := row_facts (row_later R7.out (After.trans (After.drew (After.refl _)) hSw) (row_lt R7.out)); go_simp; try with_reducible rfl)
        try simp only [Act.put, List.getElem_toArray, List.getElem_cons_succ, List.getElem_cons_zero, List.setIfInBounds_toArray, List.set_cons_zero, List.set_cons_succ]
        refine Script.call (i := 38) (v := ?_) rfl (by kernel_rfl) (by kernel_rfl) (fun _ _ _ h => h) (by kernel_rfl) ?_ ?_
        rotate_left
        · (intro wS hSw K hK; obtain ⟨c0, c1, c2, -, -⟩ := B7.out.later (After.trans (After.drew (After.refl _)) hSw); obtain ⟨r0, r1, r2, -, -, -⟩ := row_facts (row_later R7.out (After.trans (After.drew (After.refl _)) hSw) (row_lt R7.out)); go_simp; go_at_call 64; refine (KF.out _ _ _ (ints_own (own_below V8.out (After.trans (After.drew (After.refl _)) hSw)) HVL.out)).mono ?_; rintro e wc ⟨rfl, hbc⟩; exact hK.out _ hbc)
        try simp only [Act.put, List.getElem_toArray, List.getElem_cons_succ, List.getElem_cons_zero, List.setIfInBounds_toArray, List.set_cons_zero, List.set_cons_succ]
        refine Script.load (i := 39) (v := ?_) rfl (by kernel_rfl) (by kernel_rfl) (fun _ _ _ h => h) (by kernel_rfl) ?_ ?_
        rotate_left
        · (intro wS hSw; obtain ⟨c0, c1, c2, -, -⟩ := B7.out.later (After.trans (After.drew (After.refl _)) hSw); obtain ⟨r0, r1, r2, -, -, -⟩ := row_facts (row_later R7.out (After.trans (After.drew (After.refl _)) hSw) (row_lt R7.out)); go_simp; try with_reducible rfl)
        try simp only [Act.put, List.getElem_toArray, List.getElem_cons_succ, List.getElem_cons_zero, List.setIfInBounds_toArray, List.set_cons_zero, List.set_cons_succ]
        refine Script.load (i := 40) (v := ?_) rfl (by kernel_rfl) (by kernel_rfl) (fun _ _ _ h => h) (by kernel_rfl) ?_ ?_
        rotate_left
        · (intro wS hSw; obtain ⟨c0, c1, c2, -, -⟩ := B7.out.later (After.trans (After.drew (After.refl _)) hSw); obtain ⟨r0, r1, r2, -, -, -⟩ := row_facts (row_later R7.out (After.trans (After.drew (After.refl _)) hSw) (row_lt R7.out)); go_simp; try with_reducible rfl)
        try simp only [Act.put, List.getElem_toArray, List.getElem_cons_succ, List.getElem_cons_zero, List.setIfInBounds_toArray, List.set_cons_zero, List.set_cons_succ]
        refine Script.load (i := 41) (v := ?_) rfl (by kernel_rfl) (by kernel_rfl) (fun _ _ _ h => h) (by kernel_rfl) ?_ ?_
        rotate_left
        · (intro wS hSw; obtain ⟨c0, c1, c2, -, -⟩ := B7.out.later (After.trans (After.drew (After.refl _)) hSw); obtain ⟨r0, r1, r2, -, -, -⟩ := row_facts (row_later R7.out (After.trans (After.drew (After.refl _)) hSw) (row_lt R7.out)); go_simp; try with_reducible rfl)
        try simp only [Act.put, List.getElem_toArray, List.getElem_cons_succ, List.getElem_cons_zero, List.setIfInBounds_toArray, List.set_cons_zero, List.set_cons_succ]
        refine Script.load (i := 42) (v := ?_) rfl (by kernel_rfl) (by kernel_rfl) (fun _ _ _ h => h) (by kernel_rfl) ?_ ?_
        rotate_left
        · (intro wS hSw; obtain ⟨c0, c1, c2, -, -⟩ := B7.out.later (After.trans (After.drew (After.refl _)) hSw); obtain ⟨r0, r1, r2, -, -, -⟩ := row_facts (row_later R7.out (After.trans (After.drew (After.refl _)) hSw) (row_lt R7.out)); go_simp; try with_reducible rfl)
        try simp only [Act.put, List.getElem_toArray, List.getElem_cons_succ, List.getElem_cons_zero, List.setIfInBounds_toArray, List.set_cons_zero, List.set_cons_succ]
        refine Script.load (i := 43) (v := ?_) rfl (by kernel_rfl) (by kernel_rfl) (fun _ _ _ h => h) (by kernel_rfl) ?_ ?_
        rotate_left
        · (intro wS hSw; obtain ⟨c0, c1, c2, -, -⟩ := B7.out.later (After.trans (After.drew (After.refl _)) hSw); obtain ⟨r0, r1, r2, -, -, -⟩ := row_facts (row_later R7.out (After.trans (After.drew (After.refl _)) hSw) (row_lt R7.out)); go_simp; try with_reducible rfl)
        try simp only [Act.put, List.getElem_toArray, List.getElem_cons_succ, List.getElem_cons_zero, List.setIfInBounds_toArray, List.set_cons_zero, List.set_cons_succ]
        refine Script.load (i := 44) (v := ?_) rfl (by kernel_rfl) (by kernel_rfl) (fun _ _ _ h => h) (by kernel_rfl) ?_ ?_
        rotate_left
        · (intro wS hSw; obtain ⟨c0, c1, c2, -, -⟩ := B7.out.later (After.trans (After.drew (After.refl _)) hSw); obtain ⟨r0, r1, r2, -, -, -⟩ := row_facts (row_later R7.out (After.trans (After.drew (After.refl _)) hSw) (row_lt R7.out)); go_simp; try with_reducible rfl)
        try simp only [Act.put, List.getElem_toArray, List.getElem_cons_succ, List.getElem_cons_zero, List.setIfInBounds_toArray, List.set_cons_zero, List.set_cons_succ]
        refine Script.load (i := 45) (v := ?_) rfl (by kernel_rfl) (by kernel_rfl) (fun _ _ _ h => h) (by kernel_rfl) ?_ ?_
        rotate_left
        · (intro wS hSw; obtain ⟨c0, c1, c2, -, -⟩ := B7.out.later (After.trans (After.drew (After.refl _)) hSw); obtain ⟨r0, r1, r2, -, -, -⟩ := row_facts (row_later R7.out (After.trans (After.drew (After.refl _)) hSw) (row_lt R7.out)); go_simp; try with_reducible rfl)
        try simp only [Act.put, List.getElem_toArray, List.getElem_cons_succ, List.getElem_cons_zero, List.setIfInBounds_toArray, List.set_cons_zero, List.set_cons_succ]
        refine Script.load (i := 46) (v := ?_) rfl (by kernel_rfl) (by kernel_rfl) (fun _ _ _ h => h) (by kernel_rfl) ?_ ?_
        rotate_left
        · (intro wS hSw; obtain ⟨c0, c1, c2, -, -⟩ := B7.out.later (After.trans (After.drew (After.refl _)) hSw); obtain ⟨r0, r1, r2, -, -, -⟩ := row_facts (row_later R7.out (After.trans (After.drew (After.refl _)) hSw) (row_lt R7.out)); go_simp; try with_reducible rfl)
        try simp only [Act.put, List.getElem_toArray, List.getElem_cons_succ, List.getElem_cons_zero, List.setIfInBounds_toArray, List.set_cons_zero, List.set_cons_succ]
        refine Script.call (i := 47) (v := ?_) rfl (by kernel_rfl) (by kernel_rfl) (fun _ _ _ h => h) (by kernel_rfl) ?_ ?_
        rotate_left
        · (intro wS hSw K hK; obtain ⟨c0, c1, c2, -, -⟩ := B7.out.later (After.trans (After.drew (After.refl _)) hSw); obtain ⟨r0, r1, r2, -, -, -⟩ := row_facts (row_later R7.out (After.trans (After.drew (After.refl _)) hSw) (row_lt R7.out)); go_simp; go_at_call 68; refine (K10.out _ _ _ (ints_own (own_below X7.out (After.trans (After.drew (After.refl _)) hSw)) HN.out)).mono ?_; rintro e wc ⟨rfl, hbc⟩; exact hK.out _ hbc)
        try simp only [Act.put, List.getElem_toArray, List.getElem_cons_succ, List.getElem_cons_zero, List.setIfInBounds_toArray, List.set_cons_zero, List.set_cons_succ]
        refine Script.load (i := 48) (v := ?_) rfl (by kernel_rfl) (by kernel_rfl) (fun _ _ _ h => h) (by kernel_rfl) ?_ ?_
        rotate_left
        · (intro wS hSw; obtain ⟨c0, c1, c2, -, -⟩ := B7.out.later (After.trans (After.drew (After.refl _)) hSw); obtain ⟨r0, r1, r2, -, -, -⟩ := row_facts (row_later R7.out (After.trans (After.drew (After.refl _)) hSw) (row_lt R7.out)); go_simp; try with_reducible rfl)
        try simp only [Act.put, List.getElem_toArray, List.getElem_cons_succ, List.getElem_cons_zero, List.setIfInBounds_toArray, List.set_cons_zero, List.set_cons_succ]
        refine Script.load (i := 49) (v := ?_) rfl (by kernel_rfl) (by kernel_rfl) (fun _ _ _ h => h) (by kernel_rfl) ?_ ?_
        rotate_left
        · (intro wS hSw; obtain ⟨c0, c1, c2, -, -⟩ := B7.out.later (After.trans (After.drew (After.refl _)) hSw); obtain ⟨r0, r1, r2, -, -, -⟩ := row_facts (row_later R7.out (After.trans (After.drew (After.refl _)) hSw) (row_lt R7.out)); go_simp; try with_reducible rfl)
        try simp only [Act.put, List.getElem_toArray, List.getElem_cons_succ, List.getElem_cons_zero, List.setIfInBounds_toArray, List.set_cons_zero, List.set_cons_succ]
        refine Script.load (i := 50) (v := ?_) rfl (by kernel_rfl) (by kernel_rfl) (fun _ _ _ h => h) (by kernel_rfl) ?_ ?_
        rotate_left
        · (intro wS hSw; obtain ⟨c0, c1, c2, -, -⟩ := B7.out.later (After.trans (After.drew (After.refl _)) hSw); obtain ⟨r0, r1, r2, -, -, -⟩ := row_facts (row_later R7.out (After.trans (After.drew (After.refl _)) hSw) (row_lt R7.out)); go_simp; try with_reducible rfl)
        try simp only [Act.put, List.getElem_toArray, List.getElem_cons_succ, List.getElem_cons_zero, List.setIfInBounds_toArray, List.set_cons_zero, List.set_cons_succ]
        refine Script.done (by kernel_rfl) ?_
        intro wD hD hG
        have hb7 := After.trans (After.drew (After.refl w7)) hD
        have HF := Lib.hid (HB1.out.trans ((B7.out.later hb7).2.2.2.2.mono hsz))
        clear hb7 hD hG B7 X7 R7
        go_wp2_with fail
        go_ret
        exact ⟨rfl, HF.out⟩
  · obtain rfl : fb = false := HFB.out
    have hbl : Below w4.heap.size w4 (w4.alloc (.cells #[.int .i64 xf, .int .i64 xp, .int .i64 xt] 31)) := (Below.refl _ _).alloc (Nat.le_refl _) _
    have B3 := Lib.hid (B2.out.later hbl)
    have X3 := Lib.hid (own_below X2.out hbl)
    have R3 := Lib.hid (heap_alloc_new w4 (.cells #[.int .i64 xf, .int .i64 xp, .int .i64 xt] 31))
    have P3 : Hid (w4.heap.size < (w4.alloc (.cells #[.int .i64 xf, .int .i64 xp, .int .i64 xt] 31)).heap.size) := by unfold Hid; simp
    obtain ⟨c0, c1, c2, hlt, hbw⟩ := B3.out
    clear hbl B2 X2
    unfold lineV
    go_wp2_with fail
    clear c0 c1 c2 hlt hbw
    generalize w4.alloc (.cells #[.int .i64 xf, .int .i64 xp, .int .i64 xt] 31) = w5 at *
    generalize w4.heap.size = Q at *
    refine (K3.out _).mono ?_
    rintro e w6 ⟨lvv, rfl, hh, hb⟩
    rw [HM.out] at hh
    obtain ⟨la, lc, rfl⟩ := lines_form hh
    have B6 := Lib.hid (B3.out.later hb)
    have X6 := Lib.hid (own_below X3.out hb)
    have R6 := Lib.hid (row_later R3.out hb P3.out)
    have P6 := Lib.hid (Nat.lt_of_lt_of_le P3.out hb.size)
    have L6 := Lib.hid hh
    generalize w5.heap.size = L0 at *
    clear hb hh B3 X3 R3 P3 K3
    go_upto_block 0 with fail
    go_cut [9, 10, 11] from 32 to 108 (fun s9 s10 s11 wx => Hid (Box w1.heap.size W H z w1 wx) ∧ Hid (wx.ownsRow w.heap.size 3 1 (.slice ga N gc) N (iv xs)) ∧ Hid (wx.heap[Q]? = some (.cells #[.int .i64 xf, .int .i64 xp, .int .i64 xt] 31 (0, 0))))
    case first =>
      go_wp2_with fail
      go_loopw [9] (fun i wr => ∃ j : Nat, j ≤ m ∧ i = .int .i64 j ∧ Hid (Box w1.heap.size W H z w1 wr) ∧ Hid (wr.ownsRow w.heap.size 3 1 (.slice ga N gc) N (iv xs)) ∧ Hid (wr.heap[Q]? = some (.cells #[.int .i64 xf, .int .i64 xp, .int .i64 xt] 31 (0, 0))) ∧ Hid (wr.ownsRow L0 31 3 (.slice la m lc) m (lv ls))) (fun i _ => m - (intOf i).toNat)
      case atStart => exact ⟨0, Nat.zero_le _, rfl, B6, X6, R6, L6⟩
      case round =>
        clear B6 X6 R6 L6 P6
        obtain ⟨j, hj, rfl, B0, X0, R0, L0'⟩ := hrel
        by_cases hjm : j < m
        · have j0 : (0 : Int) ≤ (j : Int) := by omega
          have j1 : (j : Int) < (m : Int) := by omega
          obtain ⟨⟨lf, lo, lt⟩, hl⟩ : ∃ l, ls[j]? = some l := ⟨_, List.getElem?_eq_getElem (by rw [HM.out]; exact hjm)⟩
          obtain ⟨f, o, t, rfl, rfl, rfl, hf, hoo, ht, hloss, hs1, hs2, hge⟩ := HLN.out _ _ _ (List.mem_of_getElem? hl)
          obtain ⟨gl, rfl⟩ := lines_at' L0'.out (by omega)
          have CL : Hid (∀ w : World, w.ownsRow L0 31 3 (.slice (some ⟨gl, 0, none⟩) m lc) m (lv ls) → w.cell? ⟨gl, j * 3, none⟩ = some (.int .i64 (f : Int)) ∧ w.cell? ⟨gl, j * 3 + 1, none⟩ = some (.int .i64 (o : Int)) ∧ w.cell? ⟨gl, j * 3 + 2, none⟩ = some (.int .i64 (t : Int))) := fun w hh => line_cells hh HM.out hl
          obtain ⟨g, rfl⟩ := lines_at' X0.out (by omega)
          have g1 := HGE.out f hf
          have g2 := HGE.out o hoo
          have g3 := HGE.out t ht
          obtain ⟨x1, x2⟩ := HWB.out f
          obtain ⟨y1, y2⟩ := HWB.out o
          obtain ⟨u1, u2⟩ := HWB.out t
          have KL := Lib.hid (K4.out (f : Int) (o : Int) (t : Int))
          rw [hloss] at KL
          obtain ⟨qf, hqf, hqf', qf1, qf2⟩ := pow_nat f (by omega)
          obtain ⟨qo, hqo, hqo', qo1, qo2⟩ := pow_nat o (by omega)
          obtain ⟨qt, hqt, hqt', qt1, qt2⟩ := pow_nat t (by omega)
          rw [hqf', hqo'] at hs1
          rw [hqt'] at hs2
          rw [Int.natCast_add] at hs1
          have KM := Lib.hid (K5.out ((qf : Int) + (qo : Int)) (by omega))
          have KT := Lib.hid (K5.out ((qt : Nat) : Int) (by omega))
          rw [hs1] at KM
          rw [hs2] at KT
          generalize wAt xs f = x at *
          generalize wAt xs o = yy at *
          generalize wAt xs t = u at *
          have CX : Hid (∀ w' : World, w'.ownsRow w.heap.size 3 1 (.slice (some ⟨g, 0, none⟩) N gc) N (iv xs) → w'.cell? ⟨g, f, none⟩ = some (.int .i64 x) ∧ w'.cell? ⟨g, o, none⟩ = some (.int .i64 yy) ∧ w'.cell? ⟨g, t, none⟩ = some (.int .i64 u)) := fun w hh => ⟨own_cell hh f hf _ (by simp [iv, g1]), own_cell hh o hoo _ (by simp [iv, g2]), own_cell hh t ht _ (by simp [iv, g3])⟩
          have f0 : (0 : Int) ≤ (f : Int) := by omega
          have f1 : (f : Int) < (N : Int) := by omega
          have o0 : (0 : Int) ≤ (o : Int) := by omega
          have o1 : (o : Int) < (N : Int) := by omega
          have t0 : (0 : Int) ≤ (t : Int) := by omega
          have t1 : (t : Int) < (N : Int) := by omega
          clear hl g1 g2 g3 hloss hs1 hs2 hqf' hqo' hqt'
          go_wp2_with fail
          refine wp_region_script (by kernel_rfl) (by kernel_rfl) ?_
          refine Script.load (i := 0) (v := ?_) rfl (by kernel_rfl) (by kernel_rfl) (fun _ _ _ h => h) (by kernel_rfl) ?_ ?_
          rotate_left
          · (intro wS hSw; obtain ⟨c0, c1, c2, -, -⟩ := B0.out.later (After.trans (After.drew (After.refl _)) hSw); obtain ⟨l0, l1, l2⟩ := CL.out _ (own_below L0'.out (After.trans (After.drew (After.refl _)) hSw)); go_simp; try with_reducible rfl)
          try simp only [Act.put, List.getElem_toArray, List.getElem_cons_succ, List.getElem_cons_zero, List.setIfInBounds_toArray, List.set_cons_zero, List.set_cons_succ]
          refine Script.load (i := 1) (v := ?_) rfl (by kernel_rfl) (by kernel_rfl) (fun _ _ _ h => h) (by kernel_rfl) ?_ ?_
          rotate_left
          · (intro wS hSw; obtain ⟨c0, c1, c2, -, -⟩ := B0.out.later (After.trans (After.drew (After.refl _)) hSw); obtain ⟨l0, l1, l2⟩ := CL.out _ (own_below L0'.out (After.trans (After.drew (After.refl _)) hSw)); go_simp; try with_reducible rfl)
          try simp only [Act.put, List.getElem_toArray, List.getElem_cons_succ, List.getElem_cons_zero, List.setIfInBounds_toArray, List.set_cons_zero, List.set_cons_succ]
          refine Script.load (i := 2) (v := ?_) rfl (by kernel_rfl) (by kernel_rfl) (fun _ _ _ h => h) (by kernel_rfl) ?_ ?_
          rotate_left
          · (intro wS hSw; obtain ⟨c0, c1, c2, -, -⟩ := B0.out.later (After.trans (After.drew (After.refl _)) hSw); obtain ⟨l0, l1, l2⟩ := CL.out _ (own_below L0'.out (After.trans (After.drew (After.refl _)) hSw)); go_simp; try with_reducible rfl)
          try simp only [Act.put, List.getElem_toArray, List.getElem_cons_succ, List.getElem_cons_zero, List.setIfInBounds_toArray, List.set_cons_zero, List.set_cons_succ]
          refine Script.load (i := 3) (v := ?_) rfl (by kernel_rfl) (by kernel_rfl) (fun _ _ _ h => h) (by kernel_rfl) ?_ ?_
          rotate_left
          · (intro wS hSw; obtain ⟨c0, c1, c2, -, -⟩ := B0.out.later (After.trans (After.drew (After.refl _)) hSw); obtain ⟨l0, l1, l2⟩ := CL.out _ (own_below L0'.out (After.trans (After.drew (After.refl _)) hSw)); go_simp; try with_reducible rfl)
          try simp only [Act.put, List.getElem_toArray, List.getElem_cons_succ, List.getElem_cons_zero, List.setIfInBounds_toArray, List.set_cons_zero, List.set_cons_succ]
          refine Script.load (i := 4) (v := ?_) rfl (by kernel_rfl) (by kernel_rfl) (fun _ _ _ h => h) (by kernel_rfl) ?_ ?_
          rotate_left
          · (intro wS hSw; obtain ⟨c0, c1, c2, -, -⟩ := B0.out.later (After.trans (After.drew (After.refl _)) hSw); obtain ⟨l0, l1, l2⟩ := CL.out _ (own_below L0'.out (After.trans (After.drew (After.refl _)) hSw)); go_simp; try with_reducible rfl)
          try simp only [Act.put, List.getElem_toArray, List.getElem_cons_succ, List.getElem_cons_zero, List.setIfInBounds_toArray, List.set_cons_zero, List.set_cons_succ]
          refine Script.load (i := 5) (v := ?_) rfl (by kernel_rfl) (by kernel_rfl) (fun _ _ _ h => h) (by kernel_rfl) ?_ ?_
          rotate_left
          · (intro wS hSw; obtain ⟨c0, c1, c2, -, -⟩ := B0.out.later (After.trans (After.drew (After.refl _)) hSw); obtain ⟨l0, l1, l2⟩ := CL.out _ (own_below L0'.out (After.trans (After.drew (After.refl _)) hSw)); go_simp; try with_reducible rfl)
          try simp only [Act.put, List.getElem_toArray, List.getElem_cons_succ, List.getElem_cons_zero, List.setIfInBounds_toArray, List.set_cons_zero, List.set_cons_succ]
          refine Script.call (i := 6) (v := ?_) rfl (by kernel_rfl) (by kernel_rfl) (fun _ _ _ h => h) (by kernel_rfl) ?_ ?_
          rotate_left
          · (intro wS hSw K hK; obtain ⟨c0, c1, c2, -, -⟩ := B0.out.later (After.trans (After.drew (After.refl _)) hSw); obtain ⟨l0, l1, l2⟩ := CL.out _ (own_below L0'.out (After.trans (After.drew (After.refl _)) hSw)); go_simp; go_at_call 67; refine (KL.out _ _ _ (ints_own (own_below X0.out (After.trans (After.drew (After.refl _)) hSw)) HN.out)).mono ?_; rintro e wc ⟨rfl, hbc⟩; exact hK.out _ hbc)
          try simp only [Act.put, List.getElem_toArray, List.getElem_cons_succ, List.getElem_cons_zero, List.setIfInBounds_toArray, List.set_cons_zero, List.set_cons_succ]
          refine Script.load (i := 7) (v := ?_) rfl (by kernel_rfl) (by kernel_rfl) (fun _ _ _ h => h) (by kernel_rfl) ?_ ?_
          rotate_left
          · (intro wS hSw; obtain ⟨c0, c1, c2, -, -⟩ := B0.out.later (After.trans (After.drew (After.refl _)) hSw); obtain ⟨l0, l1, l2⟩ := CL.out _ (own_below L0'.out (After.trans (After.drew (After.refl _)) hSw)); go_simp; try with_reducible rfl)
          try simp only [Act.put, List.getElem_toArray, List.getElem_cons_succ, List.getElem_cons_zero, List.setIfInBounds_toArray, List.set_cons_zero, List.set_cons_succ]
          refine Script.done (by kernel_rfl) ?_
          intro wD hD hG
          have hb7 := After.trans (After.drew (After.refl wr)) hD
          have B1 := Lib.hid (B0.out.later hb7)
          have X1 := Lib.hid (own_below X0.out hb7)
          have R1 := Lib.hid (row_later R0.out hb7 (row_lt R0.out))
          have L1 := Lib.hid (own_below L0'.out hb7)
          clear hb7 hD hG B0 X0 R0 L0' KL
          obtain ⟨l0, l1, l2⟩ := CL.out _ L1.out
          obtain ⟨e0, e1, e2⟩ := CX.out _ X1.out
          skip
          go_wp2_with fail
          go_quiet (fail)
          have B2 := Lib.hid (B1.out.later (below_drewN nq (Below.refl _ _)))
          have X2 : Hid ((wD.drewN nq).ownsRow w.heap.size 3 1 (.slice (some ⟨g, 0, none⟩) N gc) N (iv xs)) := X1.out
          have R2 : Hid ((wD.drewN nq).heap[Q]? = some (.cells #[.int .i64 xf, .int .i64 xp, .int .i64 xt] 31 (0, 0))) := R1.out
          have L2 : Hid ((wD.drewN nq).ownsRow L0 31 3 (.slice (some ⟨gl, 0, none⟩) m lc) m (lv ls)) := L1.out
          clear B1 X1 R1 L1 l0 l1 l2 e0 e1 e2
          generalize wD.drewN nq = wE at *
          obtain ⟨l0, l1, l2⟩ := CL.out _ L2.out
          go_wp2_with fail
          go_quiet (fail)
          have B3 := Lib.hid (B2.out.later (below_drewN nq (Below.refl _ _)))
          have X3 : Hid ((wE.drewN nq).ownsRow w.heap.size 3 1 (.slice (some ⟨g, 0, none⟩) N gc) N (iv xs)) := X2.out
          have R3 : Hid ((wE.drewN nq).heap[Q]? = some (.cells #[.int .i64 xf, .int .i64 xp, .int .i64 xt] 31 (0, 0))) := R2.out
          have L3 : Hid ((wE.drewN nq).ownsRow L0 31 3 (.slice (some ⟨gl, 0, none⟩) m lc) m (lv ls)) := L2.out
          clear B2 X2 R2 L2 l0 l1 l2
          generalize wE.drewN nq = wF at *
          go_wp2_with fail
          have hwq : IntKind.i64.wrap (qt : Int) = (qt : Int) := IntWalk.i64_in _ (by omega)
          have hws : IntKind.i64.wrap (x + yy - u) = x + yy - u := IntWalk.i64_in _ (by omega)
          refine wp_region_script (by kernel_rfl) (by kernel_rfl) ?_
          refine Script.load (i := 0) (v := ?_) rfl (by kernel_rfl) (by kernel_rfl) (fun _ _ _ h => h) (by kernel_rfl) ?_ ?_
          rotate_left
          · (intro wS hSw; obtain ⟨c0, c1, c2, -, -⟩ := B3.out.later (After.trans (After.drew (After.refl _)) hSw); obtain ⟨l0, l1, l2⟩ := CL.out _ (own_below L3.out (After.trans (After.drew (After.refl _)) hSw)); go_simp; try with_reducible rfl)
          try simp only [Act.put, List.getElem_toArray, List.getElem_cons_succ, List.getElem_cons_zero, List.setIfInBounds_toArray, List.set_cons_zero, List.set_cons_succ]
          refine Script.load (i := 1) (v := ?_) rfl (by kernel_rfl) (by kernel_rfl) (fun _ _ _ h => h) (by kernel_rfl) ?_ ?_
          rotate_left
          · (intro wS hSw; obtain ⟨c0, c1, c2, -, -⟩ := B3.out.later (After.trans (After.drew (After.refl _)) hSw); obtain ⟨l0, l1, l2⟩ := CL.out _ (own_below L3.out (After.trans (After.drew (After.refl _)) hSw)); go_simp; try with_reducible rfl)
          try simp only [Act.put, List.getElem_toArray, List.getElem_cons_succ, List.getElem_cons_zero, List.setIfInBounds_toArray, List.set_cons_zero, List.set_cons_succ]
          refine Script.load (i := 2) (v := ?_) rfl (by kernel_rfl) (by kernel_rfl) (fun _ _ _ h => h) (by kernel_rfl) ?_ ?_
          rotate_left
          · (intro wS hSw; obtain ⟨c0, c1, c2, -, -⟩ := B3.out.later (After.trans (After.drew (After.refl _)) hSw); obtain ⟨l0, l1, l2⟩ := CL.out _ (own_below L3.out (After.trans (After.drew (After.refl _)) hSw)); go_simp; try with_reducible rfl)
          try simp only [Act.put, List.getElem_toArray, List.getElem_cons_succ, List.getElem_cons_zero, List.setIfInBounds_toArray, List.set_cons_zero, List.set_cons_succ]
          refine Script.call (i := 3) (v := ?_) rfl (by kernel_rfl) (by kernel_rfl) (fun _ _ _ h => h) (by kernel_rfl) ?_ ?_
          rotate_left
          · (intro wS hSw K hK; obtain ⟨c0, c1, c2, -, -⟩ := B3.out.later (After.trans (After.drew (After.refl _)) hSw); obtain ⟨l0, l1, l2⟩ := CL.out _ (own_below L3.out (After.trans (After.drew (After.refl _)) hSw)); go_simp; go_at_call 68; refine (KM.out _ _ _ (ints_own (own_below X3.out (After.trans (After.drew (After.refl _)) hSw)) HN.out)).mono ?_; rintro e wc ⟨rfl, hbc⟩; exact hK.out _ hbc)
          try simp only [Act.put, List.getElem_toArray, List.getElem_cons_succ, List.getElem_cons_zero, List.setIfInBounds_toArray, List.set_cons_zero, List.set_cons_succ]
          refine Script.load (i := 4) (v := ?_) rfl (by kernel_rfl) (by kernel_rfl) (fun _ _ _ h => h) (by kernel_rfl) ?_ ?_
          rotate_left
          · (intro wS hSw; obtain ⟨c0, c1, c2, -, -⟩ := B3.out.later (After.trans (After.drew (After.refl _)) hSw); obtain ⟨l0, l1, l2⟩ := CL.out _ (own_below L3.out (After.trans (After.drew (After.refl _)) hSw)); go_simp; try with_reducible rfl)
          try simp only [Act.put, List.getElem_toArray, List.getElem_cons_succ, List.getElem_cons_zero, List.setIfInBounds_toArray, List.set_cons_zero, List.set_cons_succ]
          refine Script.load (i := 5) (v := ?_) rfl (by kernel_rfl) (by kernel_rfl) (fun _ _ _ h => h) (by kernel_rfl) ?_ ?_
          rotate_left
          · (intro wS hSw; obtain ⟨c0, c1, c2, -, -⟩ := B3.out.later (After.trans (After.drew (After.refl _)) hSw); obtain ⟨l0, l1, l2⟩ := CL.out _ (own_below L3.out (After.trans (After.drew (After.refl _)) hSw)); go_simp; try with_reducible rfl)
          try simp only [Act.put, List.getElem_toArray, List.getElem_cons_succ, List.getElem_cons_zero, List.setIfInBounds_toArray, List.set_cons_zero, List.set_cons_succ]
          refine Script.load (i := 6) (v := ?_) rfl (by kernel_rfl) (by kernel_rfl) (fun _ _ _ h => h) (by kernel_rfl) ?_ ?_
          rotate_left
          · (intro wS hSw; obtain ⟨c0, c1, c2, -, -⟩ := B3.out.later (After.trans (After.drew (After.refl _)) hSw); obtain ⟨l0, l1, l2⟩ := CL.out _ (own_below L3.out (After.trans (After.drew (After.refl _)) hSw)); go_simp; try with_reducible rfl)
          try simp only [Act.put, List.getElem_toArray, List.getElem_cons_succ, List.getElem_cons_zero, List.setIfInBounds_toArray, List.set_cons_zero, List.set_cons_succ]
          refine Script.load (i := 7) (v := ?_) rfl (by kernel_rfl) (by kernel_rfl) (fun _ _ _ h => h) (by kernel_rfl) ?_ ?_
          rotate_left
          · (intro wS hSw; obtain ⟨c0, c1, c2, -, -⟩ := B3.out.later (After.trans (After.drew (After.refl _)) hSw); obtain ⟨l0, l1, l2⟩ := CL.out _ (own_below L3.out (After.trans (After.drew (After.refl _)) hSw)); go_simp; try with_reducible rfl)
          try simp only [Act.put, List.getElem_toArray, List.getElem_cons_succ, List.getElem_cons_zero, List.setIfInBounds_toArray, List.set_cons_zero, List.set_cons_succ]
          refine Script.load (i := 8) (v := ?_) rfl (by kernel_rfl) (by kernel_rfl) (fun _ _ _ h => h) (by kernel_rfl) ?_ ?_
          rotate_left
          · (intro wS hSw; obtain ⟨c0, c1, c2, -, -⟩ := B3.out.later (After.trans (After.drew (After.refl _)) hSw); obtain ⟨l0, l1, l2⟩ := CL.out _ (own_below L3.out (After.trans (After.drew (After.refl _)) hSw)); go_simp; try with_reducible rfl)
          try simp only [Act.put, List.getElem_toArray, List.getElem_cons_succ, List.getElem_cons_zero, List.setIfInBounds_toArray, List.set_cons_zero, List.set_cons_succ]
          refine Script.load (i := 9) (v := ?_) rfl (by kernel_rfl) (by kernel_rfl) (fun _ _ _ h => h) (by kernel_rfl) ?_ ?_
          rotate_left
          · (intro wS hSw; obtain ⟨c0, c1, c2, -, -⟩ := B3.out.later (After.trans (After.drew (After.refl _)) hSw); obtain ⟨l0, l1, l2⟩ := CL.out _ (own_below L3.out (After.trans (After.drew (After.refl _)) hSw)); go_simp; try with_reducible rfl)
          try simp only [Act.put, List.getElem_toArray, List.getElem_cons_succ, List.getElem_cons_zero, List.setIfInBounds_toArray, List.set_cons_zero, List.set_cons_succ]
          refine Script.load (i := 10) (v := ?_) rfl (by kernel_rfl) (by kernel_rfl) (fun _ _ _ h => h) (by kernel_rfl) ?_ ?_
          rotate_left
          · (intro wS hSw; obtain ⟨c0, c1, c2, -, -⟩ := B3.out.later (After.trans (After.drew (After.refl _)) hSw); obtain ⟨l0, l1, l2⟩ := CL.out _ (own_below L3.out (After.trans (After.drew (After.refl _)) hSw)); go_simp; try with_reducible rfl)
          try simp only [Act.put, List.getElem_toArray, List.getElem_cons_succ, List.getElem_cons_zero, List.setIfInBounds_toArray, List.set_cons_zero, List.set_cons_succ]
          refine Script.load (i := 11) (v := ?_) rfl (by kernel_rfl) (by kernel_rfl) (fun _ _ _ h => h) (by kernel_rfl) ?_ ?_
          rotate_left
          · (intro wS hSw; obtain ⟨c0, c1, c2, -, -⟩ := B3.out.later (After.trans (After.drew (After.refl _)) hSw); obtain ⟨l0, l1, l2⟩ := CL.out _ (own_below L3.out (After.trans (After.drew (After.refl _)) hSw)); go_simp; try with_reducible rfl)
          try simp only [Act.put, List.getElem_toArray, List.getElem_cons_succ, List.getElem_cons_zero, List.setIfInBounds_toArray, List.set_cons_zero, List.set_cons_succ]
          refine Script.call (i := 12) (v := ?_) rfl (by kernel_rfl) (by kernel_rfl) (fun _ _ _ h => h) (by kernel_rfl) ?_ ?_
          rotate_left
          · (intro wS hSw K hK; obtain ⟨c0, c1, c2, -, -⟩ := B3.out.later (After.trans (After.drew (After.refl _)) hSw); obtain ⟨l0, l1, l2⟩ := CL.out _ (own_below L3.out (After.trans (After.drew (After.refl _)) hSw)); go_simp; go_at_call 68; refine (KT.out _ _ _ (ints_own (own_below X3.out (After.trans (After.drew (After.refl _)) hSw)) HN.out)).mono ?_; rintro e wc ⟨rfl, hbc⟩; exact hK.out _ hbc)
          try simp only [Act.put, List.getElem_toArray, List.getElem_cons_succ, List.getElem_cons_zero, List.setIfInBounds_toArray, List.set_cons_zero, List.set_cons_succ]
          refine Script.load (i := 13) (v := ?_) rfl (by kernel_rfl) (by kernel_rfl) (fun _ _ _ h => h) (by kernel_rfl) ?_ ?_
          rotate_left
          · (intro wS hSw; obtain ⟨c0, c1, c2, -, -⟩ := B3.out.later (After.trans (After.drew (After.refl _)) hSw); obtain ⟨l0, l1, l2⟩ := CL.out _ (own_below L3.out (After.trans (After.drew (After.refl _)) hSw)); go_simp; try with_reducible rfl)
          try simp only [Act.put, List.getElem_toArray, List.getElem_cons_succ, List.getElem_cons_zero, List.setIfInBounds_toArray, List.set_cons_zero, List.set_cons_succ]
          refine Script.load (i := 14) (v := ?_) rfl (by kernel_rfl) (by kernel_rfl) (fun _ _ _ h => h) (by kernel_rfl) ?_ ?_
          rotate_left
          · (intro wS hSw; obtain ⟨c0, c1, c2, -, -⟩ := B3.out.later (After.trans (After.drew (After.refl _)) hSw); obtain ⟨l0, l1, l2⟩ := CL.out _ (own_below L3.out (After.trans (After.drew (After.refl _)) hSw)); go_simp; try with_reducible rfl)
          try simp only [Act.put, List.getElem_toArray, List.getElem_cons_succ, List.getElem_cons_zero, List.setIfInBounds_toArray, List.set_cons_zero, List.set_cons_succ]
          refine Script.load (i := 15) (v := ?_) rfl (by kernel_rfl) (by kernel_rfl) (fun _ _ _ h => h) (by kernel_rfl) ?_ ?_
          rotate_left
          · (intro wS hSw; obtain ⟨c0, c1, c2, -, -⟩ := B3.out.later (After.trans (After.drew (After.refl _)) hSw); obtain ⟨l0, l1, l2⟩ := CL.out _ (own_below L3.out (After.trans (After.drew (After.refl _)) hSw)); go_simp; try with_reducible rfl)
          try simp only [Act.put, List.getElem_toArray, List.getElem_cons_succ, List.getElem_cons_zero, List.setIfInBounds_toArray, List.set_cons_zero, List.set_cons_succ]
          refine Script.done (by kernel_rfl) ?_
          intro wD hD hG
          have hb7 := After.trans (After.drew (After.refl wF)) hD
          have B4 := Lib.hid (B3.out.later hb7)
          have X4 := Lib.hid (own_below X3.out hb7)
          have R4 := Lib.hid (row_later R3.out hb7 (row_lt R3.out))
          have L4 := Lib.hid (own_below L3.out hb7)
          clear hb7 hD hG B3 X3 R3 L3 KM KT CL CX
          go_wp2_with fail
          go_roundw
          case rel => exact ⟨j + 1, by omega, by go_num, B4, X4, R4, L4⟩
          case measure => simp [intOf]; omega
        · obtain rfl : j = m := by omega
          have j1 : ¬ (j : Int) < (j : Int) := by omega
          go_wp2_with fail
          go_meet
          exact ⟨B0, X0, R0⟩
    case rest =>
      clear B6 X6 R6 L6 P6
      obtain ⟨B6, X6, R6⟩ := hcut
      obtain ⟨c0, c1, c2, hlt, hbw⟩ := B6.out
      go_wp2_with fail
      refine (K6.out _ _ _ (ints_own X6.out HN.out)).mono ?_
      rintro e w7 ⟨vv, rfl, hh, hb⟩
      have B7 := Lib.hid (B6.out.later hb)
      have X7 := Lib.hid (own_below X6.out hb)
      have R7 := Lib.hid (row_later R6.out hb (row_lt R6.out))
      have V7 := Lib.hid hh
      clear hb hh B6 X6 R6 c0 c1 c2 hlt hbw K6
      have hr0 := HBR.out _ rfl
      have KX := Lib.hid (K4.out xf xp xt)
      generalize lossB W H z xs (xf, xp, xt) = r at *
      cases y
      · clear K8 K9 V7 HAD HAK HSZ
        go_wp2_with fail
        refine wp_region_script (by kernel_rfl) (by kernel_rfl) ?_
        refine Script.load (i := 0) (v := ?_) rfl (by kernel_rfl) (by kernel_rfl) (fun _ _ _ h => h) (by kernel_rfl) ?_ ?_
        rotate_left
        · (intro wS hSw; obtain ⟨c0, c1, c2, -, -⟩ := B7.out.later (After.trans (After.drew (After.refl _)) hSw); obtain ⟨r0, r1, r2, -, -, -⟩ := row_facts (row_later R7.out (After.trans (After.drew (After.refl _)) hSw) (row_lt R7.out)); go_simp; try with_reducible rfl)
        try simp only [Act.put, List.getElem_toArray, List.getElem_cons_succ, List.getElem_cons_zero, List.setIfInBounds_toArray, List.set_cons_zero, List.set_cons_succ]
        refine Script.load (i := 1) (v := ?_) rfl (by kernel_rfl) (by kernel_rfl) (fun _ _ _ h => h) (by kernel_rfl) ?_ ?_
        rotate_left
        · (intro wS hSw; obtain ⟨c0, c1, c2, -, -⟩ := B7.out.later (After.trans (After.drew (After.refl _)) hSw); obtain ⟨r0, r1, r2, -, -, -⟩ := row_facts (row_later R7.out (After.trans (After.drew (After.refl _)) hSw) (row_lt R7.out)); go_simp; try with_reducible rfl)
        try simp only [Act.put, List.getElem_toArray, List.getElem_cons_succ, List.getElem_cons_zero, List.setIfInBounds_toArray, List.set_cons_zero, List.set_cons_succ]
        refine Script.call (i := 2) (v := ?_) rfl (by kernel_rfl) (by kernel_rfl) (fun _ _ _ h => h) (by kernel_rfl) ?_ ?_
        rotate_left
        · (intro wS hSw K hK; obtain ⟨c0, c1, c2, -, -⟩ := B7.out.later (After.trans (After.drew (After.refl _)) hSw); obtain ⟨r0, r1, r2, -, -, -⟩ := row_facts (row_later R7.out (After.trans (After.drew (After.refl _)) hSw) (row_lt R7.out)); go_simp; go_at_call 70; refine (K7.out _ _ _ (ints_own (own_below X7.out (After.trans (After.drew (After.refl _)) hSw)) HN.out)).mono ?_; rintro e wc ⟨rfl, hbc⟩; exact hK.out _ hbc)
        try simp only [Act.put, List.getElem_toArray, List.getElem_cons_succ, List.getElem_cons_zero, List.setIfInBounds_toArray, List.set_cons_zero, List.set_cons_succ]
        refine Script.load (i := 3) (v := ?_) rfl (by kernel_rfl) (by kernel_rfl) (fun _ _ _ h => h) (by kernel_rfl) ?_ ?_
        rotate_left
        · (intro wS hSw; obtain ⟨c0, c1, c2, -, -⟩ := B7.out.later (After.trans (After.drew (After.refl _)) hSw); obtain ⟨r0, r1, r2, -, -, -⟩ := row_facts (row_later R7.out (After.trans (After.drew (After.refl _)) hSw) (row_lt R7.out)); go_simp; try with_reducible rfl)
        try simp only [Act.put, List.getElem_toArray, List.getElem_cons_succ, List.getElem_cons_zero, List.setIfInBounds_toArray, List.set_cons_zero, List.set_cons_succ]
        refine Script.load (i := 4) (v := ?_) rfl (by kernel_rfl) (by kernel_rfl) (fun _ _ _ h => h) (by kernel_rfl) ?_ ?_
        rotate_left
        · (intro wS hSw; obtain ⟨c0, c1, c2, -, -⟩ := B7.out.later (After.trans (After.drew (After.refl _)) hSw); obtain ⟨r0, r1, r2, -, -, -⟩ := row_facts (row_later R7.out (After.trans (After.drew (After.refl _)) hSw) (row_lt R7.out)); go_simp; try with_reducible rfl)
        try simp only [Act.put, List.getElem_toArray, List.getElem_cons_succ, List.getElem_cons_zero, List.setIfInBounds_toArray, List.set_cons_zero, List.set_cons_succ]
        refine Script.load (i := 5) (v := ?_) rfl (by kernel_rfl) (by kernel_rfl) (fun _ _ _ h => h) (by kernel_rfl) ?_ ?_
        rotate_left
        · (intro wS hSw; obtain ⟨c0, c1, c2, -, -⟩ := B7.out.later (After.trans (After.drew (After.refl _)) hSw); obtain ⟨r0, r1, r2, -, -, -⟩ := row_facts (row_later R7.out (After.trans (After.drew (After.refl _)) hSw) (row_lt R7.out)); go_simp; try with_reducible rfl)
        try simp only [Act.put, List.getElem_toArray, List.getElem_cons_succ, List.getElem_cons_zero, List.setIfInBounds_toArray, List.set_cons_zero, List.set_cons_succ]
        refine Script.load (i := 6) (v := ?_) rfl (by kernel_rfl) (by kernel_rfl) (fun _ _ _ h => h) (by kernel_rfl) ?_ ?_
        rotate_left
        · (intro wS hSw; obtain ⟨c0, c1, c2, -, -⟩ := B7.out.later (After.trans (After.drew (After.refl _)) hSw); obtain ⟨r0, r1, r2, -, -, -⟩ := row_facts (row_later R7.out (After.trans (After.drew (After.refl _)) hSw) (row_lt R7.out)); go_simp; try with_reducible rfl)
        try simp only [Act.put, List.getElem_toArray, List.getElem_cons_succ, List.getElem_cons_zero, List.setIfInBounds_toArray, List.set_cons_zero, List.set_cons_succ]
        refine Script.load (i := 7) (v := ?_) rfl (by kernel_rfl) (by kernel_rfl) (fun _ _ _ h => h) (by kernel_rfl) ?_ ?_
        rotate_left
        · (intro wS hSw; obtain ⟨c0, c1, c2, -, -⟩ := B7.out.later (After.trans (After.drew (After.refl _)) hSw); obtain ⟨r0, r1, r2, -, -, -⟩ := row_facts (row_later R7.out (After.trans (After.drew (After.refl _)) hSw) (row_lt R7.out)); go_simp; try with_reducible rfl)
        try simp only [Act.put, List.getElem_toArray, List.getElem_cons_succ, List.getElem_cons_zero, List.setIfInBounds_toArray, List.set_cons_zero, List.set_cons_succ]
        refine Script.load (i := 8) (v := ?_) rfl (by kernel_rfl) (by kernel_rfl) (fun _ _ _ h => h) (by kernel_rfl) ?_ ?_
        rotate_left
        · (intro wS hSw; obtain ⟨c0, c1, c2, -, -⟩ := B7.out.later (After.trans (After.drew (After.refl _)) hSw); obtain ⟨r0, r1, r2, -, -, -⟩ := row_facts (row_later R7.out (After.trans (After.drew (After.refl _)) hSw) (row_lt R7.out)); go_simp; try with_reducible rfl)
        try simp only [Act.put, List.getElem_toArray, List.getElem_cons_succ, List.getElem_cons_zero, List.setIfInBounds_toArray, List.set_cons_zero, List.set_cons_succ]
        refine Script.load (i := 9) (v := ?_) rfl (by kernel_rfl) (by kernel_rfl) (fun _ _ _ h => h) (by kernel_rfl) ?_ ?_
        rotate_left
        · (intro wS hSw; obtain ⟨c0, c1, c2, -, -⟩ := B7.out.later (After.trans (After.drew (After.refl _)) hSw); obtain ⟨r0, r1, r2, -, -, -⟩ := row_facts (row_later R7.out (After.trans (After.drew (After.refl _)) hSw) (row_lt R7.out)); go_simp; try with_reducible rfl)
        try simp only [Act.put, List.getElem_toArray, List.getElem_cons_succ, List.getElem_cons_zero, List.setIfInBounds_toArray, List.set_cons_zero, List.set_cons_succ]
        refine Script.load (i := 10) (v := ?_) rfl (by kernel_rfl) (by kernel_rfl) (fun _ _ _ h => h) (by kernel_rfl) ?_ ?_
        rotate_left
        · (intro wS hSw; obtain ⟨c0, c1, c2, -, -⟩ := B7.out.later (After.trans (After.drew (After.refl _)) hSw); obtain ⟨r0, r1, r2, -, -, -⟩ := row_facts (row_later R7.out (After.trans (After.drew (After.refl _)) hSw) (row_lt R7.out)); go_simp; try with_reducible rfl)
        try simp only [Act.put, List.getElem_toArray, List.getElem_cons_succ, List.getElem_cons_zero, List.setIfInBounds_toArray, List.set_cons_zero, List.set_cons_succ]
        refine Script.load (i := 11) (v := ?_) rfl (by kernel_rfl) (by kernel_rfl) (fun _ _ _ h => h) (by kernel_rfl) ?_ ?_
        rotate_left
        · (intro wS hSw; obtain ⟨c0, c1, c2, -, -⟩ := B7.out.later (After.trans (After.drew (After.refl _)) hSw); obtain ⟨r0, r1, r2, -, -, -⟩ := row_facts (row_later R7.out (After.trans (After.drew (After.refl _)) hSw) (row_lt R7.out)); go_simp; try with_reducible rfl)
        try simp only [Act.put, List.getElem_toArray, List.getElem_cons_succ, List.getElem_cons_zero, List.setIfInBounds_toArray, List.set_cons_zero, List.set_cons_succ]
        refine Script.load (i := 12) (v := ?_) rfl (by kernel_rfl) (by kernel_rfl) (fun _ _ _ h => h) (by kernel_rfl) ?_ ?_
        rotate_left
        · (intro wS hSw; obtain ⟨c0, c1, c2, -, -⟩ := B7.out.later (After.trans (After.drew (After.refl _)) hSw); obtain ⟨r0, r1, r2, -, -, -⟩ := row_facts (row_later R7.out (After.trans (After.drew (After.refl _)) hSw) (row_lt R7.out)); go_simp; try with_reducible rfl)
        try simp only [Act.put, List.getElem_toArray, List.getElem_cons_succ, List.getElem_cons_zero, List.setIfInBounds_toArray, List.set_cons_zero, List.set_cons_succ]
        refine Script.load (i := 13) (v := ?_) rfl (by kernel_rfl) (by kernel_rfl) (fun _ _ _ h => h) (by kernel_rfl) ?_ ?_
        rotate_left
        · (intro wS hSw; obtain ⟨c0, c1, c2, -, -⟩ := B7.out.later (After.trans (After.drew (After.refl _)) hSw); obtain ⟨r0, r1, r2, -, -, -⟩ := row_facts (row_later R7.out (After.trans (After.drew (After.refl _)) hSw) (row_lt R7.out)); go_simp; try with_reducible rfl)
        try simp only [Act.put, List.getElem_toArray, List.getElem_cons_succ, List.getElem_cons_zero, List.setIfInBounds_toArray, List.set_cons_zero, List.set_cons_succ]
        refine Script.load (i := 14) (v := ?_) rfl (by kernel_rfl) (by kernel_rfl) (fun _ _ _ h => h) (by kernel_rfl) ?_ ?_
        rotate_left
        · (intro wS hSw; obtain ⟨c0, c1, c2, -, -⟩ := B7.out.later (After.trans (After.drew (After.refl _)) hSw); obtain ⟨r0, r1, r2, -, -, -⟩ := row_facts (row_later R7.out (After.trans (After.drew (After.refl _)) hSw) (row_lt R7.out)); go_simp; try with_reducible rfl)
        try simp only [Act.put, List.getElem_toArray, List.getElem_cons_succ, List.getElem_cons_zero, List.setIfInBounds_toArray, List.set_cons_zero, List.set_cons_succ]
        refine Script.call (i := 15) (v := ?_) rfl (by kernel_rfl) (by kernel_rfl) (fun _ _ _ h => h) (by kernel_rfl) ?_ ?_
        rotate_left
        · (intro wS hSw K hK; obtain ⟨c0, c1, c2, -, -⟩ := B7.out.later (After.trans (After.drew (After.refl _)) hSw); obtain ⟨r0, r1, r2, -, -, -⟩ := row_facts (row_later R7.out (After.trans (After.drew (After.refl _)) hSw) (row_lt R7.out)); go_simp; go_at_call 67; refine (KX.out _ _ _ (ints_own (own_below X7.out (After.trans (After.drew (After.refl _)) hSw)) HN.out)).mono ?_; rintro e wc ⟨rfl, hbc⟩; exact hK.out _ hbc)
        try simp only [Act.put, List.getElem_toArray, List.getElem_cons_succ, List.getElem_cons_zero, List.setIfInBounds_toArray, List.set_cons_zero, List.set_cons_succ]
        refine Script.load (i := 16) (v := ?_) rfl (by kernel_rfl) (by kernel_rfl) (fun _ _ _ h => h) (by kernel_rfl) ?_ ?_
        rotate_left
        · (intro wS hSw; obtain ⟨c0, c1, c2, -, -⟩ := B7.out.later (After.trans (After.drew (After.refl _)) hSw); obtain ⟨r0, r1, r2, -, -, -⟩ := row_facts (row_later R7.out (After.trans (After.drew (After.refl _)) hSw) (row_lt R7.out)); go_simp; try with_reducible rfl)
        try simp only [Act.put, List.getElem_toArray, List.getElem_cons_succ, List.getElem_cons_zero, List.setIfInBounds_toArray, List.set_cons_zero, List.set_cons_succ]
        refine Script.load (i := 17) (v := ?_) rfl (by kernel_rfl) (by kernel_rfl) (fun _ _ _ h => h) (by kernel_rfl) ?_ ?_
        rotate_left
        · (intro wS hSw; obtain ⟨c0, c1, c2, -, -⟩ := B7.out.later (After.trans (After.drew (After.refl _)) hSw); obtain ⟨r0, r1, r2, -, -, -⟩ := row_facts (row_later R7.out (After.trans (After.drew (After.refl _)) hSw) (row_lt R7.out)); go_simp; try with_reducible rfl)
        try simp only [Act.put, List.getElem_toArray, List.getElem_cons_succ, List.getElem_cons_zero, List.setIfInBounds_toArray, List.set_cons_zero, List.set_cons_succ]
        refine Script.load (i := 18) (v := ?_) rfl (by kernel_rfl) (by kernel_rfl) (fun _ _ _ h => h) (by kernel_rfl) ?_ ?_
        rotate_left
        · (intro wS hSw; obtain ⟨c0, c1, c2, -, -⟩ := B7.out.later (After.trans (After.drew (After.refl _)) hSw); obtain ⟨r0, r1, r2, -, -, -⟩ := row_facts (row_later R7.out (After.trans (After.drew (After.refl _)) hSw) (row_lt R7.out)); go_simp; try with_reducible rfl)
        try simp only [Act.put, List.getElem_toArray, List.getElem_cons_succ, List.getElem_cons_zero, List.setIfInBounds_toArray, List.set_cons_zero, List.set_cons_succ]
        refine Script.load (i := 19) (v := ?_) rfl (by kernel_rfl) (by kernel_rfl) (fun _ _ _ h => h) (by kernel_rfl) ?_ ?_
        rotate_left
        · (intro wS hSw; obtain ⟨c0, c1, c2, -, -⟩ := B7.out.later (After.trans (After.drew (After.refl _)) hSw); obtain ⟨r0, r1, r2, -, -, -⟩ := row_facts (row_later R7.out (After.trans (After.drew (After.refl _)) hSw) (row_lt R7.out)); go_simp; try with_reducible rfl)
        try simp only [Act.put, List.getElem_toArray, List.getElem_cons_succ, List.getElem_cons_zero, List.setIfInBounds_toArray, List.set_cons_zero, List.set_cons_succ]
        refine Script.load (i := 20) (v := ?_) rfl (by kernel_rfl) (by kernel_rfl) (fun _ _ _ h => h) (by kernel_rfl) ?_ ?_
        rotate_left
        · (intro wS hSw; obtain ⟨c0, c1, c2, -, -⟩ := B7.out.later (After.trans (After.drew (After.refl _)) hSw); obtain ⟨r0, r1, r2, -, -, -⟩ := row_facts (row_later R7.out (After.trans (After.drew (After.refl _)) hSw) (row_lt R7.out)); go_simp; try with_reducible rfl)
        try simp only [Act.put, List.getElem_toArray, List.getElem_cons_succ, List.getElem_cons_zero, List.setIfInBounds_toArray, List.set_cons_zero, List.set_cons_succ]
        refine Script.load (i := 21) (v := ?_) rfl (by kernel_rfl) (by kernel_rfl) (fun _ _ _ h => h) (by kernel_rfl) ?_ ?_
        rotate_left
        · (intro wS hSw; obtain ⟨c0, c1, c2, -, -⟩ := B7.out.later (After.trans (After.drew (After.refl _)) hSw); obtain ⟨r0, r1, r2, -, -, -⟩ := row_facts (row_later R7.out (After.trans (After.drew (After.refl _)) hSw) (row_lt R7.out)); go_simp; try with_reducible rfl)
        try simp only [Act.put, List.getElem_toArray, List.getElem_cons_succ, List.getElem_cons_zero, List.setIfInBounds_toArray, List.set_cons_zero, List.set_cons_succ]
        refine Script.load (i := 22) (v := ?_) rfl (by kernel_rfl) (by kernel_rfl) (fun _ _ _ h => h) (by kernel_rfl) ?_ ?_
        rotate_left
        · (intro wS hSw; obtain ⟨c0, c1, c2, -, -⟩ := B7.out.later (After.trans (After.drew (After.refl _)) hSw); obtain ⟨r0, r1, r2, -, -, -⟩ := row_facts (row_later R7.out (After.trans (After.drew (After.refl _)) hSw) (row_lt R7.out)); go_simp; try with_reducible rfl)
        try simp only [Act.put, List.getElem_toArray, List.getElem_cons_succ, List.getElem_cons_zero, List.setIfInBounds_toArray, List.set_cons_zero, List.set_cons_succ]
        refine Script.skip (i := 23) rfl (by kernel_rfl) (by kernel_rfl) (fun _ _ _ h => h) (by kernel_rfl) ?_
        try simp only [Act.put, List.getElem_toArray, List.getElem_cons_succ, List.getElem_cons_zero, List.setIfInBounds_toArray, List.set_cons_zero, List.set_cons_succ]
        refine Script.skip (i := 24) rfl (by kernel_rfl) (by kernel_rfl) (fun _ _ _ h => h) (by kernel_rfl) ?_
        try simp only [Act.put, List.getElem_toArray, List.getElem_cons_succ, List.getElem_cons_zero, List.setIfInBounds_toArray, List.set_cons_zero, List.set_cons_succ]
        refine Script.skip (i := 25) rfl (by kernel_rfl) (by kernel_rfl) (fun _ _ _ h => h) (by kernel_rfl) ?_
        try simp only [Act.put, List.getElem_toArray, List.getElem_cons_succ, List.getElem_cons_zero, List.setIfInBounds_toArray, List.set_cons_zero, List.set_cons_succ]
        refine Script.skip (i := 26) rfl (by kernel_rfl) (by kernel_rfl) (fun _ _ _ h => h) (by kernel_rfl) ?_
        try simp only [Act.put, List.getElem_toArray, List.getElem_cons_succ, List.getElem_cons_zero, List.setIfInBounds_toArray, List.set_cons_zero, List.set_cons_succ]
        refine Script.skip (i := 27) rfl (by kernel_rfl) (by kernel_rfl) (fun _ _ _ h => h) (by kernel_rfl) ?_
        try simp only [Act.put, List.getElem_toArray, List.getElem_cons_succ, List.getElem_cons_zero, List.setIfInBounds_toArray, List.set_cons_zero, List.set_cons_succ]
        refine Script.skip (i := 28) rfl (by kernel_rfl) (by kernel_rfl) (fun _ _ _ h => h) (by kernel_rfl) ?_
        try simp only [Act.put, List.getElem_toArray, List.getElem_cons_succ, List.getElem_cons_zero, List.setIfInBounds_toArray, List.set_cons_zero, List.set_cons_succ]
        refine Script.skip (i := 29) rfl (by kernel_rfl) (by kernel_rfl) (fun _ _ _ h => h) (by kernel_rfl) ?_
        try simp only [Act.put, List.getElem_toArray, List.getElem_cons_succ, List.getElem_cons_zero, List.setIfInBounds_toArray, List.set_cons_zero, List.set_cons_succ]
        refine Script.skip (i := 30) rfl (by kernel_rfl) (by kernel_rfl) (fun _ _ _ h => h) (by kernel_rfl) ?_
        try simp only [Act.put, List.getElem_toArray, List.getElem_cons_succ, List.getElem_cons_zero, List.setIfInBounds_toArray, List.set_cons_zero, List.set_cons_succ]
        refine Script.skip (i := 31) rfl (by kernel_rfl) (by kernel_rfl) (fun _ _ _ h => h) (by kernel_rfl) ?_
        try simp only [Act.put, List.getElem_toArray, List.getElem_cons_succ, List.getElem_cons_zero, List.setIfInBounds_toArray, List.set_cons_zero, List.set_cons_succ]
        refine Script.skip (i := 32) rfl (by kernel_rfl) (by kernel_rfl) (fun _ _ _ h => h) (by kernel_rfl) ?_
        try simp only [Act.put, List.getElem_toArray, List.getElem_cons_succ, List.getElem_cons_zero, List.setIfInBounds_toArray, List.set_cons_zero, List.set_cons_succ]
        refine Script.skip (i := 33) rfl (by kernel_rfl) (by kernel_rfl) (fun _ _ _ h => h) (by kernel_rfl) ?_
        try simp only [Act.put, List.getElem_toArray, List.getElem_cons_succ, List.getElem_cons_zero, List.setIfInBounds_toArray, List.set_cons_zero, List.set_cons_succ]
        refine Script.skip (i := 34) rfl (by kernel_rfl) (by kernel_rfl) (fun _ _ _ h => h) (by kernel_rfl) ?_
        try simp only [Act.put, List.getElem_toArray, List.getElem_cons_succ, List.getElem_cons_zero, List.setIfInBounds_toArray, List.set_cons_zero, List.set_cons_succ]
        refine Script.skip (i := 35) rfl (by kernel_rfl) (by kernel_rfl) (fun _ _ _ h => h) (by kernel_rfl) ?_
        try simp only [Act.put, List.getElem_toArray, List.getElem_cons_succ, List.getElem_cons_zero, List.setIfInBounds_toArray, List.set_cons_zero, List.set_cons_succ]
        refine Script.skip (i := 36) rfl (by kernel_rfl) (by kernel_rfl) (fun _ _ _ h => h) (by kernel_rfl) ?_
        try simp only [Act.put, List.getElem_toArray, List.getElem_cons_succ, List.getElem_cons_zero, List.setIfInBounds_toArray, List.set_cons_zero, List.set_cons_succ]
        refine Script.skip (i := 37) rfl (by kernel_rfl) (by kernel_rfl) (fun _ _ _ h => h) (by kernel_rfl) ?_
        try simp only [Act.put, List.getElem_toArray, List.getElem_cons_succ, List.getElem_cons_zero, List.setIfInBounds_toArray, List.set_cons_zero, List.set_cons_succ]
        refine Script.skip (i := 38) rfl (by kernel_rfl) (by kernel_rfl) (fun _ _ _ h => h) (by kernel_rfl) ?_
        try simp only [Act.put, List.getElem_toArray, List.getElem_cons_succ, List.getElem_cons_zero, List.setIfInBounds_toArray, List.set_cons_zero, List.set_cons_succ]
        refine Script.skip (i := 39) rfl (by kernel_rfl) (by kernel_rfl) (fun _ _ _ h => h) (by kernel_rfl) ?_
        try simp only [Act.put, List.getElem_toArray, List.getElem_cons_succ, List.getElem_cons_zero, List.setIfInBounds_toArray, List.set_cons_zero, List.set_cons_succ]
        refine Script.skip (i := 40) rfl (by kernel_rfl) (by kernel_rfl) (fun _ _ _ h => h) (by kernel_rfl) ?_
        try simp only [Act.put, List.getElem_toArray, List.getElem_cons_succ, List.getElem_cons_zero, List.setIfInBounds_toArray, List.set_cons_zero, List.set_cons_succ]
        refine Script.skip (i := 41) rfl (by kernel_rfl) (by kernel_rfl) (fun _ _ _ h => h) (by kernel_rfl) ?_
        try simp only [Act.put, List.getElem_toArray, List.getElem_cons_succ, List.getElem_cons_zero, List.setIfInBounds_toArray, List.set_cons_zero, List.set_cons_succ]
        refine Script.load (i := 42) (v := ?_) rfl (by kernel_rfl) (by kernel_rfl) (fun _ _ _ h => h) (by kernel_rfl) ?_ ?_
        rotate_left
        · (intro wS hSw; obtain ⟨c0, c1, c2, -, -⟩ := B7.out.later (After.trans (After.drew (After.refl _)) hSw); obtain ⟨r0, r1, r2, -, -, -⟩ := row_facts (row_later R7.out (After.trans (After.drew (After.refl _)) hSw) (row_lt R7.out)); go_simp; try with_reducible rfl)
        try simp only [Act.put, List.getElem_toArray, List.getElem_cons_succ, List.getElem_cons_zero, List.setIfInBounds_toArray, List.set_cons_zero, List.set_cons_succ]
        refine Script.load (i := 43) (v := ?_) rfl (by kernel_rfl) (by kernel_rfl) (fun _ _ _ h => h) (by kernel_rfl) ?_ ?_
        rotate_left
        · (intro wS hSw; obtain ⟨c0, c1, c2, -, -⟩ := B7.out.later (After.trans (After.drew (After.refl _)) hSw); obtain ⟨r0, r1, r2, -, -, -⟩ := row_facts (row_later R7.out (After.trans (After.drew (After.refl _)) hSw) (row_lt R7.out)); go_simp; try with_reducible rfl)
        try simp only [Act.put, List.getElem_toArray, List.getElem_cons_succ, List.getElem_cons_zero, List.setIfInBounds_toArray, List.set_cons_zero, List.set_cons_succ]
        refine Script.load (i := 44) (v := ?_) rfl (by kernel_rfl) (by kernel_rfl) (fun _ _ _ h => h) (by kernel_rfl) ?_ ?_
        rotate_left
        · (intro wS hSw; obtain ⟨c0, c1, c2, -, -⟩ := B7.out.later (After.trans (After.drew (After.refl _)) hSw); obtain ⟨r0, r1, r2, -, -, -⟩ := row_facts (row_later R7.out (After.trans (After.drew (After.refl _)) hSw) (row_lt R7.out)); go_simp; try with_reducible rfl)
        try simp only [Act.put, List.getElem_toArray, List.getElem_cons_succ, List.getElem_cons_zero, List.setIfInBounds_toArray, List.set_cons_zero, List.set_cons_succ]
        refine Script.load (i := 45) (v := ?_) rfl (by kernel_rfl) (by kernel_rfl) (fun _ _ _ h => h) (by kernel_rfl) ?_ ?_
        rotate_left
        · (intro wS hSw; obtain ⟨c0, c1, c2, -, -⟩ := B7.out.later (After.trans (After.drew (After.refl _)) hSw); obtain ⟨r0, r1, r2, -, -, -⟩ := row_facts (row_later R7.out (After.trans (After.drew (After.refl _)) hSw) (row_lt R7.out)); go_simp; try with_reducible rfl)
        try simp only [Act.put, List.getElem_toArray, List.getElem_cons_succ, List.getElem_cons_zero, List.setIfInBounds_toArray, List.set_cons_zero, List.set_cons_succ]
        refine Script.load (i := 46) (v := ?_) rfl (by kernel_rfl) (by kernel_rfl) (fun _ _ _ h => h) (by kernel_rfl) ?_ ?_
        rotate_left
        · (intro wS hSw; obtain ⟨c0, c1, c2, -, -⟩ := B7.out.later (After.trans (After.drew (After.refl _)) hSw); obtain ⟨r0, r1, r2, -, -, -⟩ := row_facts (row_later R7.out (After.trans (After.drew (After.refl _)) hSw) (row_lt R7.out)); go_simp; try with_reducible rfl)
        try simp only [Act.put, List.getElem_toArray, List.getElem_cons_succ, List.getElem_cons_zero, List.setIfInBounds_toArray, List.set_cons_zero, List.set_cons_succ]
        refine Script.call (i := 47) (v := ?_) rfl (by kernel_rfl) (by kernel_rfl) (fun _ _ _ h => h) (by kernel_rfl) ?_ ?_
        rotate_left
        · (intro wS hSw K hK; obtain ⟨c0, c1, c2, -, -⟩ := B7.out.later (After.trans (After.drew (After.refl _)) hSw); obtain ⟨r0, r1, r2, -, -, -⟩ := row_facts (row_later R7.out (After.trans (After.drew (After.refl _)) hSw) (row_lt R7.out)); go_simp; go_at_call 68; refine (K10.out _ _ _ (ints_own (own_below X7.out (After.trans (After.drew (After.refl _)) hSw)) HN.out)).mono ?_; rintro e wc ⟨rfl, hbc⟩; exact hK.out _ hbc)
        try simp only [Act.put, List.getElem_toArray, List.getElem_cons_succ, List.getElem_cons_zero, List.setIfInBounds_toArray, List.set_cons_zero, List.set_cons_succ]
        refine Script.load (i := 48) (v := ?_) rfl (by kernel_rfl) (by kernel_rfl) (fun _ _ _ h => h) (by kernel_rfl) ?_ ?_
        rotate_left
        · (intro wS hSw; obtain ⟨c0, c1, c2, -, -⟩ := B7.out.later (After.trans (After.drew (After.refl _)) hSw); obtain ⟨r0, r1, r2, -, -, -⟩ := row_facts (row_later R7.out (After.trans (After.drew (After.refl _)) hSw) (row_lt R7.out)); go_simp; try with_reducible rfl)
        try simp only [Act.put, List.getElem_toArray, List.getElem_cons_succ, List.getElem_cons_zero, List.setIfInBounds_toArray, List.set_cons_zero, List.set_cons_succ]
        refine Script.load (i := 49) (v := ?_) rfl (by kernel_rfl) (by kernel_rfl) (fun _ _ _ h => h) (by kernel_rfl) ?_ ?_
        rotate_left
        · (intro wS hSw; obtain ⟨c0, c1, c2, -, -⟩ := B7.out.later (After.trans (After.drew (After.refl _)) hSw); obtain ⟨r0, r1, r2, -, -, -⟩ := row_facts (row_later R7.out (After.trans (After.drew (After.refl _)) hSw) (row_lt R7.out)); go_simp; try with_reducible rfl)
        try simp only [Act.put, List.getElem_toArray, List.getElem_cons_succ, List.getElem_cons_zero, List.setIfInBounds_toArray, List.set_cons_zero, List.set_cons_succ]
        refine Script.load (i := 50) (v := ?_) rfl (by kernel_rfl) (by kernel_rfl) (fun _ _ _ h => h) (by kernel_rfl) ?_ ?_
        rotate_left
        · (intro wS hSw; obtain ⟨c0, c1, c2, -, -⟩ := B7.out.later (After.trans (After.drew (After.refl _)) hSw); obtain ⟨r0, r1, r2, -, -, -⟩ := row_facts (row_later R7.out (After.trans (After.drew (After.refl _)) hSw) (row_lt R7.out)); go_simp; try with_reducible rfl)
        try simp only [Act.put, List.getElem_toArray, List.getElem_cons_succ, List.getElem_cons_zero, List.setIfInBounds_toArray, List.set_cons_zero, List.set_cons_succ]
        refine Script.done (by kernel_rfl) ?_
        intro wD hD hG
        have hb7 := After.trans (After.drew (After.refl w7)) hD
        have HF := Lib.hid (HB1.out.trans ((B7.out.later hb7).2.2.2.2.mono hsz))
        clear hb7 hD hG B7 X7 R7
        go_wp2_with fail
        go_ret
        exact ⟨rfl, HF.out⟩
      · obtain ⟨hz1, hfall, hzl⟩ := HAD.out rfl
        have hwk := HAK.out rfl
        have V := V7.out
        simp only at V
        rw [hzl, hz1] at V
        rw [hz1] at hzl
        have HVL := Lib.hid hzl
        obtain ⟨va, vc, rfl⟩ := int_form V
        have V8 := Lib.hid V
        have hS1 := HSZ.out.1
        have hS2 := HSZ.out.2 hwk
        have KV := Lib.hid (K8.out (z : Int) (by omega))
        rw [hS2] at KV
        have KW := Lib.hid (K5.out (z : Int) (by omega))
        rw [hS1] at KW
        have KF := K9
        rw [hfall] at KF
        have hsb := HSB.out
        generalize sumTo xs z N = s at *
        have hw2 : IntKind.i64.wrap (2 * s) = 2 * s := IntWalk.i64_in _ (by omega)
        clear K8 K9 V V7 HAD HAK HSZ hS1 hS2 hwk hfall hz1 hzl hsb HSB
        go_wp2_with fail
        refine wp_region_script (by kernel_rfl) (by kernel_rfl) ?_
        refine Script.load (i := 0) (v := ?_) rfl (by kernel_rfl) (by kernel_rfl) (fun _ _ _ h => h) (by kernel_rfl) ?_ ?_
        rotate_left
        · (intro wS hSw; obtain ⟨c0, c1, c2, -, -⟩ := B7.out.later (After.trans (After.drew (After.refl _)) hSw); obtain ⟨r0, r1, r2, -, -, -⟩ := row_facts (row_later R7.out (After.trans (After.drew (After.refl _)) hSw) (row_lt R7.out)); go_simp; try with_reducible rfl)
        try simp only [Act.put, List.getElem_toArray, List.getElem_cons_succ, List.getElem_cons_zero, List.setIfInBounds_toArray, List.set_cons_zero, List.set_cons_succ]
        refine Script.load (i := 1) (v := ?_) rfl (by kernel_rfl) (by kernel_rfl) (fun _ _ _ h => h) (by kernel_rfl) ?_ ?_
        rotate_left
        · (intro wS hSw; obtain ⟨c0, c1, c2, -, -⟩ := B7.out.later (After.trans (After.drew (After.refl _)) hSw); obtain ⟨r0, r1, r2, -, -, -⟩ := row_facts (row_later R7.out (After.trans (After.drew (After.refl _)) hSw) (row_lt R7.out)); go_simp; try with_reducible rfl)
        try simp only [Act.put, List.getElem_toArray, List.getElem_cons_succ, List.getElem_cons_zero, List.setIfInBounds_toArray, List.set_cons_zero, List.set_cons_succ]
        refine Script.call (i := 2) (v := ?_) rfl (by kernel_rfl) (by kernel_rfl) (fun _ _ _ h => h) (by kernel_rfl) ?_ ?_
        rotate_left
        · (intro wS hSw K hK; obtain ⟨c0, c1, c2, -, -⟩ := B7.out.later (After.trans (After.drew (After.refl _)) hSw); obtain ⟨r0, r1, r2, -, -, -⟩ := row_facts (row_later R7.out (After.trans (After.drew (After.refl _)) hSw) (row_lt R7.out)); go_simp; go_at_call 70; refine (K7.out _ _ _ (ints_own (own_below X7.out (After.trans (After.drew (After.refl _)) hSw)) HN.out)).mono ?_; rintro e wc ⟨rfl, hbc⟩; exact hK.out _ hbc)
        try simp only [Act.put, List.getElem_toArray, List.getElem_cons_succ, List.getElem_cons_zero, List.setIfInBounds_toArray, List.set_cons_zero, List.set_cons_succ]
        refine Script.load (i := 3) (v := ?_) rfl (by kernel_rfl) (by kernel_rfl) (fun _ _ _ h => h) (by kernel_rfl) ?_ ?_
        rotate_left
        · (intro wS hSw; obtain ⟨c0, c1, c2, -, -⟩ := B7.out.later (After.trans (After.drew (After.refl _)) hSw); obtain ⟨r0, r1, r2, -, -, -⟩ := row_facts (row_later R7.out (After.trans (After.drew (After.refl _)) hSw) (row_lt R7.out)); go_simp; try with_reducible rfl)
        try simp only [Act.put, List.getElem_toArray, List.getElem_cons_succ, List.getElem_cons_zero, List.setIfInBounds_toArray, List.set_cons_zero, List.set_cons_succ]
        refine Script.load (i := 4) (v := ?_) rfl (by kernel_rfl) (by kernel_rfl) (fun _ _ _ h => h) (by kernel_rfl) ?_ ?_
        rotate_left
        · (intro wS hSw; obtain ⟨c0, c1, c2, -, -⟩ := B7.out.later (After.trans (After.drew (After.refl _)) hSw); obtain ⟨r0, r1, r2, -, -, -⟩ := row_facts (row_later R7.out (After.trans (After.drew (After.refl _)) hSw) (row_lt R7.out)); go_simp; try with_reducible rfl)
        try simp only [Act.put, List.getElem_toArray, List.getElem_cons_succ, List.getElem_cons_zero, List.setIfInBounds_toArray, List.set_cons_zero, List.set_cons_succ]
        refine Script.load (i := 5) (v := ?_) rfl (by kernel_rfl) (by kernel_rfl) (fun _ _ _ h => h) (by kernel_rfl) ?_ ?_
        rotate_left
        · (intro wS hSw; obtain ⟨c0, c1, c2, -, -⟩ := B7.out.later (After.trans (After.drew (After.refl _)) hSw); obtain ⟨r0, r1, r2, -, -, -⟩ := row_facts (row_later R7.out (After.trans (After.drew (After.refl _)) hSw) (row_lt R7.out)); go_simp; try with_reducible rfl)
        try simp only [Act.put, List.getElem_toArray, List.getElem_cons_succ, List.getElem_cons_zero, List.setIfInBounds_toArray, List.set_cons_zero, List.set_cons_succ]
        refine Script.load (i := 6) (v := ?_) rfl (by kernel_rfl) (by kernel_rfl) (fun _ _ _ h => h) (by kernel_rfl) ?_ ?_
        rotate_left
        · (intro wS hSw; obtain ⟨c0, c1, c2, -, -⟩ := B7.out.later (After.trans (After.drew (After.refl _)) hSw); obtain ⟨r0, r1, r2, -, -, -⟩ := row_facts (row_later R7.out (After.trans (After.drew (After.refl _)) hSw) (row_lt R7.out)); go_simp; try with_reducible rfl)
        try simp only [Act.put, List.getElem_toArray, List.getElem_cons_succ, List.getElem_cons_zero, List.setIfInBounds_toArray, List.set_cons_zero, List.set_cons_succ]
        refine Script.load (i := 7) (v := ?_) rfl (by kernel_rfl) (by kernel_rfl) (fun _ _ _ h => h) (by kernel_rfl) ?_ ?_
        rotate_left
        · (intro wS hSw; obtain ⟨c0, c1, c2, -, -⟩ := B7.out.later (After.trans (After.drew (After.refl _)) hSw); obtain ⟨r0, r1, r2, -, -, -⟩ := row_facts (row_later R7.out (After.trans (After.drew (After.refl _)) hSw) (row_lt R7.out)); go_simp; try with_reducible rfl)
        try simp only [Act.put, List.getElem_toArray, List.getElem_cons_succ, List.getElem_cons_zero, List.setIfInBounds_toArray, List.set_cons_zero, List.set_cons_succ]
        refine Script.load (i := 8) (v := ?_) rfl (by kernel_rfl) (by kernel_rfl) (fun _ _ _ h => h) (by kernel_rfl) ?_ ?_
        rotate_left
        · (intro wS hSw; obtain ⟨c0, c1, c2, -, -⟩ := B7.out.later (After.trans (After.drew (After.refl _)) hSw); obtain ⟨r0, r1, r2, -, -, -⟩ := row_facts (row_later R7.out (After.trans (After.drew (After.refl _)) hSw) (row_lt R7.out)); go_simp; try with_reducible rfl)
        try simp only [Act.put, List.getElem_toArray, List.getElem_cons_succ, List.getElem_cons_zero, List.setIfInBounds_toArray, List.set_cons_zero, List.set_cons_succ]
        refine Script.load (i := 9) (v := ?_) rfl (by kernel_rfl) (by kernel_rfl) (fun _ _ _ h => h) (by kernel_rfl) ?_ ?_
        rotate_left
        · (intro wS hSw; obtain ⟨c0, c1, c2, -, -⟩ := B7.out.later (After.trans (After.drew (After.refl _)) hSw); obtain ⟨r0, r1, r2, -, -, -⟩ := row_facts (row_later R7.out (After.trans (After.drew (After.refl _)) hSw) (row_lt R7.out)); go_simp; try with_reducible rfl)
        try simp only [Act.put, List.getElem_toArray, List.getElem_cons_succ, List.getElem_cons_zero, List.setIfInBounds_toArray, List.set_cons_zero, List.set_cons_succ]
        refine Script.load (i := 10) (v := ?_) rfl (by kernel_rfl) (by kernel_rfl) (fun _ _ _ h => h) (by kernel_rfl) ?_ ?_
        rotate_left
        · (intro wS hSw; obtain ⟨c0, c1, c2, -, -⟩ := B7.out.later (After.trans (After.drew (After.refl _)) hSw); obtain ⟨r0, r1, r2, -, -, -⟩ := row_facts (row_later R7.out (After.trans (After.drew (After.refl _)) hSw) (row_lt R7.out)); go_simp; try with_reducible rfl)
        try simp only [Act.put, List.getElem_toArray, List.getElem_cons_succ, List.getElem_cons_zero, List.setIfInBounds_toArray, List.set_cons_zero, List.set_cons_succ]
        refine Script.load (i := 11) (v := ?_) rfl (by kernel_rfl) (by kernel_rfl) (fun _ _ _ h => h) (by kernel_rfl) ?_ ?_
        rotate_left
        · (intro wS hSw; obtain ⟨c0, c1, c2, -, -⟩ := B7.out.later (After.trans (After.drew (After.refl _)) hSw); obtain ⟨r0, r1, r2, -, -, -⟩ := row_facts (row_later R7.out (After.trans (After.drew (After.refl _)) hSw) (row_lt R7.out)); go_simp; try with_reducible rfl)
        try simp only [Act.put, List.getElem_toArray, List.getElem_cons_succ, List.getElem_cons_zero, List.setIfInBounds_toArray, List.set_cons_zero, List.set_cons_succ]
        refine Script.load (i := 12) (v := ?_) rfl (by kernel_rfl) (by kernel_rfl) (fun _ _ _ h => h) (by kernel_rfl) ?_ ?_
        rotate_left
        · (intro wS hSw; obtain ⟨c0, c1, c2, -, -⟩ := B7.out.later (After.trans (After.drew (After.refl _)) hSw); obtain ⟨r0, r1, r2, -, -, -⟩ := row_facts (row_later R7.out (After.trans (After.drew (After.refl _)) hSw) (row_lt R7.out)); go_simp; try with_reducible rfl)
        try simp only [Act.put, List.getElem_toArray, List.getElem_cons_succ, List.getElem_cons_zero, List.setIfInBounds_toArray, List.set_cons_zero, List.set_cons_succ]
        refine Script.load (i := 13) (v := ?_) rfl (by kernel_rfl) (by kernel_rfl) (fun _ _ _ h => h) (by kernel_rfl) ?_ ?_
        rotate_left
        · (intro wS hSw; obtain ⟨c0, c1, c2, -, -⟩ := B7.out.later (After.trans (After.drew (After.refl _)) hSw); obtain ⟨r0, r1, r2, -, -, -⟩ := row_facts (row_later R7.out (After.trans (After.drew (After.refl _)) hSw) (row_lt R7.out)); go_simp; try with_reducible rfl)
        try simp only [Act.put, List.getElem_toArray, List.getElem_cons_succ, List.getElem_cons_zero, List.setIfInBounds_toArray, List.set_cons_zero, List.set_cons_succ]
        refine Script.load (i := 14) (v := ?_) rfl (by kernel_rfl) (by kernel_rfl) (fun _ _ _ h => h) (by kernel_rfl) ?_ ?_
        rotate_left
        · (intro wS hSw; obtain ⟨c0, c1, c2, -, -⟩ := B7.out.later (After.trans (After.drew (After.refl _)) hSw); obtain ⟨r0, r1, r2, -, -, -⟩ := row_facts (row_later R7.out (After.trans (After.drew (After.refl _)) hSw) (row_lt R7.out)); go_simp; try with_reducible rfl)
        try simp only [Act.put, List.getElem_toArray, List.getElem_cons_succ, List.getElem_cons_zero, List.setIfInBounds_toArray, List.set_cons_zero, List.set_cons_succ]
        refine Script.call (i := 15) (v := ?_) rfl (by kernel_rfl) (by kernel_rfl) (fun _ _ _ h => h) (by kernel_rfl) ?_ ?_
        rotate_left
        · (intro wS hSw K hK; obtain ⟨c0, c1, c2, -, -⟩ := B7.out.later (After.trans (After.drew (After.refl _)) hSw); obtain ⟨r0, r1, r2, -, -, -⟩ := row_facts (row_later R7.out (After.trans (After.drew (After.refl _)) hSw) (row_lt R7.out)); go_simp; go_at_call 67; refine (KX.out _ _ _ (ints_own (own_below X7.out (After.trans (After.drew (After.refl _)) hSw)) HN.out)).mono ?_; rintro e wc ⟨rfl, hbc⟩; exact hK.out _ hbc)
        try simp only [Act.put, List.getElem_toArray, List.getElem_cons_succ, List.getElem_cons_zero, List.setIfInBounds_toArray, List.set_cons_zero, List.set_cons_succ]
        refine Script.load (i := 16) (v := ?_) rfl (by kernel_rfl) (by kernel_rfl) (fun _ _ _ h => h) (by kernel_rfl) ?_ ?_
        rotate_left
        · (intro wS hSw; obtain ⟨c0, c1, c2, -, -⟩ := B7.out.later (After.trans (After.drew (After.refl _)) hSw); obtain ⟨r0, r1, r2, -, -, -⟩ := row_facts (row_later R7.out (After.trans (After.drew (After.refl _)) hSw) (row_lt R7.out)); go_simp; try with_reducible rfl)
        try simp only [Act.put, List.getElem_toArray, List.getElem_cons_succ, List.getElem_cons_zero, List.setIfInBounds_toArray, List.set_cons_zero, List.set_cons_succ]
        refine Script.load (i := 17) (v := ?_) rfl (by kernel_rfl) (by kernel_rfl) (fun _ _ _ h => h) (by kernel_rfl) ?_ ?_
        rotate_left
        · (intro wS hSw; obtain ⟨c0, c1, c2, -, -⟩ := B7.out.later (After.trans (After.drew (After.refl _)) hSw); obtain ⟨r0, r1, r2, -, -, -⟩ := row_facts (row_later R7.out (After.trans (After.drew (After.refl _)) hSw) (row_lt R7.out)); go_simp; try with_reducible rfl)
        try simp only [Act.put, List.getElem_toArray, List.getElem_cons_succ, List.getElem_cons_zero, List.setIfInBounds_toArray, List.set_cons_zero, List.set_cons_succ]
        refine Script.load (i := 18) (v := ?_) rfl (by kernel_rfl) (by kernel_rfl) (fun _ _ _ h => h) (by kernel_rfl) ?_ ?_
        rotate_left
        · (intro wS hSw; obtain ⟨c0, c1, c2, -, -⟩ := B7.out.later (After.trans (After.drew (After.refl _)) hSw); obtain ⟨r0, r1, r2, -, -, -⟩ := row_facts (row_later R7.out (After.trans (After.drew (After.refl _)) hSw) (row_lt R7.out)); go_simp; try with_reducible rfl)
        try simp only [Act.put, List.getElem_toArray, List.getElem_cons_succ, List.getElem_cons_zero, List.setIfInBounds_toArray, List.set_cons_zero, List.set_cons_succ]
        refine Script.load (i := 19) (v := ?_) rfl (by kernel_rfl) (by kernel_rfl) (fun _ _ _ h => h) (by kernel_rfl) ?_ ?_
        rotate_left
        · (intro wS hSw; obtain ⟨c0, c1, c2, -, -⟩ := B7.out.later (After.trans (After.drew (After.refl _)) hSw); obtain ⟨r0, r1, r2, -, -, -⟩ := row_facts (row_later R7.out (After.trans (After.drew (After.refl _)) hSw) (row_lt R7.out)); go_simp; try with_reducible rfl)
        try simp only [Act.put, List.getElem_toArray, List.getElem_cons_succ, List.getElem_cons_zero, List.setIfInBounds_toArray, List.set_cons_zero, List.set_cons_succ]
        refine Script.load (i := 20) (v := ?_) rfl (by kernel_rfl) (by kernel_rfl) (fun _ _ _ h => h) (by kernel_rfl) ?_ ?_
        rotate_left
        · (intro wS hSw; obtain ⟨c0, c1, c2, -, -⟩ := B7.out.later (After.trans (After.drew (After.refl _)) hSw); obtain ⟨r0, r1, r2, -, -, -⟩ := row_facts (row_later R7.out (After.trans (After.drew (After.refl _)) hSw) (row_lt R7.out)); go_simp; try with_reducible rfl)
        try simp only [Act.put, List.getElem_toArray, List.getElem_cons_succ, List.getElem_cons_zero, List.setIfInBounds_toArray, List.set_cons_zero, List.set_cons_succ]
        refine Script.load (i := 21) (v := ?_) rfl (by kernel_rfl) (by kernel_rfl) (fun _ _ _ h => h) (by kernel_rfl) ?_ ?_
        rotate_left
        · (intro wS hSw; obtain ⟨c0, c1, c2, -, -⟩ := B7.out.later (After.trans (After.drew (After.refl _)) hSw); obtain ⟨r0, r1, r2, -, -, -⟩ := row_facts (row_later R7.out (After.trans (After.drew (After.refl _)) hSw) (row_lt R7.out)); go_simp; try with_reducible rfl)
        try simp only [Act.put, List.getElem_toArray, List.getElem_cons_succ, List.getElem_cons_zero, List.setIfInBounds_toArray, List.set_cons_zero, List.set_cons_succ]
        refine Script.load (i := 22) (v := ?_) rfl (by kernel_rfl) (by kernel_rfl) (fun _ _ _ h => h) (by kernel_rfl) ?_ ?_
        rotate_left
        · (intro wS hSw; obtain ⟨c0, c1, c2, -, -⟩ := B7.out.later (After.trans (After.drew (After.refl _)) hSw); obtain ⟨r0, r1, r2, -, -, -⟩ := row_facts (row_later R7.out (After.trans (After.drew (After.refl _)) hSw) (row_lt R7.out)); go_simp; try with_reducible rfl)
        try simp only [Act.put, List.getElem_toArray, List.getElem_cons_succ, List.getElem_cons_zero, List.setIfInBounds_toArray, List.set_cons_zero, List.set_cons_succ]
        refine Script.load (i := 23) (v := ?_) rfl (by kernel_rfl) (by kernel_rfl) (fun _ _ _ h => h) (by kernel_rfl) ?_ ?_
        rotate_left
        · (intro wS hSw; obtain ⟨c0, c1, c2, -, -⟩ := B7.out.later (After.trans (After.drew (After.refl _)) hSw); obtain ⟨r0, r1, r2, -, -, -⟩ := row_facts (row_later R7.out (After.trans (After.drew (After.refl _)) hSw) (row_lt R7.out)); go_simp; try with_reducible rfl)
        try simp only [Act.put, List.getElem_toArray, List.getElem_cons_succ, List.getElem_cons_zero, List.setIfInBounds_toArray, List.set_cons_zero, List.set_cons_succ]
        refine Script.load (i := 24) (v := ?_) rfl (by kernel_rfl) (by kernel_rfl) (fun _ _ _ h => h) (by kernel_rfl) ?_ ?_
        rotate_left
        · (intro wS hSw; obtain ⟨c0, c1, c2, -, -⟩ := B7.out.later (After.trans (After.drew (After.refl _)) hSw); obtain ⟨r0, r1, r2, -, -, -⟩ := row_facts (row_later R7.out (After.trans (After.drew (After.refl _)) hSw) (row_lt R7.out)); go_simp; try with_reducible rfl)
        try simp only [Act.put, List.getElem_toArray, List.getElem_cons_succ, List.getElem_cons_zero, List.setIfInBounds_toArray, List.set_cons_zero, List.set_cons_succ]
        refine Script.load (i := 25) (v := ?_) rfl (by kernel_rfl) (by kernel_rfl) (fun _ _ _ h => h) (by kernel_rfl) ?_ ?_
        rotate_left
        · (intro wS hSw; obtain ⟨c0, c1, c2, -, -⟩ := B7.out.later (After.trans (After.drew (After.refl _)) hSw); obtain ⟨r0, r1, r2, -, -, -⟩ := row_facts (row_later R7.out (After.trans (After.drew (After.refl _)) hSw) (row_lt R7.out)); go_simp; try with_reducible rfl)
        try simp only [Act.put, List.getElem_toArray, List.getElem_cons_succ, List.getElem_cons_zero, List.setIfInBounds_toArray, List.set_cons_zero, List.set_cons_succ]
        refine Script.load (i := 26) (v := ?_) rfl (by kernel_rfl) (by kernel_rfl) (fun _ _ _ h => h) (by kernel_rfl) ?_ ?_
        rotate_left
        · (intro wS hSw; obtain ⟨c0, c1, c2, -, -⟩ := B7.out.later (After.trans (After.drew (After.refl _)) hSw); obtain ⟨r0, r1, r2, -, -, -⟩ := row_facts (row_later R7.out (After.trans (After.drew (After.refl _)) hSw) (row_lt R7.out)); go_simp; try with_reducible rfl)
        try simp only [Act.put, List.getElem_toArray, List.getElem_cons_succ, List.getElem_cons_zero, List.setIfInBounds_toArray, List.set_cons_zero, List.set_cons_succ]
        refine Script.call (i := 27) (v := ?_) rfl (by kernel_rfl) (by kernel_rfl) (fun _ _ _ h => h) (by kernel_rfl) ?_ ?_
        rotate_left
        · (intro wS hSw K hK; obtain ⟨c0, c1, c2, -, -⟩ := B7.out.later (After.trans (After.drew (After.refl _)) hSw); obtain ⟨r0, r1, r2, -, -, -⟩ := row_facts (row_later R7.out (After.trans (After.drew (After.refl _)) hSw) (row_lt R7.out)); go_simp; go_at_call 68; refine (KV.out _ _ _ (ints_own (own_below V8.out (After.trans (After.drew (After.refl _)) hSw)) HVL.out)).mono ?_; rintro e wc ⟨rfl, hbc⟩; exact hK.out _ hbc)
        try simp only [Act.put, List.getElem_toArray, List.getElem_cons_succ, List.getElem_cons_zero, List.setIfInBounds_toArray, List.set_cons_zero, List.set_cons_succ]
        refine Script.load (i := 28) (v := ?_) rfl (by kernel_rfl) (by kernel_rfl) (fun _ _ _ h => h) (by kernel_rfl) ?_ ?_
        rotate_left
        · (intro wS hSw; obtain ⟨c0, c1, c2, -, -⟩ := B7.out.later (After.trans (After.drew (After.refl _)) hSw); obtain ⟨r0, r1, r2, -, -, -⟩ := row_facts (row_later R7.out (After.trans (After.drew (After.refl _)) hSw) (row_lt R7.out)); go_simp; try with_reducible rfl)
        try simp only [Act.put, List.getElem_toArray, List.getElem_cons_succ, List.getElem_cons_zero, List.setIfInBounds_toArray, List.set_cons_zero, List.set_cons_succ]
        refine Script.load (i := 29) (v := ?_) rfl (by kernel_rfl) (by kernel_rfl) (fun _ _ _ h => h) (by kernel_rfl) ?_ ?_
        rotate_left
        · (intro wS hSw; obtain ⟨c0, c1, c2, -, -⟩ := B7.out.later (After.trans (After.drew (After.refl _)) hSw); obtain ⟨r0, r1, r2, -, -, -⟩ := row_facts (row_later R7.out (After.trans (After.drew (After.refl _)) hSw) (row_lt R7.out)); go_simp; try with_reducible rfl)
        try simp only [Act.put, List.getElem_toArray, List.getElem_cons_succ, List.getElem_cons_zero, List.setIfInBounds_toArray, List.set_cons_zero, List.set_cons_succ]
        refine Script.load (i := 30) (v := ?_) rfl (by kernel_rfl) (by kernel_rfl) (fun _ _ _ h => h) (by kernel_rfl) ?_ ?_
        rotate_left
        · (intro wS hSw; obtain ⟨c0, c1, c2, -, -⟩ := B7.out.later (After.trans (After.drew (After.refl _)) hSw); obtain ⟨r0, r1, r2, -, -, -⟩ := row_facts (row_later R7.out (After.trans (After.drew (After.refl _)) hSw) (row_lt R7.out)); go_simp; try with_reducible rfl)
        try simp only [Act.put, List.getElem_toArray, List.getElem_cons_succ, List.getElem_cons_zero, List.setIfInBounds_toArray, List.set_cons_zero, List.set_cons_succ]
        refine Script.load (i := 31) (v := ?_) rfl (by kernel_rfl) (by kernel_rfl) (fun _ _ _ h => h) (by kernel_rfl) ?_ ?_
        rotate_left
        · (intro wS hSw; obtain ⟨c0, c1, c2, -, -⟩ := B7.out.later (After.trans (After.drew (After.refl _)) hSw); obtain ⟨r0, r1, r2, -, -, -⟩ := row_facts (row_later R7.out (After.trans (After.drew (After.refl _)) hSw) (row_lt R7.out)); go_simp; try with_reducible rfl)
        try simp only [Act.put, List.getElem_toArray, List.getElem_cons_succ, List.getElem_cons_zero, List.setIfInBounds_toArray, List.set_cons_zero, List.set_cons_succ]
        refine Script.call (i := 32) (v := ?_) rfl (by kernel_rfl) (by kernel_rfl) (fun _ _ _ h => h) (by kernel_rfl) ?_ ?_
        rotate_left
        · (intro wS hSw K hK; obtain ⟨c0, c1, c2, -, -⟩ := B7.out.later (After.trans (After.drew (After.refl _)) hSw); obtain ⟨r0, r1, r2, -, -, -⟩ := row_facts (row_later R7.out (After.trans (After.drew (After.refl _)) hSw) (row_lt R7.out)); go_simp; go_at_call 68; refine (KW.out _ _ _ (ints_own (own_below X7.out (After.trans (After.drew (After.refl _)) hSw)) HN.out)).mono ?_; rintro e wc ⟨rfl, hbc⟩; exact hK.out _ hbc)
        try simp only [Act.put, List.getElem_toArray, List.getElem_cons_succ, List.getElem_cons_zero, List.setIfInBounds_toArray, List.set_cons_zero, List.set_cons_succ]
        refine Script.load (i := 33) (v := ?_) rfl (by kernel_rfl) (by kernel_rfl) (fun _ _ _ h => h) (by kernel_rfl) ?_ ?_
        rotate_left
        · (intro wS hSw; obtain ⟨c0, c1, c2, -, -⟩ := B7.out.later (After.trans (After.drew (After.refl _)) hSw); obtain ⟨r0, r1, r2, -, -, -⟩ := row_facts (row_later R7.out (After.trans (After.drew (After.refl _)) hSw) (row_lt R7.out)); go_simp; try with_reducible rfl)
        try simp only [Act.put, List.getElem_toArray, List.getElem_cons_succ, List.getElem_cons_zero, List.setIfInBounds_toArray, List.set_cons_zero, List.set_cons_succ]
        refine Script.load (i := 34) (v := ?_) rfl (by kernel_rfl) (by kernel_rfl) (fun _ _ _ h => h) (by kernel_rfl) ?_ ?_
        rotate_left
        · (intro wS hSw; obtain ⟨c0, c1, c2, -, -⟩ := B7.out.later (After.trans (After.drew (After.refl _)) hSw); obtain ⟨r0, r1, r2, -, -, -⟩ := row_facts (row_later R7.out (After.trans (After.drew (After.refl _)) hSw) (row_lt R7.out)); go_simp; try with_reducible rfl)
        try simp only [Act.put, List.getElem_toArray, List.getElem_cons_succ, List.getElem_cons_zero, List.setIfInBounds_toArray, List.set_cons_zero, List.set_cons_succ]
        refine Script.load (i := 35) (v := ?_) rfl (by kernel_rfl) (by kernel_rfl) (fun _ _ _ h => h) (by kernel_rfl) ?_ ?_
        rotate_left
        · (intro wS hSw; obtain ⟨c0, c1, c2, -, -⟩ := B7.out.later (After.trans (After.drew (After.refl _)) hSw); obtain ⟨r0, r1, r2, -, -, -⟩ := row_facts (row_later R7.out (After.trans (After.drew (After.refl _)) hSw) (row_lt R7.out)); go_simp; try with_reducible rfl)
        try simp only [Act.put, List.getElem_toArray, List.getElem_cons_succ, List.getElem_cons_zero, List.setIfInBounds_toArray, List.set_cons_zero, List.set_cons_succ]
        refine Script.load (i := 36) (v := ?_) rfl (by kernel_rfl) (by kernel_rfl) (fun _ _ _ h => h) (by kernel_rfl) ?_ ?_
        rotate_left
        · (intro wS hSw; obtain ⟨c0, c1, c2, -, -⟩ := B7.out.later (After.trans (After.drew (After.refl _)) hSw); obtain ⟨r0, r1, r2, -, -, -⟩ := row_facts (row_later R7.out (After.trans (After.drew (After.refl _)) hSw) (row_lt R7.out)); go_simp; try with_reducible rfl)
        try simp only [Act.put, List.getElem_toArray, List.getElem_cons_succ, List.getElem_cons_zero, List.setIfInBounds_toArray, List.set_cons_zero, List.set_cons_succ]
        refine Script.load (i := 37) (v := ?_) rfl (by kernel_rfl) (by kernel_rfl) (fun _ _ _ h => h) (by kernel_rfl) ?_ ?_
        rotate_left
        · (intro wS hSw; obtain ⟨c0, c1, c2, -, -⟩ := B7.out.later (After.trans (After.drew (After.refl _)) hSw); obtain ⟨r0, r1, r2, -, -, -⟩ := row_facts (row_later R7.out (After.trans (After.drew (After.refl _)) hSw) (row_lt R7.out)); go_simp; try with_reducible rfl)
        try simp only [Act.put, List.getElem_toArray, List.getElem_cons_succ, List.getElem_cons_zero, List.setIfInBounds_toArray, List.set_cons_zero, List.set_cons_succ]
        refine Script.call (i := 38) (v := ?_) rfl (by kernel_rfl) (by kernel_rfl) (fun _ _ _ h => h) (by kernel_rfl) ?_ ?_
        rotate_left
        · (intro wS hSw K hK; obtain ⟨c0, c1, c2, -, -⟩ := B7.out.later (After.trans (After.drew (After.refl _)) hSw); obtain ⟨r0, r1, r2, -, -, -⟩ := row_facts (row_later R7.out (After.trans (After.drew (After.refl _)) hSw) (row_lt R7.out)); go_simp; go_at_call 64; refine (KF.out _ _ _ (ints_own (own_below V8.out (After.trans (After.drew (After.refl _)) hSw)) HVL.out)).mono ?_; rintro e wc ⟨rfl, hbc⟩; exact hK.out _ hbc)
        try simp only [Act.put, List.getElem_toArray, List.getElem_cons_succ, List.getElem_cons_zero, List.setIfInBounds_toArray, List.set_cons_zero, List.set_cons_succ]
        refine Script.load (i := 39) (v := ?_) rfl (by kernel_rfl) (by kernel_rfl) (fun _ _ _ h => h) (by kernel_rfl) ?_ ?_
        rotate_left
        · (intro wS hSw; obtain ⟨c0, c1, c2, -, -⟩ := B7.out.later (After.trans (After.drew (After.refl _)) hSw); obtain ⟨r0, r1, r2, -, -, -⟩ := row_facts (row_later R7.out (After.trans (After.drew (After.refl _)) hSw) (row_lt R7.out)); go_simp; try with_reducible rfl)
        try simp only [Act.put, List.getElem_toArray, List.getElem_cons_succ, List.getElem_cons_zero, List.setIfInBounds_toArray, List.set_cons_zero, List.set_cons_succ]
        refine Script.load (i := 40) (v := ?_) rfl (by kernel_rfl) (by kernel_rfl) (fun _ _ _ h => h) (by kernel_rfl) ?_ ?_
        rotate_left
        · (intro wS hSw; obtain ⟨c0, c1, c2, -, -⟩ := B7.out.later (After.trans (After.drew (After.refl _)) hSw); obtain ⟨r0, r1, r2, -, -, -⟩ := row_facts (row_later R7.out (After.trans (After.drew (After.refl _)) hSw) (row_lt R7.out)); go_simp; try with_reducible rfl)
        try simp only [Act.put, List.getElem_toArray, List.getElem_cons_succ, List.getElem_cons_zero, List.setIfInBounds_toArray, List.set_cons_zero, List.set_cons_succ]
        refine Script.load (i := 41) (v := ?_) rfl (by kernel_rfl) (by kernel_rfl) (fun _ _ _ h => h) (by kernel_rfl) ?_ ?_
        rotate_left
        · (intro wS hSw; obtain ⟨c0, c1, c2, -, -⟩ := B7.out.later (After.trans (After.drew (After.refl _)) hSw); obtain ⟨r0, r1, r2, -, -, -⟩ := row_facts (row_later R7.out (After.trans (After.drew (After.refl _)) hSw) (row_lt R7.out)); go_simp; try with_reducible rfl)
        try simp only [Act.put, List.getElem_toArray, List.getElem_cons_succ, List.getElem_cons_zero, List.setIfInBounds_toArray, List.set_cons_zero, List.set_cons_succ]
        refine Script.load (i := 42) (v := ?_) rfl (by kernel_rfl) (by kernel_rfl) (fun _ _ _ h => h) (by kernel_rfl) ?_ ?_
        rotate_left
        · (intro wS hSw; obtain ⟨c0, c1, c2, -, -⟩ := B7.out.later (After.trans (After.drew (After.refl _)) hSw); obtain ⟨r0, r1, r2, -, -, -⟩ := row_facts (row_later R7.out (After.trans (After.drew (After.refl _)) hSw) (row_lt R7.out)); go_simp; try with_reducible rfl)
        try simp only [Act.put, List.getElem_toArray, List.getElem_cons_succ, List.getElem_cons_zero, List.setIfInBounds_toArray, List.set_cons_zero, List.set_cons_succ]
        refine Script.load (i := 43) (v := ?_) rfl (by kernel_rfl) (by kernel_rfl) (fun _ _ _ h => h) (by kernel_rfl) ?_ ?_
        rotate_left
        · (intro wS hSw; obtain ⟨c0, c1, c2, -, -⟩ := B7.out.later (After.trans (After.drew (After.refl _)) hSw); obtain ⟨r0, r1, r2, -, -, -⟩ := row_facts (row_later R7.out (After.trans (After.drew (After.refl _)) hSw) (row_lt R7.out)); go_simp; try with_reducible rfl)
        try simp only [Act.put, List.getElem_toArray, List.getElem_cons_succ, List.getElem_cons_zero, List.setIfInBounds_toArray, List.set_cons_zero, List.set_cons_succ]
        refine Script.load (i := 44) (v := ?_) rfl (by kernel_rfl) (by kernel_rfl) (fun _ _ _ h => h) (by kernel_rfl) ?_ ?_
        rotate_left
        · (intro wS hSw; obtain ⟨c0, c1, c2, -, -⟩ := B7.out.later (After.trans (After.drew (After.refl _)) hSw); obtain ⟨r0, r1, r2, -, -, -⟩ := row_facts (row_later R7.out (After.trans (After.drew (After.refl _)) hSw) (row_lt R7.out)); go_simp; try with_reducible rfl)
        try simp only [Act.put, List.getElem_toArray, List.getElem_cons_succ, List.getElem_cons_zero, List.setIfInBounds_toArray, List.set_cons_zero, List.set_cons_succ]
        refine Script.load (i := 45) (v := ?_) rfl (by kernel_rfl) (by kernel_rfl) (fun _ _ _ h => h) (by kernel_rfl) ?_ ?_
        rotate_left
        · (intro wS hSw; obtain ⟨c0, c1, c2, -, -⟩ := B7.out.later (After.trans (After.drew (After.refl _)) hSw); obtain ⟨r0, r1, r2, -, -, -⟩ := row_facts (row_later R7.out (After.trans (After.drew (After.refl _)) hSw) (row_lt R7.out)); go_simp; try with_reducible rfl)
        try simp only [Act.put, List.getElem_toArray, List.getElem_cons_succ, List.getElem_cons_zero, List.setIfInBounds_toArray, List.set_cons_zero, List.set_cons_succ]
        refine Script.load (i := 46) (v := ?_) rfl (by kernel_rfl) (by kernel_rfl) (fun _ _ _ h => h) (by kernel_rfl) ?_ ?_
        rotate_left
        · (intro wS hSw; obtain ⟨c0, c1, c2, -, -⟩ := B7.out.later (After.trans (After.drew (After.refl _)) hSw); obtain ⟨r0, r1, r2, -, -, -⟩ := row_facts (row_later R7.out (After.trans (After.drew (After.refl _)) hSw) (row_lt R7.out)); go_simp; try with_reducible rfl)
        try simp only [Act.put, List.getElem_toArray, List.getElem_cons_succ, List.getElem_cons_zero, List.setIfInBounds_toArray, List.set_cons_zero, List.set_cons_succ]
        refine Script.call (i := 47) (v := ?_) rfl (by kernel_rfl) (by kernel_rfl) (fun _ _ _ h => h) (by kernel_rfl) ?_ ?_
        rotate_left
        · (intro wS hSw K hK; obtain ⟨c0, c1, c2, -, -⟩ := B7.out.later (After.trans (After.drew (After.refl _)) hSw); obtain ⟨r0, r1, r2, -, -, -⟩ := row_facts (row_later R7.out (After.trans (After.drew (After.refl _)) hSw) (row_lt R7.out)); go_simp; go_at_call 68; refine (K10.out _ _ _ (ints_own (own_below X7.out (After.trans (After.drew (After.refl _)) hSw)) HN.out)).mono ?_; rintro e wc ⟨rfl, hbc⟩; exact hK.out _ hbc)
        try simp only [Act.put, List.getElem_toArray, List.getElem_cons_succ, List.getElem_cons_zero, List.setIfInBounds_toArray, List.set_cons_zero, List.set_cons_succ]
        refine Script.load (i := 48) (v := ?_) rfl (by kernel_rfl) (by kernel_rfl) (fun _ _ _ h => h) (by kernel_rfl) ?_ ?_
        rotate_left
        · (intro wS hSw; obtain ⟨c0, c1, c2, -, -⟩ := B7.out.later (After.trans (After.drew (After.refl _)) hSw); obtain ⟨r0, r1, r2, -, -, -⟩ := row_facts (row_later R7.out (After.trans (After.drew (After.refl _)) hSw) (row_lt R7.out)); go_simp; try with_reducible rfl)
        try simp only [Act.put, List.getElem_toArray, List.getElem_cons_succ, List.getElem_cons_zero, List.setIfInBounds_toArray, List.set_cons_zero, List.set_cons_succ]
        refine Script.load (i := 49) (v := ?_) rfl (by kernel_rfl) (by kernel_rfl) (fun _ _ _ h => h) (by kernel_rfl) ?_ ?_
        rotate_left
        · (intro wS hSw; obtain ⟨c0, c1, c2, -, -⟩ := B7.out.later (After.trans (After.drew (After.refl _)) hSw); obtain ⟨r0, r1, r2, -, -, -⟩ := row_facts (row_later R7.out (After.trans (After.drew (After.refl _)) hSw) (row_lt R7.out)); go_simp; try with_reducible rfl)
        try simp only [Act.put, List.getElem_toArray, List.getElem_cons_succ, List.getElem_cons_zero, List.setIfInBounds_toArray, List.set_cons_zero, List.set_cons_succ]
        refine Script.load (i := 50) (v := ?_) rfl (by kernel_rfl) (by kernel_rfl) (fun _ _ _ h => h) (by kernel_rfl) ?_ ?_
        rotate_left
        · (intro wS hSw; obtain ⟨c0, c1, c2, -, -⟩ := B7.out.later (After.trans (After.drew (After.refl _)) hSw); obtain ⟨r0, r1, r2, -, -, -⟩ := row_facts (row_later R7.out (After.trans (After.drew (After.refl _)) hSw) (row_lt R7.out)); go_simp; try with_reducible rfl)
        try simp only [Act.put, List.getElem_toArray, List.getElem_cons_succ, List.getElem_cons_zero, List.setIfInBounds_toArray, List.set_cons_zero, List.set_cons_succ]
        refine Script.done (by kernel_rfl) ?_
        intro wD hD hG
        have hb7 := After.trans (After.drew (After.refl w7)) hD
        have HF := Lib.hid (HB1.out.trans ((B7.out.later hb7).2.2.2.2.mono hsz))
        clear hb7 hD hG B7 X7 R7
        go_wp2_with fail
        go_ret
        exact ⟨rfl, HF.out⟩
set_option maxRecDepth 100000 in
theorem walk_far {a0 : Option Addr} {len cap : Nat} (w : World) (h : 1048576 < len) :
    Calls Try.prog 9 #[.slice a0 len cap] w fun e w' => e = .returned (.bool true) ∧ Below w.heap.size w w' := by
  go_enter Try.func9, Try.ntmps9
  go_wp2_with fail
  refine (big_yes _ h).mono ?_
  rintro e w' ⟨rfl, rfl⟩
  go_wp2_with fail
  go_ret
  exact ⟨rfl, Below.refl _ _⟩
theorem walk (a0 : Option Addr) (len0 cap0 : Nat) (z0 : List Int) (w : World) (w0 : IsRow .u8 w a0 len0 cap0 z0) :
    Calls Try.prog 9 #[.slice a0 len0 cap0] w fun e w' => e = .returned (.bool true) ∧ Below w.heap.size w w' := by
  by_cases h2 : len0 ≤ 1048576
  · exact walk_in w (code_of w0 h2)
  · exact walk_far w (by omega)
set_option maxRecDepth 100000 in
theorem lifted (os : Os) (started : os.Started) (H : Type) (enc : TypeId × Value → H) :
    ReturnsInHanded {} Try.checked os 9 .any (Rows.fnWeightsSpec.pre6 enc Try.prog Try.f9 Rows.fnWeightsRow.domain false) (Rows.fnWeightsSpec.post enc Try.prog Try.f9 false true false false) := by
  refine returnsInHanded_of_change (C := Try.checked) own started (by kernel_rfl) Try.func9
    (ChangeSpec.witness6 (enc := enc) (C := Try.checked) false ⟨#[], #[.slice none 0 0], []⟩ 8 (by kernel_rfl) (by kernel_rfl) (by kernel_rfl) (by kernel_rfl)) ?_
  intro W base args ds gs before hval0 hW hcnd _
  have hval : ∀ (j : Nat) t v, Try.f9.params[j]? = some t → args[j]? = some v → Value.okWide Try.prog W .any base t v := hval0
  have hW' := hW
  obtain ⟨p, q, hA0, hV, rfl, hfz, hnd⟩ := hW
  have hA : DataW.TrodAll enc Try.prog W 0 (fun _ => true) true Try.f9.params.toList args.toList ds p := hA0
  rw [Try.params9] at hA hval
  obtain ⟨v0, vs0, d0, ds0, p0, q0, hargs, rfl, rfl, h0, r0⟩ := trodAll_cons hA
  obtain ⟨rfl, rfl, rfl⟩ := trodAll_nil r0
  obtain rfl : args = #[v0] := by cases args; simp_all
  obtain ⟨rfl, rfl⟩ := trodVars_none hV
  obtain ⟨a0, len0, cap0, rfl⟩ := okWide_slice Try.underlying22 (hval 0 22 v0 rfl rfl)
  have k0 := h0
  have lt0 : ∀ x ∈ p0, x.block < W.heap.size := by obtain ⟨m, hm⟩ := k0; exact DataW.trod_lt m _ _ _ hm
  obtain ⟨z0, w0⟩ : ∃ zs, IsRow .u8 W a0 len0 cap0 zs := by
    obtain ⟨fuel, hf⟩ := h0
    rcases open_ints Try.underlying22 Try.underlying5 (by kernel_rfl) hf with ⟨hcs, _⟩ | ⟨x, l, c, zs, hcs, _, hl, hm, hz, _, hcell, hwz⟩
    · simp [Value.cells] at hcs
      obtain ⟨rfl, rfl, rfl⟩ := hcs
      exact ⟨[], .inl ⟨rfl, rfl, rfl, rfl⟩⟩
    · simp [Value.cells] at hcs
      obtain ⟨rfl, rfl, rfl⟩ := hcs
      exact ⟨zs, .inr ⟨_, rfl, hl, hm, by simpa using hz, hcell, hwz⟩⟩
  clear hA0 hval0
  refine (walk a0 len0 cap0 z0 W w0).mono fun e W' ⟨he, bel⟩ => ?_
  subst he
  exact ⟨_, rfl, _, _, _, [], _, [], hW', trodAll_mk1 (shut_bool Try.underlying4 _), (trodAll_cons_mk (Below.trod laidOut (by kernel_rfl) (of_decide_eq_true (by kernel_rfl)) k0 bel lt0) trodAll_mk0), rfl, bel.frame _, fun h => by cases h⟩

theorem over : Rows.fnWeightsRow.holds Try.pinned (OpenSpec.ofChange Rows.fnWeightsSpec) :=
  OpenClaim.holds_of_wide 9 Try.f9 rfl rfl rfl rfl rfl rfl rfl ⟨rfl, rfl, rfl, rfl, rfl⟩ rfl rfl rfl rfl rfl (by kernel_rfl) Try.func9 (by kernel_rfl)
    (of_decide_eq_true (by kernel_rfl)) (by unfold Func.isWrapper; first | (rw [if_pos (by decide +kernel)]; kernel_rfl) | (rw [if_neg (by decide +kernel)]; exact ⟨rfl, rfl⟩))
    (fun os started H enc _ => lifted os started H enc)

theorem proved : Rows.FnWeightsSaid := over
end Go.Proofs.Ytpdhdogllejdbaa.fnWeights
