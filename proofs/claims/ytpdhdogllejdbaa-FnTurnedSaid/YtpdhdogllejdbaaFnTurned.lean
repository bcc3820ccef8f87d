/- The law FnTurned returns true for every code: of a drawn game, from a position to its end: it can be turned; the complement of the position's complement is the position; that is its complement, and the two together have a peg for each hole; the game turned has as many jumps, turned again it is the game; it leads from the complement of the end to the complement of the position. -/
import Derived.Test.YtpdhdogllejdbaaRows
import Derived.WalkKit
import Derived.WalkSpells
import Derived.ProofKit
import Derived.OpenShut
import Derived.ShutString
import Derived.ChangeOld
import Derived.Below
import Derived.Lib.Hide
import Derived.Lib.SmallJoins
import Derived.ChangeArms
import Derived.Test.YtpdhdogllejdbaaDrawGame
import Derived.Test.YtpdhdogllejdbaaTurns
namespace Go.Proofs.Ytpdhdogllejdbaa.fnTurned
open Go.ChangeShapes Go.WideShapes Go.ChangeAt Go.RowKit
open Go.ChangeMaps (open_string shut_string)
set_option linter.unusedVariables false
set_option linter.unusedSimpArgs false
theorem own : ownKnob Try.prog.godebug = none := by kernel_rfl
theorem laidOut : laidOutB Try.prog = true := by kernel_rfl
/-- What the walk is told of a slice of integers that came in. -/
def IsRow (k : IntKind) (w : World) (a : Option Addr) (len cap : Nat) (zs : List Int) : Prop :=
  (a = none ∧ len = 0 ∧ cap = 0 ∧ zs = []) ∨
  ∃ x, a = some x ∧ len ≤ cap ∧ cap ≤ maxLen ∧ zs.length = cap ∧ (∀ i, i < zs.length → w.cell? (x.add i) = some (.int k (zs.getD i 0))) ∧ ∀ n ∈ zs, (Lit.int k n).wf = true
set_option maxHeartbeats 8000000 in
set_option maxRecDepth 100000 in
theorem walk_in {a0 : Option Addr} {len cap : Nat} (w : World) (hcode : CodeAt w a0 len) :
    Calls Try.prog 8 #[.slice a0 len cap] w fun e w' => e = .returned (.bool true) ∧ Below w.heap.size w w' := by
  have HCO := Lib.hid hcode
  clear hcode
  go_enter Try.func8, Try.ntmps8
  go_wp2_with fail
  refine (big_no _ HCO.out.1).mono ?_
  rintro e w' ⟨rfl, rfl⟩
  go_wp2_with fail
  refine (drawGame w HCO.out).mono ?_
  rintro e w1 ⟨W, H, N, z, r, n, xs, q0, v, ho, hN16, hpr, hn, hn11, hrun, rfl, hx1, hb1⟩
  unfold bd
  have hrb := hpr.big ho
  have hpos := pos_of ho hpr
  have hr63 : (r : Int) ≤ 9223372036854775807 := by omega
  obtain ⟨hposq, -⟩ := run_back hpos hrun
  obtain ⟨q, hq, hqb⟩ := run_nat (P := (r : Int)) ⟨r, rfl, hrb⟩ hrun xs.length (Nat.le_refl _)
  rw [List.take_length, ← run_end hrun] at hq
  subst hq
  have hq63 : (q : Int) ≤ 9223372036854775807 := by omega
  have hpq : Part q z := by rw [posB_nat ho] at hposq; exact partB_iff.1 hposq
  have hplay : playB W H z r xs = ((q : Int), true) := allB_yes hpos (by omega) hrun
  have hcan := can_yes hpos (by omega) hrun
  have hsol := turn_sol hposq (by omega) hrun
  have ho1 := other_nat ho hpr
  have ho2 := other_nat ho hpq
  have ho3 := other_other hpos
  have hcm : complB W H z r (otherB W H z r) = true := by simp [complB, hpos]
  have hcn : pc 49 r + pc 49 (compN z r) = (bitsOf N z).length := by rw [Nat.add_comm, pc_comp hpr, bitsOf_length]; exact pc_more ho.zlt 49 ho.n49
  have hcb : compN z r < 562949953421312 := Nat.lt_of_le_of_lt (part_comp z r).le ho.zbig
  have hdb : compN z q < 562949953421312 := Nat.lt_of_le_of_lt (part_comp z q).le ho.zbig
  have hnr : xs.reverse.length = n := by rw [List.length_reverse, hn]
  rw [ho1] at ho3 hcm hsol
  rw [ho2] at hsol
  have K1 := Lib.hid (fun (B gc : Nat) (ga : Option Addr) w (hh : w.ownsRow B 31 3 (.slice ga n gc) n (lv xs)) => specPlay W H z r hr63 xs hn (by omega) w hh)
  have K2 := Lib.hid (fun w => implOther W H z r hr63 w)
  have K3 := Lib.hid (fun (B gc : Nat) (ga : Option Addr) w (hh : w.ownsRow B 31 3 (.slice ga n gc) n (lv xs)) => implTurnGame xs hn (by omega) w hh)
  have K4 := Lib.hid (fun (B gc : Nat) (ga : Option Addr) w (hh : w.ownsRow B 31 3 (.slice ga n gc) n (lv xs)) => implCanTurn W H z r hr63 xs hn (by omega) w hh)
  have K5 := Lib.hid (fun w => implOther W H z (compN z r : Nat) (by omega) w)
  have K6 := Lib.hid (fun w => implCompl W H z r (compN z r : Nat) hr63 (by omega) w)
  have K7 := Lib.hid (fun w => specPegs_yes ho hpr w)
  have K8 := Lib.hid (fun w => specPegs_yes ho (part_comp z r) w)
  have K9 := Lib.hid (fun w => specCount ho w)
  have K10 : Hid (∀ (B gc : Nat) (ga : Option Addr) w, w.ownsRow B 31 3 (.slice ga n gc) n (lv xs.reverse) → Calls Try.prog 57 #[.slice ga n gc] w (OwnLines xs w)) := fun B gc ga w hh => by
    have := implTurnGame xs.reverse hnr (by omega) w hh
    rwa [List.reverse_reverse] at this
  have K11 := Lib.hid (fun w => implOther W H z q hq63 w)
  have K12 := Lib.hid (fun (B gc : Nat) (ga : Option Addr) w (hh : w.ownsRow B 31 3 (.slice ga n gc) n (lv xs.reverse)) => specSol W H z (compN z q : Nat) (compN z r : Nat) (by omega) xs.reverse hnr (by omega) w hh)
  rw [hplay] at K1
  rw [ho1] at K2
  rw [hcan] at K4
  rw [ho3] at K5
  rw [hcm] at K6
  rw [ho2] at K11
  rw [hsol] at K12
  have hcp49 := pc_le 49 r
  have hcc49 := pc_le 49 (compN z r)
  generalize pc 49 r = cp at *
  generalize pc 49 (compN z r) = cc at *
  generalize compN z r = c at *
  generalize compN z q = d at *
  generalize (bitsOf N z).length = cz at *
  have hwa : IntKind.i64.wrap ((cp : Int) + (cc : Int)) = (cz : Int) := by rw [show (cp : Int) + (cc : Int) = (cz : Int) by omega]; exact IntWalk.i64_in _ (by omega)
  have HN := Lib.hid hn
  have HNR := Lib.hid hnr
  clear hnr ho hpr hN16 hrun hpos hposq hpq hplay hcan hsol ho1 ho2 ho3 hcm hcn HCO hrb hcb hdb
  have B0 := Lib.hid (box_newT 25 W H z w1)
  have X0 := Lib.hid (own_below hx1 ((Below.refl _ _).alloc (Nat.le_refl _) (.cells #[.int .i64 W, .int .i64 H, .int .i64 (z : Int)] 25)))
  obtain ⟨ga, gc, rfl⟩ := lines_form hx1
  clear hx1
  have hsz : w.heap.size ≤ w1.heap.size := hb1.size
  have HB1 := Lib.hid hb1
  clear hb1
  obtain ⟨c0, c1, c2, hlt, hbw⟩ := B0.out
  go_wp2_with fail
  clear c0 c1 c2 hlt hbw
  generalize w1.alloc (.cells #[.int .i64 W, .int .i64 H, .int .i64 (z : Int)] 25) = w2 at *
  refine (K1.out _ _ _ _ X0.out).mono ?_
  rintro e w3 ⟨rfl, hb⟩
  have B1 := Lib.hid (B0.out.later hb)
  have X1 := Lib.hid (own_below X0.out hb)
  clear hb B0 X0
  obtain ⟨c0, c1, c2, hlt, hbw⟩ := B1.out
  go_wp2_with fail
  refine (K2.out _).mono ?_
  rintro e w4 ⟨rfl, hb⟩
  have B2 := Lib.hid (B1.out.later hb)
  have X2 := Lib.hid (own_below X1.out hb)
  clear hb c0 c1 c2 hlt hbw B1 X1
  go_wp2_with fail
  refine (K3.out _ _ _ _ X2.out).mono ?_
  rintro e w5 ⟨tv, rfl, hh, hb⟩
  have B3 := Lib.hid (B2.out.later hb)
  have X3 := Lib.hid (own_below X2.out hb)
  rw [HNR.out] at hh
  obtain ⟨ta, tc, rfl⟩ := lines_form hh
  have T3 := Lib.hid hh
  clear hh hb B2 X2 K1 K2 K3
  go_wp2_with fail
  refine wp_region_script (by kernel_rfl) (by kernel_rfl) ?_
  refine Script.load (i := 0) (v := ?_) rfl (by kernel_rfl) (by kernel_rfl) (fun _ _ _ h => h) (by kernel_rfl) ?_ ?_
  rotate_left
  · (intro wS hSw; obtain ⟨c0, c1, c2, -, -⟩ := B3.out.later (After.trans (After.drew (After.refl _)) hSw); go_simp; try with_reducible rfl)
  try simp only [Act.put, List.getElem_toArray, List.getElem_cons_succ, List.getElem_cons_zero, List.setIfInBounds_toArray, List.set_cons_zero, List.set_cons_succ]
  refine Script.load (i := 1) (v := ?_) rfl (by kernel_rfl) (by kernel_rfl) (fun _ _ _ h => h) (by kernel_rfl) ?_ ?_
  rotate_left
  · (intro wS hSw; obtain ⟨c0, c1, c2, -, -⟩ := B3.out.later (After.trans (After.drew (After.refl _)) hSw); go_simp; try with_reducible rfl)
  try simp only [Act.put, List.getElem_toArray, List.getElem_cons_succ, List.getElem_cons_zero, List.setIfInBounds_toArray, List.set_cons_zero, List.set_cons_succ]
  refine Script.load (i := 2) (v := ?_) rfl (by kernel_rfl) (by kernel_rfl) (fun _ _ _ h => h) (by kernel_rfl) ?_ ?_
  rotate_left
  · (intro wS hSw; obtain ⟨c0, c1, c2, -, -⟩ := B3.out.later (After.trans (After.drew (After.refl _)) hSw); go_simp; try with_reducible rfl)
  try simp only [Act.put, List.getElem_toArray, List.getElem_cons_succ, List.getElem_cons_zero, List.setIfInBounds_toArray, List.set_cons_zero, List.set_cons_succ]
  refine Script.call (i := 3) (v := ?_) rfl (by kernel_rfl) (by kernel_rfl) (fun _ _ _ h => h) (by kernel_rfl) ?_ ?_
  rotate_left
  · (intro wS hSw K hK; obtain ⟨c0, c1, c2, -, -⟩ := B3.out.later (After.trans (After.drew (After.refl _)) hSw); go_simp; go_at_call 58; refine (K4.out _ _ _ _ (own_below X3.out (After.trans (After.drew (After.refl _)) hSw))).mono ?_; rintro e wc ⟨rfl, hbc⟩; exact hK.out _ hbc)
  try simp only [Act.put, List.getElem_toArray, List.getElem_cons_succ, List.getElem_cons_zero, List.setIfInBounds_toArray, List.set_cons_zero, List.set_cons_succ]
  refine Script.load (i := 4) (v := ?_) rfl (by kernel_rfl) (by kernel_rfl) (fun _ _ _ h => h) (by kernel_rfl) ?_ ?_
  rotate_left
  · (intro wS hSw; obtain ⟨c0, c1, c2, -, -⟩ := B3.out.later (After.trans (After.drew (After.refl _)) hSw); go_simp; try with_reducible rfl)
  try simp only [Act.put, List.getElem_toArray, List.getElem_cons_succ, List.getElem_cons_zero, List.setIfInBounds_toArray, List.set_cons_zero, List.set_cons_succ]
  refine Script.load (i := 5) (v := ?_) rfl (by kernel_rfl) (by kernel_rfl) (fun _ _ _ h => h) (by kernel_rfl) ?_ ?_
  rotate_left
  · (intro wS hSw; obtain ⟨c0, c1, c2, -, -⟩ := B3.out.later (After.trans (After.drew (After.refl _)) hSw); go_simp; try with_reducible rfl)
  try simp only [Act.put, List.getElem_toArray, List.getElem_cons_succ, List.getElem_cons_zero, List.setIfInBounds_toArray, List.set_cons_zero, List.set_cons_succ]
  refine Script.load (i := 6) (v := ?_) rfl (by kernel_rfl) (by kernel_rfl) (fun _ _ _ h => h) (by kernel_rfl) ?_ ?_
  rotate_left
  · (intro wS hSw; obtain ⟨c0, c1, c2, -, -⟩ := B3.out.later (After.trans (After.drew (After.refl _)) hSw); go_simp; try with_reducible rfl)
  try simp only [Act.put, List.getElem_toArray, List.getElem_cons_succ, List.getElem_cons_zero, List.setIfInBounds_toArray, List.set_cons_zero, List.set_cons_succ]
  refine Script.call (i := 7) (v := ?_) rfl (by kernel_rfl) (by kernel_rfl) (fun _ _ _ h => h) (by kernel_rfl) ?_ ?_
  rotate_left
  · (intro wS hSw K hK; obtain ⟨c0, c1, c2, -, -⟩ := B3.out.later (After.trans (After.drew (After.refl _)) hSw); go_simp; go_at_call 56; refine (K5.out _).mono ?_; rintro e wc ⟨rfl, hbc⟩; exact hK.out _ hbc)
  try simp only [Act.put, List.getElem_toArray, List.getElem_cons_succ, List.getElem_cons_zero, List.setIfInBounds_toArray, List.set_cons_zero, List.set_cons_succ]
  refine Script.load (i := 8) (v := ?_) rfl (by kernel_rfl) (by kernel_rfl) (fun _ _ _ h => h) (by kernel_rfl) ?_ ?_
  rotate_left
  · (intro wS hSw; obtain ⟨c0, c1, c2, -, -⟩ := B3.out.later (After.trans (After.drew (After.refl _)) hSw); go_simp; try with_reducible rfl)
  try simp only [Act.put, List.getElem_toArray, List.getElem_cons_succ, List.getElem_cons_zero, List.setIfInBounds_toArray, List.set_cons_zero, List.set_cons_succ]
  refine Script.load (i := 9) (v := ?_) rfl (by kernel_rfl) (by kernel_rfl) (fun _ _ _ h => h) (by kernel_rfl) ?_ ?_
  rotate_left
  · (intro wS hSw; obtain ⟨c0, c1, c2, -, -⟩ := B3.out.later (After.trans (After.drew (After.refl _)) hSw); go_simp; try with_reducible rfl)
  try simp only [Act.put, List.getElem_toArray, List.getElem_cons_succ, List.getElem_cons_zero, List.setIfInBounds_toArray, List.set_cons_zero, List.set_cons_succ]
  refine Script.load (i := 10) (v := ?_) rfl (by kernel_rfl) (by kernel_rfl) (fun _ _ _ h => h) (by kernel_rfl) ?_ ?_
  rotate_left
  · (intro wS hSw; obtain ⟨c0, c1, c2, -, -⟩ := B3.out.later (After.trans (After.drew (After.refl _)) hSw); go_simp; try with_reducible rfl)
  try simp only [Act.put, List.getElem_toArray, List.getElem_cons_succ, List.getElem_cons_zero, List.setIfInBounds_toArray, List.set_cons_zero, List.set_cons_succ]
  refine Script.load (i := 11) (v := ?_) rfl (by kernel_rfl) (by kernel_rfl) (fun _ _ _ h => h) (by kernel_rfl) ?_ ?_
  rotate_left
  · (intro wS hSw; obtain ⟨c0, c1, c2, -, -⟩ := B3.out.later (After.trans (After.drew (After.refl _)) hSw); go_simp; try with_reducible rfl)
  try simp only [Act.put, List.getElem_toArray, List.getElem_cons_succ, List.getElem_cons_zero, List.setIfInBounds_toArray, List.set_cons_zero, List.set_cons_succ]
  refine Script.load (i := 12) (v := ?_) rfl (by kernel_rfl) (by kernel_rfl) (fun _ _ _ h => h) (by kernel_rfl) ?_ ?_
  rotate_left
  · (intro wS hSw; obtain ⟨c0, c1, c2, -, -⟩ := B3.out.later (After.trans (After.drew (After.refl _)) hSw); go_simp; try with_reducible rfl)
  try simp only [Act.put, List.getElem_toArray, List.getElem_cons_succ, List.getElem_cons_zero, List.setIfInBounds_toArray, List.set_cons_zero, List.set_cons_succ]
  refine Script.load (i := 13) (v := ?_) rfl (by kernel_rfl) (by kernel_rfl) (fun _ _ _ h => h) (by kernel_rfl) ?_ ?_
  rotate_left
  · (intro wS hSw; obtain ⟨c0, c1, c2, -, -⟩ := B3.out.later (After.trans (After.drew (After.refl _)) hSw); go_simp; try with_reducible rfl)
  try simp only [Act.put, List.getElem_toArray, List.getElem_cons_succ, List.getElem_cons_zero, List.setIfInBounds_toArray, List.set_cons_zero, List.set_cons_succ]
  refine Script.load (i := 14) (v := ?_) rfl (by kernel_rfl) (by kernel_rfl) (fun _ _ _ h => h) (by kernel_rfl) ?_ ?_
  rotate_left
  · (intro wS hSw; obtain ⟨c0, c1, c2, -, -⟩ := B3.out.later (After.trans (After.drew (After.refl _)) hSw); go_simp; try with_reducible rfl)
  try simp only [Act.put, List.getElem_toArray, List.getElem_cons_succ, List.getElem_cons_zero, List.setIfInBounds_toArray, List.set_cons_zero, List.set_cons_succ]
  refine Script.call (i := 15) (v := ?_) rfl (by kernel_rfl) (by kernel_rfl) (fun _ _ _ h => h) (by kernel_rfl) ?_ ?_
  rotate_left
  · (intro wS hSw K hK; obtain ⟨c0, c1, c2, -, -⟩ := B3.out.later (After.trans (After.drew (After.refl _)) hSw); go_simp; go_at_call 59; refine (K6.out _).mono ?_; rintro e wc ⟨rfl, hbc⟩; exact hK.out _ hbc)
  try simp only [Act.put, List.getElem_toArray, List.getElem_cons_succ, List.getElem_cons_zero, List.setIfInBounds_toArray, List.set_cons_zero, List.set_cons_succ]
  refine Script.load (i := 16) (v := ?_) rfl (by kernel_rfl) (by kernel_rfl) (fun _ _ _ h => h) (by kernel_rfl) ?_ ?_
  rotate_left
  · (intro wS hSw; obtain ⟨c0, c1, c2, -, -⟩ := B3.out.later (After.trans (After.drew (After.refl _)) hSw); go_simp; try with_reducible rfl)
  try simp only [Act.put, List.getElem_toArray, List.getElem_cons_succ, List.getElem_cons_zero, List.setIfInBounds_toArray, List.set_cons_zero, List.set_cons_succ]
  refine Script.load (i := 17) (v := ?_) rfl (by kernel_rfl) (by kernel_rfl) (fun _ _ _ h => h) (by kernel_rfl) ?_ ?_
  rotate_left
  · (intro wS hSw; obtain ⟨c0, c1, c2, -, -⟩ := B3.out.later (After.trans (After.drew (After.refl _)) hSw); go_simp; try with_reducible rfl)
  try simp only [Act.put, List.getElem_toArray, List.getElem_cons_succ, List.getElem_cons_zero, List.setIfInBounds_toArray, List.set_cons_zero, List.set_cons_succ]
  refine Script.load (i := 18) (v := ?_) rfl (by kernel_rfl) (by kernel_rfl) (fun _ _ _ h => h) (by kernel_rfl) ?_ ?_
  rotate_left
  · (intro wS hSw; obtain ⟨c0, c1, c2, -, -⟩ := B3.out.later (After.trans (After.drew (After.refl _)) hSw); go_simp; try with_reducible rfl)
  try simp only [Act.put, List.getElem_toArray, List.getElem_cons_succ, List.getElem_cons_zero, List.setIfInBounds_toArray, List.set_cons_zero, List.set_cons_succ]
  refine Script.load (i := 19) (v := ?_) rfl (by kernel_rfl) (by kernel_rfl) (fun _ _ _ h => h) (by kernel_rfl) ?_ ?_
  rotate_left
  · (intro wS hSw; obtain ⟨c0, c1, c2, -, -⟩ := B3.out.later (After.trans (After.drew (After.refl _)) hSw); go_simp; try with_reducible rfl)
  try simp only [Act.put, List.getElem_toArray, List.getElem_cons_succ, List.getElem_cons_zero, List.setIfInBounds_toArray, List.set_cons_zero, List.set_cons_succ]
  refine Script.call (i := 20) (v := ?_) rfl (by kernel_rfl) (by kernel_rfl) (fun _ _ _ h => h) (by kernel_rfl) ?_ ?_
  rotate_left
  · (intro wS hSw K hK; obtain ⟨c0, c1, c2, -, -⟩ := B3.out.later (After.trans (After.drew (After.refl _)) hSw); go_simp; go_at_call 38; refine (K7.out _).mono ?_; rintro e wc ⟨rfl, hbc⟩; exact hK.out _ hbc)
  try simp only [Act.put, List.getElem_toArray, List.getElem_cons_succ, List.getElem_cons_zero, List.setIfInBounds_toArray, List.set_cons_zero, List.set_cons_succ]
  refine Script.load (i := 21) (v := ?_) rfl (by kernel_rfl) (by kernel_rfl) (fun _ _ _ h => h) (by kernel_rfl) ?_ ?_
  rotate_left
  · (intro wS hSw; obtain ⟨c0, c1, c2, -, -⟩ := B3.out.later (After.trans (After.drew (After.refl _)) hSw); go_simp; try with_reducible rfl)
  try simp only [Act.put, List.getElem_toArray, List.getElem_cons_succ, List.getElem_cons_zero, List.setIfInBounds_toArray, List.set_cons_zero, List.set_cons_succ]
  refine Script.load (i := 22) (v := ?_) rfl (by kernel_rfl) (by kernel_rfl) (fun _ _ _ h => h) (by kernel_rfl) ?_ ?_
  rotate_left
  · (intro wS hSw; obtain ⟨c0, c1, c2, -, -⟩ := B3.out.later (After.trans (After.drew (After.refl _)) hSw); go_simp; try with_reducible rfl)
  try simp only [Act.put, List.getElem_toArray, List.getElem_cons_succ, List.getElem_cons_zero, List.setIfInBounds_toArray, List.set_cons_zero, List.set_cons_succ]
  refine Script.call (i := 23) (v := ?_) rfl (by kernel_rfl) (by kernel_rfl) (fun _ _ _ h => h) (by kernel_rfl) ?_ ?_
  rotate_left
  · (intro wS hSw K hK; obtain ⟨c0, c1, c2, -, -⟩ := B3.out.later (After.trans (After.drew (After.refl _)) hSw); go_simp; go_at_call 38; refine (K8.out _).mono ?_; rintro e wc ⟨rfl, hbc⟩; exact hK.out _ hbc)
  try simp only [Act.put, List.getElem_toArray, List.getElem_cons_succ, List.getElem_cons_zero, List.setIfInBounds_toArray, List.set_cons_zero, List.set_cons_succ]
  refine Script.load (i := 24) (v := ?_) rfl (by kernel_rfl) (by kernel_rfl) (fun _ _ _ h => h) (by kernel_rfl) ?_ ?_
  rotate_left
  · (intro wS hSw; obtain ⟨c0, c1, c2, -, -⟩ := B3.out.later (After.trans (After.drew (After.refl _)) hSw); go_simp; try with_reducible rfl)
  try simp only [Act.put, List.getElem_toArray, List.getElem_cons_succ, List.getElem_cons_zero, List.setIfInBounds_toArray, List.set_cons_zero, List.set_cons_succ]
  refine Script.load (i := 25) (v := ?_) rfl (by kernel_rfl) (by kernel_rfl) (fun _ _ _ h => h) (by kernel_rfl) ?_ ?_
  rotate_left
  · (intro wS hSw; obtain ⟨c0, c1, c2, -, -⟩ := B3.out.later (After.trans (After.drew (After.refl _)) hSw); go_simp; try with_reducible rfl)
  try simp only [Act.put, List.getElem_toArray, List.getElem_cons_succ, List.getElem_cons_zero, List.setIfInBounds_toArray, List.set_cons_zero, List.set_cons_succ]
  refine Script.call (i := 26) (v := ?_) rfl (by kernel_rfl) (by kernel_rfl) (fun _ _ _ h => h) (by kernel_rfl) ?_ ?_
  rotate_left
  · (intro wS hSw K hK; obtain ⟨c0, c1, c2, -, -⟩ := B3.out.later (After.trans (After.drew (After.refl _)) hSw); go_simp; go_at_call 60; refine (K9.out _).mono ?_; rintro e wc ⟨rfl, hbc⟩; exact hK.out _ hbc)
  try simp only [Act.put, List.getElem_toArray, List.getElem_cons_succ, List.getElem_cons_zero, List.setIfInBounds_toArray, List.set_cons_zero, List.set_cons_succ]
  refine Script.load (i := 27) (v := ?_) rfl (by kernel_rfl) (by kernel_rfl) (fun _ _ _ h => h) (by kernel_rfl) ?_ ?_
  rotate_left
  · (intro wS hSw; obtain ⟨c0, c1, c2, -, -⟩ := B3.out.later (After.trans (After.drew (After.refl _)) hSw); go_simp; try with_reducible rfl)
  try simp only [Act.put, List.getElem_toArray, List.getElem_cons_succ, List.getElem_cons_zero, List.setIfInBounds_toArray, List.set_cons_zero, List.set_cons_succ]
  refine Script.load (i := 28) (v := ?_) rfl (by kernel_rfl) (by kernel_rfl) (fun _ _ _ h => h) (by kernel_rfl) ?_ ?_
  rotate_left
  · (intro wS hSw; obtain ⟨c0, c1, c2, -, -⟩ := B3.out.later (After.trans (After.drew (After.refl _)) hSw); go_simp; try with_reducible rfl)
  try simp only [Act.put, List.getElem_toArray, List.getElem_cons_succ, List.getElem_cons_zero, List.setIfInBounds_toArray, List.set_cons_zero, List.set_cons_succ]
  refine Script.load (i := 29) (v := ?_) rfl (by kernel_rfl) (by kernel_rfl) (fun _ _ _ h => h) (by kernel_rfl) ?_ ?_
  rotate_left
  · (intro wS hSw; obtain ⟨c0, c1, c2, -, -⟩ := B3.out.later (After.trans (After.drew (After.refl _)) hSw); go_simp; try with_reducible rfl)
  try simp only [Act.put, List.getElem_toArray, List.getElem_cons_succ, List.getElem_cons_zero, List.setIfInBounds_toArray, List.set_cons_zero, List.set_cons_succ]
  refine Script.load (i := 30) (v := ?_) rfl (by kernel_rfl) (by kernel_rfl) (fun _ _ _ h => h) (by kernel_rfl) ?_ ?_
  rotate_left
  · (intro wS hSw; obtain ⟨c0, c1, c2, -, -⟩ := B3.out.later (After.trans (After.drew (After.refl _)) hSw); go_simp; try with_reducible rfl)
  try simp only [Act.put, List.getElem_toArray, List.getElem_cons_succ, List.getElem_cons_zero, List.setIfInBounds_toArray, List.set_cons_zero, List.set_cons_succ]
  refine Script.load (i := 31) (v := ?_) rfl (by kernel_rfl) (by kernel_rfl) (fun _ _ _ h => h) (by kernel_rfl) ?_ ?_
  rotate_left
  · (intro wS hSw; obtain ⟨c0, c1, c2, -, -⟩ := B3.out.later (After.trans (After.drew (After.refl _)) hSw); go_simp; try with_reducible rfl)
  try simp only [Act.put, List.getElem_toArray, List.getElem_cons_succ, List.getElem_cons_zero, List.setIfInBounds_toArray, List.set_cons_zero, List.set_cons_succ]
  refine Script.load (i := 32) (v := ?_) rfl (by kernel_rfl) (by kernel_rfl) (fun _ _ _ h => h) (by kernel_rfl) ?_ ?_
  rotate_left
  · (intro wS hSw; obtain ⟨c0, c1, c2, -, -⟩ := B3.out.later (After.trans (After.drew (After.refl _)) hSw); go_simp; try with_reducible rfl)
  try simp only [Act.put, List.getElem_toArray, List.getElem_cons_succ, List.getElem_cons_zero, List.setIfInBounds_toArray, List.set_cons_zero, List.set_cons_succ]
  refine Script.load (i := 33) (v := ?_) rfl (by kernel_rfl) (by kernel_rfl) (fun _ _ _ h => h) (by kernel_rfl) ?_ ?_
  rotate_left
  · (intro wS hSw; obtain ⟨c0, c1, c2, -, -⟩ := B3.out.later (After.trans (After.drew (After.refl _)) hSw); go_simp; try with_reducible rfl)
  try simp only [Act.put, List.getElem_toArray, List.getElem_cons_succ, List.getElem_cons_zero, List.setIfInBounds_toArray, List.set_cons_zero, List.set_cons_succ]
  refine Script.load (i := 34) (v := ?_) rfl (by kernel_rfl) (by kernel_rfl) (fun _ _ _ h => h) (by kernel_rfl) ?_ ?_
  rotate_left
  · (intro wS hSw; obtain ⟨c0, c1, c2, -, -⟩ := B3.out.later (After.trans (After.drew (After.refl _)) hSw); go_simp; try with_reducible rfl)
  try simp only [Act.put, List.getElem_toArray, List.getElem_cons_succ, List.getElem_cons_zero, List.setIfInBounds_toArray, List.set_cons_zero, List.set_cons_succ]
  refine Script.load (i := 35) (v := ?_) rfl (by kernel_rfl) (by kernel_rfl) (fun _ _ _ h => h) (by kernel_rfl) ?_ ?_
  rotate_left
  · (intro wS hSw; obtain ⟨c0, c1, c2, -, -⟩ := B3.out.later (After.trans (After.drew (After.refl _)) hSw); go_simp; try with_reducible rfl)
  try simp only [Act.put, List.getElem_toArray, List.getElem_cons_succ, List.getElem_cons_zero, List.setIfInBounds_toArray, List.set_cons_zero, List.set_cons_succ]
  refine Script.load (i := 36) (v := ?_) rfl (by kernel_rfl) (by kernel_rfl) (fun _ _ _ h => h) (by kernel_rfl) ?_ ?_
  rotate_left
  · (intro wS hSw; obtain ⟨c0, c1, c2, -, -⟩ := B3.out.later (After.trans (After.drew (After.refl _)) hSw); go_simp; try with_reducible rfl)
  try simp only [Act.put, List.getElem_toArray, List.getElem_cons_succ, List.getElem_cons_zero, List.setIfInBounds_toArray, List.set_cons_zero, List.set_cons_succ]
  refine Script.load (i := 37) (v := ?_) rfl (by kernel_rfl) (by kernel_rfl) (fun _ _ _ h => h) (by kernel_rfl) ?_ ?_
  rotate_left
  · (intro wS hSw; obtain ⟨c0, c1, c2, -, -⟩ := B3.out.later (After.trans (After.drew (After.refl _)) hSw); go_simp; try with_reducible rfl)
  try simp only [Act.put, List.getElem_toArray, List.getElem_cons_succ, List.getElem_cons_zero, List.setIfInBounds_toArray, List.set_cons_zero, List.set_cons_succ]
  refine Script.load (i := 39) (v := ?_) rfl (by kernel_rfl) (by kernel_rfl) (fun _ _ _ h => h) (by kernel_rfl) ?_ ?_
  rotate_left
  · (intro wS hSw; obtain ⟨c0, c1, c2, -, -⟩ := B3.out.later (After.trans (After.drew (After.refl _)) hSw); go_simp; try with_reducible rfl)
  try simp only [Act.put, List.getElem_toArray, List.getElem_cons_succ, List.getElem_cons_zero, List.setIfInBounds_toArray, List.set_cons_zero, List.set_cons_succ]
  refine Script.one (i := 38) rfl (by kernel_rfl) (by kernel_rfl) ?_
  intro wO hO K hK; have hSw := hO; obtain ⟨c0, c1, c2, -, -⟩ := B3.out.later (After.trans (After.drew (After.refl _)) hSw); go_simp
  clear hSw
  go_at_call 57; refine (K10.out _ _ _ _ (own_below T3.out (After.trans (After.drew (After.refl _)) hO))).mono ?_; rintro e wc ⟨uv, rfl, hh2, hbc⟩; rw [HN.out] at hh2; obtain ⟨ua, uc, rfl⟩ := lines_form hh2
  refine hK.out _ _ hbc ?_
  clear hK K
  try simp only [Act.put, List.getElem_toArray, List.getElem_cons_succ, List.getElem_cons_zero, List.setIfInBounds_toArray, List.set_cons_zero, List.set_cons_succ]
  clear c0 c1 c2
  refine Script.call (i := 40) (v := ?_) rfl (by kernel_rfl) (by kernel_rfl) (fun _ _ _ h => h) (by kernel_rfl) ?_ ?_
  rotate_left
  · (intro wS hSw K hK; obtain ⟨c0, c1, c2, -, -⟩ := B3.out.later (After.trans (After.drew (After.refl _)) (After.trans hO (After.trans hbc hSw))); go_simp; go_at_call 61; refine (sameLines xs HN.out (by omega) _ (own_below hh2 hSw) (own_below X3.out (After.trans (After.drew (After.refl _)) (After.trans hO (After.trans hbc hSw))))).mono ?_; rintro e wd ⟨rfl, hbc⟩; exact hK.out _ hbc)
  try simp only [Act.put, List.getElem_toArray, List.getElem_cons_succ, List.getElem_cons_zero, List.setIfInBounds_toArray, List.set_cons_zero, List.set_cons_succ]
  refine Script.load (i := 41) (v := ?_) rfl (by kernel_rfl) (by kernel_rfl) (fun _ _ _ h => h) (by kernel_rfl) ?_ ?_
  rotate_left
  · (intro wS hSw; obtain ⟨c0, c1, c2, -, -⟩ := B3.out.later (After.trans (After.drew (After.refl _)) (After.trans hO (After.trans hbc hSw))); go_simp; try with_reducible rfl)
  try simp only [Act.put, List.getElem_toArray, List.getElem_cons_succ, List.getElem_cons_zero, List.setIfInBounds_toArray, List.set_cons_zero, List.set_cons_succ]
  refine Script.load (i := 42) (v := ?_) rfl (by kernel_rfl) (by kernel_rfl) (fun _ _ _ h => h) (by kernel_rfl) ?_ ?_
  rotate_left
  · (intro wS hSw; obtain ⟨c0, c1, c2, -, -⟩ := B3.out.later (After.trans (After.drew (After.refl _)) (After.trans hO (After.trans hbc hSw))); go_simp; try with_reducible rfl)
  try simp only [Act.put, List.getElem_toArray, List.getElem_cons_succ, List.getElem_cons_zero, List.setIfInBounds_toArray, List.set_cons_zero, List.set_cons_succ]
  refine Script.load (i := 43) (v := ?_) rfl (by kernel_rfl) (by kernel_rfl) (fun _ _ _ h => h) (by kernel_rfl) ?_ ?_
  rotate_left
  · (intro wS hSw; obtain ⟨c0, c1, c2, -, -⟩ := B3.out.later (After.trans (After.drew (After.refl _)) (After.trans hO (After.trans hbc hSw))); go_simp; try with_reducible rfl)
  try simp only [Act.put, List.getElem_toArray, List.getElem_cons_succ, List.getElem_cons_zero, List.setIfInBounds_toArray, List.set_cons_zero, List.set_cons_succ]
  refine Script.load (i := 44) (v := ?_) rfl (by kernel_rfl) (by kernel_rfl) (fun _ _ _ h => h) (by kernel_rfl) ?_ ?_
  rotate_left
  · (intro wS hSw; obtain ⟨c0, c1, c2, -, -⟩ := B3.out.later (After.trans (After.drew (After.refl _)) (After.trans hO (After.trans hbc hSw))); go_simp; try with_reducible rfl)
  try simp only [Act.put, List.getElem_toArray, List.getElem_cons_succ, List.getElem_cons_zero, List.setIfInBounds_toArray, List.set_cons_zero, List.set_cons_succ]
  refine Script.load (i := 45) (v := ?_) rfl (by kernel_rfl) (by kernel_rfl) (fun _ _ _ h => h) (by kernel_rfl) ?_ ?_
  rotate_left
  · (intro wS hSw; obtain ⟨c0, c1, c2, -, -⟩ := B3.out.later (After.trans (After.drew (After.refl _)) (After.trans hO (After.trans hbc hSw))); go_simp; try with_reducible rfl)
  try simp only [Act.put, List.getElem_toArray, List.getElem_cons_succ, List.getElem_cons_zero, List.setIfInBounds_toArray, List.set_cons_zero, List.set_cons_succ]
  refine Script.call (i := 46) (v := ?_) rfl (by kernel_rfl) (by kernel_rfl) (fun _ _ _ h => h) (by kernel_rfl) ?_ ?_
  rotate_left
  · (intro wS hSw K hK; obtain ⟨c0, c1, c2, -, -⟩ := B3.out.later (After.trans (After.drew (After.refl _)) (After.trans hO (After.trans hbc hSw))); go_simp; go_at_call 56; refine (K11.out _).mono ?_; rintro e wd ⟨rfl, hbc⟩; exact hK.out _ hbc)
  try simp only [Act.put, List.getElem_toArray, List.getElem_cons_succ, List.getElem_cons_zero, List.setIfInBounds_toArray, List.set_cons_zero, List.set_cons_succ]
  refine Script.load (i := 47) (v := ?_) rfl (by kernel_rfl) (by kernel_rfl) (fun _ _ _ h => h) (by kernel_rfl) ?_ ?_
  rotate_left
  · (intro wS hSw; obtain ⟨c0, c1, c2, -, -⟩ := B3.out.later (After.trans (After.drew (After.refl _)) (After.trans hO (After.trans hbc hSw))); go_simp; try with_reducible rfl)
  try simp only [Act.put, List.getElem_toArray, List.getElem_cons_succ, List.getElem_cons_zero, List.setIfInBounds_toArray, List.set_cons_zero, List.set_cons_succ]
  refine Script.load (i := 48) (v := ?_) rfl (by kernel_rfl) (by kernel_rfl) (fun _ _ _ h => h) (by kernel_rfl) ?_ ?_
  rotate_left
  · (intro wS hSw; obtain ⟨c0, c1, c2, -, -⟩ := B3.out.later (After.trans (After.drew (After.refl _)) (After.trans hO (After.trans hbc hSw))); go_simp; try with_reducible rfl)
  try simp only [Act.put, List.getElem_toArray, List.getElem_cons_succ, List.getElem_cons_zero, List.setIfInBounds_toArray, List.set_cons_zero, List.set_cons_succ]
  refine Script.call (i := 49) (v := ?_) rfl (by kernel_rfl) (by kernel_rfl) (fun _ _ _ h => h) (by kernel_rfl) ?_ ?_
  rotate_left
  · (intro wS hSw K hK; obtain ⟨c0, c1, c2, -, -⟩ := B3.out.later (After.trans (After.drew (After.refl _)) (After.trans hO (After.trans hbc hSw))); go_simp; go_at_call 62; refine (K12.out _ _ _ _ (own_below T3.out (After.trans (After.drew (After.refl _)) (After.trans hO (After.trans hbc hSw))))).mono ?_; rintro e wd ⟨rfl, hbc⟩; exact hK.out _ hbc)
  try simp only [Act.put, List.getElem_toArray, List.getElem_cons_succ, List.getElem_cons_zero, List.setIfInBounds_toArray, List.set_cons_zero, List.set_cons_succ]
  refine Script.load (i := 50) (v := ?_) rfl (by kernel_rfl) (by kernel_rfl) (fun _ _ _ h => h) (by kernel_rfl) ?_ ?_
  rotate_left
  · (intro wS hSw; obtain ⟨c0, c1, c2, -, -⟩ := B3.out.later (After.trans (After.drew (After.refl _)) (After.trans hO (After.trans hbc hSw))); go_simp; try with_reducible rfl)
  try simp only [Act.put, List.getElem_toArray, List.getElem_cons_succ, List.getElem_cons_zero, List.setIfInBounds_toArray, List.set_cons_zero, List.set_cons_succ]
  refine Script.load (i := 51) (v := ?_) rfl (by kernel_rfl) (by kernel_rfl) (fun _ _ _ h => h) (by kernel_rfl) ?_ ?_
  rotate_left
  · (intro wS hSw; obtain ⟨c0, c1, c2, -, -⟩ := B3.out.later (After.trans (After.drew (After.refl _)) (After.trans hO (After.trans hbc hSw))); go_simp; try with_reducible rfl)
  try simp only [Act.put, List.getElem_toArray, List.getElem_cons_succ, List.getElem_cons_zero, List.setIfInBounds_toArray, List.set_cons_zero, List.set_cons_succ]
  refine Script.done (by kernel_rfl) ?_
  intro wD hD hG
  have hb6 := After.trans (After.drew (After.refl _)) (After.trans hO (After.trans hbc hD))
  have HF := Lib.hid (HB1.out.trans ((B3.out.later hb6).2.2.2.2.mono hsz))
  clear hb6 hD hG hO hbc hh2 B3 X3 T3 K4 K5 K6 K7 K8 K9 K10 K11 K12
  go_wp2_with fail
  go_ret
  exact ⟨rfl, HF.out⟩
set_option maxRecDepth 100000 in
theorem walk_far {a0 : Option Addr} {len cap : Nat} (w : World) (h : 1048576 < len) :
    Calls Try.prog 8 #[.slice a0 len cap] w fun e w' => e = .returned (.bool true) ∧ Below w.heap.size w w' := by
  go_enter Try.func8, Try.ntmps8
  go_wp2_with fail
  refine (big_yes _ h).mono ?_
  rintro e w' ⟨rfl, rfl⟩
  go_wp2_with fail
  go_ret
  exact ⟨rfl, Below.refl _ _⟩
theorem walk (a0 : Option Addr) (len0 cap0 : Nat) (z0 : List Int) (w : World) (w0 : IsRow .u8 w a0 len0 cap0 z0) :
    Calls Try.prog 8 #[.slice a0 len0 cap0] w fun e w' => e = .returned (.bool true) ∧ Below w.heap.size w w' := by
  by_cases h2 : len0 ≤ 1048576
  · exact walk_in w (code_of w0 h2)
  · exact walk_far w (by omega)
set_option maxRecDepth 100000 in
theorem lifted (os : Os) (started : os.Started) (H : Type) (enc : TypeId × Value → H) :
    ReturnsInHanded {} Try.checked os 8 .any (Rows.fnTurnedSpec.pre6 enc Try.prog Try.f8 Rows.fnTurnedRow.domain false) (Rows.fnTurnedSpec.post enc Try.prog Try.f8 false true false false) := by
  refine returnsInHanded_of_change (C := Try.checked) own started (by kernel_rfl) Try.func8
    (ChangeSpec.witness6 (enc := enc) (C := Try.checked) false ⟨#[], #[.slice none 0 0], []⟩ 8 (by kernel_rfl) (by kernel_rfl) (by kernel_rfl) (by kernel_rfl)) ?_
  intro W base args ds gs before hval0 hW hcnd _
  have hval : ∀ (j : Nat) t v, Try.f8.params[j]? = some t → args[j]? = some v → Value.okWide Try.prog W .any base t v := hval0
  have hW' := hW
  obtain ⟨p, q, hA0, hV, rfl, hfz, hnd⟩ := hW
  have hA : DataW.TrodAll enc Try.prog W 0 (fun _ => true) true Try.f8.params.toList args.toList ds p := hA0
  rw [Try.params8] at hA hval
  obtain ⟨v0, vs0, d0, ds0, p0, q0, hargs, rfl, rfl, h0, r0⟩ := trodAll_cons hA
  obtain ⟨rfl, rfl, rfl⟩ := trodAll_nil r0
  obtain rfl : args = #[v0] := by cases args; simp_all
  obtain ⟨rfl, rfl⟩ := trodVars_none hV
  obtain ⟨a0, len0, cap0, rfl⟩ := okWide_slice Try.underlying22 (hval 0 22 v0 rfl rfl)
  have k0 := h0
  have lt0 : ∀ x ∈ p0, x.block < W.heap.size := by obtain ⟨m, hm⟩ := k0; exact DataW.trod_lt m _ _ _ hm
  obtain ⟨z0, w0⟩ : ∃ zs, IsRow .u8 W a0 len0 cap0 zs := by
    obtain ⟨fuel, hf⟩ := h0
    rcases open_ints Try.underlying22 Try.underlying5 (by kernel_rfl) hf with ⟨hcs, _⟩ | ⟨x, l, c, zs, hcs, _, hl, hm, hz, _, hcell, hwz⟩
    · simp [Value.cells] at hcs
      obtain ⟨rfl, rfl, rfl⟩ := hcs
      exact ⟨[], .inl ⟨rfl, rfl, rfl, rfl⟩⟩
    · simp [Value.cells] at hcs
      obtain ⟨rfl, rfl, rfl⟩ := hcs
      exact ⟨zs, .inr ⟨_, rfl, hl, hm, by simpa using hz, hcell, hwz⟩⟩
  clear hA0 hval0
  refine (walk a0 len0 cap0 z0 W w0).mono fun e W' ⟨he, bel⟩ => ?_
  subst he
  exact ⟨_, rfl, _, _, _, [], _, [], hW', trodAll_mk1 (shut_bool Try.underlying4 _), (trodAll_cons_mk (Below.trod laidOut (by kernel_rfl) (of_decide_eq_true (by kernel_rfl)) k0 bel lt0) trodAll_mk0), rfl, bel.frame _, fun h => by cases h⟩

theorem over : Rows.fnTurnedRow.holds Try.pinned (OpenSpec.ofChange Rows.fnTurnedSpec) :=
  OpenClaim.holds_of_wide 8 Try.f8 rfl rfl rfl rfl rfl rfl rfl ⟨rfl, rfl, rfl, rfl, rfl⟩ rfl rfl rfl rfl rfl (by kernel_rfl) Try.func8 (by kernel_rfl)
    (of_decide_eq_true (by kernel_rfl)) (by unfold Func.isWrapper; first | (rw [if_pos (by decide +kernel)]; kernel_rfl) | (rw [if_neg (by decide +kernel)]; exact ⟨rfl, rfl⟩))
    (fun os started H enc _ => lifted os started H enc)

theorem proved : Rows.FnTurnedSaid := over
end Go.Proofs.Ytpdhdogllejdbaa.fnTurned
