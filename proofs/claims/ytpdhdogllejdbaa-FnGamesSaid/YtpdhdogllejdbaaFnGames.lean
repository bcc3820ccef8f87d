/- The law FnGames returns true for every code: a drawn game can be played and undone as a whole; it has a position for each jump and one more, from the start to the end, each with a peg less; it has no more sweeps than jumps, and none just if it has no jump; it leads to its end and to no other position. -/
import Derived.Test.YtpdhdogllejdbaaRows
import Derived.WalkKit
import Derived.WalkSpells
import Derived.ProofKit
import Derived.OpenShut
import Derived.ShutString
import Derived.ChangeOld
import Derived.Below
import Derived.Lib.Hide
import Derived.Lib.SmallJoins
import Derived.ChangeArms
import Derived.Test.YtpdhdogllejdbaaDrawGame
import Derived.Test.YtpdhdogllejdbaaGames
import Derived.Test.YtpdhdogllejdbaaTurns
namespace Go.Proofs.Ytpdhdogllejdbaa.fnGames
open Go.ChangeShapes Go.WideShapes Go.ChangeAt Go.RowKit
open Go.ChangeMaps (open_string shut_string)
set_option linter.unusedVariables false
set_option linter.unusedSimpArgs false
theorem own : ownKnob Try.prog.godebug = none := by kernel_rfl
theorem laidOut : laidOutB Try.prog = true := by kernel_rfl
/-- What the walk is told of a slice of integers that came in. -/
def IsRow (k : IntKind) (w : World) (a : Option Addr) (len cap : Nat) (zs : List Int) : Prop :=
  (a = none ∧ len = 0 ∧ cap = 0 ∧ zs = []) ∨
  ∃ x, a = some x ∧ len ≤ cap ∧ cap ≤ maxLen ∧ zs.length = cap ∧ (∀ i, i < zs.length → w.cell? (x.add i) = some (.int k (zs.getD i 0))) ∧ ∀ n ∈ zs, (Lit.int k n).wf = true
theorem sol_yes {W H Z P q : Int} {xs : List Ln} (h : playB W H Z P xs = (q, true)) (G : Int) : solB W H Z P G xs = (q == G) := by simp [solB, h]
set_option maxHeartbeats 8000000 in
set_option maxRecDepth 100000 in
theorem walk_in {a0 : Option Addr} {len cap : Nat} (w : World) (hcode : CodeAt w a0 len) :
    Calls Try.prog 6 #[.slice a0 len cap] w fun e w' => e = .returned (.bool true) ∧ Below w.heap.size w w' := by
  have HCO := Lib.hid hcode
  clear hcode
  go_enter Try.func6, Try.ntmps6
  go_wp2_with fail
  refine (big_no _ HCO.out.1).mono ?_
  rintro e w' ⟨rfl, rfl⟩
  go_wp2_with fail
  refine (drawGame w HCO.out).mono ?_
  rintro e w1 ⟨W, H, N, z, r, n, xs, q0, v, ho, hN16, hpr, hn, hn11, hrun, rfl, hx1, hb1⟩
  unfold bd
  have hrb := hpr.big ho
  have hpos := pos_of ho hpr
  have hr63 : (r : Int) ≤ 9223372036854775807 := by omega
  obtain ⟨hposq, hback⟩ := run_back hpos hrun
  obtain ⟨q, hq, hqb⟩ := run_nat (P := (r : Int)) ⟨r, rfl, hrb⟩ hrun xs.length (Nat.le_refl _)
  rw [List.take_length, ← run_end hrun] at hq
  subst hq
  have hq63 : (q : Int) ≤ 9223372036854775807 := by omega
  have hplay : playB W H z r xs = ((q : Int), true) := allB_yes hpos (by omega) hrun
  have hunp : unplayB W H z q xs = ((r : Int), true) := allB_yes hposq (by rw [List.length_reverse]; omega) hback
  have hposl := posL_yes hplay
  have hs1 := sol_yes hplay q
  have hs2 := sol_yes hplay (q + 1)
  rw [show ((q : Int) == (q : Int)) = true by simp] at hs1
  rw [show ((q : Int) == (q : Int) + 1) = false by rw [beq_eq_false_iff_ne]; omega] at hs2
  have K1 := Lib.hid (fun (B gc : Nat) (ga : Option Addr) w (hh : w.ownsRow B 31 3 (.slice ga n gc) n (lv xs)) => implPlay W H z r hr63 xs hn (by omega) w hh)
  have K2 := Lib.hid (fun (B gc : Nat) (ga : Option Addr) w (hh : w.ownsRow B 31 3 (.slice ga n gc) n (lv xs)) => implUnplay W H z q hq63 xs hn (by omega) w hh)
  have K3 := Lib.hid (fun (B gc : Nat) (ga : Option Addr) w (hh : w.ownsRow B 31 3 (.slice ga n gc) n (lv xs)) => implPositions W H z r hr63 xs hn (by omega) w hh)
  have K4 := Lib.hid (fun (B gc : Nat) (ga : Option Addr) w (hh : w.ownsRow B 31 3 (.slice ga n gc) n (lv xs)) => implSweeps xs hn (by omega) w hh)
  have K5 := Lib.hid (fun (B gc : Nat) (ga : Option Addr) w (hh : w.ownsRow B 31 3 (.slice ga n gc) n (lv xs)) => implSol W H z r q hr63 xs hn (by omega) w hh)
  have K6 := Lib.hid (fun (B gc : Nat) (ga : Option Addr) w (hh : w.ownsRow B 31 3 (.slice ga n gc) n (lv xs)) => implSol W H z r (q + 1) hr63 xs hn (by omega) w hh)
  rw [hplay] at K1
  rw [hunp] at K2
  rw [hposl] at K3
  rw [hs1] at K5
  rw [hs2] at K6
  -- the positions
  obtain ⟨cz, hcz, hcz49⟩ := count_nat hpos
  have CC : Hid (∀ k, k ≤ n → ∃ u c : Nat, (iv (walkL r xs))[k]? = some (.int .i64 (u : Int)) ∧ (u : Int) ≤ 9223372036854775807 ∧ countB W H z u = (c : Int) ∧ c + k = cz) := fun k hk => by
    obtain ⟨u, hu, hub⟩ := run_nat (P := (r : Int)) ⟨r, rfl, hrb⟩ hrun k (by omega)
    have h1 := run_count hrun k (by omega)
    rw [hu, hcz] at h1
    have h2 := run_pos hpos hrun k (by omega)
    rw [hu] at h2
    obtain ⟨c, hc, -⟩ := count_nat h2
    exact ⟨u, c, by simp [iv, walkL_get (r : Int) xs k (by omega), hu], by omega, hc, by omega⟩
  have E0 : Hid ((iv (walkL r xs))[0]? = some (.int .i64 (r : Int))) := by unfold Hid; simp [iv, walkL_get (r : Int) xs 0 (by omega), endL]
  have EN : Hid ((iv (walkL r xs))[n]? = some (.int .i64 (q : Int))) := by unfold Hid; simp [iv, walkL_get (r : Int) xs n (by omega)]; rw [List.take_of_length_le (by omega), ← run_end hrun]
  have SL := sweeps_le xs n
  have SP : n = 0 ∨ 0 < sweepsN xs n := by
    rcases Nat.eq_zero_or_pos n with h | h
    · exact .inl h
    · exact .inr (sweeps_pos xs h)
  obtain ⟨s, hs⟩ : ∃ s, sweepsN xs n = s := ⟨_, rfl⟩
  rw [hs] at K4 SL SP
  have CR := Lib.hid (fun w => specPegs W H z r hr63 w)
  rw [hcz] at CR
  have CP := Lib.hid (fun (u : Nat) (c : Nat) (hu : (u : Int) ≤ 9223372036854775807) (hc : countB W H z u = (c : Int)) w => (by rw [← hc]; exact specPegs W H z u hu w : Calls Try.prog 38 #[.agg #[.int .i64 W, .int .i64 H, .int .i64 z], .int .i64 u] w (QI (c : Int) w)))
  have HWL : Hid ((walkL r xs).length = n + 1) := by unfold Hid; rw [walkL_length, hn]
  obtain ⟨m, hm⟩ : ∃ m, n + 1 = m := ⟨_, rfl⟩
  rw [hm] at HWL
  obtain ⟨Y, hY⟩ : ∃ Y, walkL (r : Int) xs = Y := ⟨_, rfl⟩
  rw [hY] at K3 HWL E0 EN CC
  clear hY ho hpr hN16 hrun hback hpos hposq hplay hunp hposl hs1 hs2 hs HCO hcz hrb
  have B0 := Lib.hid (box_newT 25 W H z w1)
  have X0 := Lib.hid (own_below hx1 ((Below.refl _ _).alloc (Nat.le_refl _) (.cells #[.int .i64 W, .int .i64 H, .int .i64 (z : Int)] 25)))
  obtain ⟨ga, gc, rfl⟩ := lines_form hx1
  clear hx1
  have hsz : w.heap.size ≤ w1.heap.size := hb1.size
  have HB1 := Lib.hid hb1
  clear hb1
  obtain ⟨c0, c1, c2, hlt, hbw⟩ := B0.out
  go_wp2_with fail
  clear c0 c1 c2 hlt hbw
  generalize w1.alloc (.cells #[.int .i64 W, .int .i64 H, .int .i64 (z : Int)] 25) = w2 at *
  refine (K1.out _ _ _ _ X0.out).mono ?_
  rintro e w3 ⟨rfl, hb⟩
  have B1 := Lib.hid (B0.out.later hb)
  have X1 := Lib.hid (own_below X0.out hb)
  clear hb B0 X0
  obtain ⟨c0, c1, c2, hlt, hbw⟩ := B1.out
  go_wp2_with fail
  refine (K2.out _ _ _ _ X1.out).mono ?_
  rintro e w4 ⟨rfl, hb⟩
  have B2 := Lib.hid (B1.out.later hb)
  have X2 := Lib.hid (own_below X1.out hb)
  clear hb c0 c1 c2 hlt hbw B1 X1
  obtain ⟨c0, c1, c2, hlt, hbw⟩ := B2.out
  go_wp2_with fail
  refine (K3.out _ _ _ _ X2.out).mono ?_
  rintro e w5 ⟨v, rfl, hh, hb⟩
  have B3 := Lib.hid (B2.out.later hb)
  have X3 := Lib.hid (own_below X2.out hb)
  rw [HWL.out] at hh
  obtain ⟨yg, yc, rfl⟩ := Go.Joins.ownsRow_form hh (by omega)
  have Y3 := Lib.hid hh
  clear hh
  clear hb c0 c1 c2 hlt hbw B2 X2
  obtain ⟨c0, c1, c2, hlt, hbw⟩ := B3.out
  go_wp2_with fail
  refine (K4.out _ _ _ _ X3.out).mono ?_
  rintro e w6 ⟨rfl, hb⟩
  have B4 := Lib.hid (B3.out.later hb)
  have X4 := Lib.hid (own_below X3.out hb)
  have Y4 := Lib.hid (own_below Y3.out hb)
  clear hb c0 c1 c2 hlt hbw B3 X3 Y3
  have l0 := own_cell Y4.out 0 (by omega) _ E0.out
  have l1 := own_cell Y4.out n (by omega) _ EN.out
  have hwm : IntKind.i64.wrap ((n : Int) + 1) = (m : Int) := by rw [show (n : Int) + 1 = (m : Int) by omega]; exact IntWalk.i64_in _ (by omega)
  have hwn : IntKind.i64.wrap ((m : Int) - 1) = (n : Int) := by rw [show (m : Int) - 1 = (n : Int) by omega]; exact IntWalk.i64_in _ (by omega)
  have m0 : (0 : Int) < (m : Int) := by omega
  have m1 : (n : Int) < (m : Int) := by omega
  obtain ⟨c0, c1, c2, hlt, hbw⟩ := B4.out
  go_wp2_with fail
  refine (K5.out _ _ _ _ X4.out).mono ?_
  rintro e w7 ⟨rfl, hb⟩
  have B5 := Lib.hid (B4.out.later hb)
  have X5 := Lib.hid (own_below X4.out hb)
  have Y5 := Lib.hid (own_below Y4.out hb)
  clear hb c0 c1 c2 hlt hbw B4 X4 Y4
  clear l0 l1 K1 K2 K3 K4 K5
  go_wp2_with fail
  go_loopw [12] (fun i wr => ∃ k : Nat, 1 ≤ k ∧ k ≤ m ∧ i = .int .i64 k ∧ Hid (Below w7.heap.size w7 wr)) (fun i _ => m - (intOf i).toNat)
  case atStart => exact ⟨1, by omega, by omega, rfl, Below.refl _ _⟩
  case round =>
    obtain ⟨k, hk1, hkm, rfl, hw⟩ := hrel
    have B6 := Lib.hid (B5.out.later hw.out)
    have X6 := Lib.hid (own_below X5.out hw.out)
    have Y6 := Lib.hid (own_below Y5.out hw.out)
    by_cases hlt : k < m
    · have k0 : (0 : Int) ≤ (k : Int) := by omega
      have k1 : (k : Int) < (m : Int) := by omega
      obtain ⟨u, c, hu, hu63, hcu, hck⟩ := CC.out k (by omega)
      have KU := Lib.hid (CP.out u c hu63 hcu)
      have CE : Hid (∀ w' : World, After wr w' → w'.cell? ⟨yg, k, none⟩ = some (.int .i64 (u : Int))) := fun w' hh => own_cell (own_below Y6.out hh) k hlt _ hu
      have hwc : IntKind.i64.wrap ((cz : Int) - (k : Int)) = (c : Int) := by rw [show (cz : Int) - (k : Int) = (c : Int) by omega]; exact IntWalk.i64_in _ (by omega)
      clear hu hcu hck X6 Y6
      go_wp2_with fail
      refine wp_region_script (by kernel_rfl) (by kernel_rfl) ?_
      refine Script.load (i := 0) (v := ?_) rfl (by kernel_rfl) (by kernel_rfl) (fun _ _ _ h => h) (by kernel_rfl) ?_ ?_
      rotate_left
      · (intro wS hSw; obtain ⟨c0, c1, c2, -, -⟩ := B6.out.later (After.trans (After.drew (After.refl _)) hSw); have l0 := CE.out _ (After.trans (After.drew (After.refl _)) hSw); go_simp; try with_reducible rfl)
      try simp only [Act.put, List.getElem_toArray, List.getElem_cons_succ, List.getElem_cons_zero, List.setIfInBounds_toArray, List.set_cons_zero, List.set_cons_succ]
      refine Script.load (i := 1) (v := ?_) rfl (by kernel_rfl) (by kernel_rfl) (fun _ _ _ h => h) (by kernel_rfl) ?_ ?_
      rotate_left
      · (intro wS hSw; obtain ⟨c0, c1, c2, -, -⟩ := B6.out.later (After.trans (After.drew (After.refl _)) hSw); have l0 := CE.out _ (After.trans (After.drew (After.refl _)) hSw); go_simp; try with_reducible rfl)
      try simp only [Act.put, List.getElem_toArray, List.getElem_cons_succ, List.getElem_cons_zero, List.setIfInBounds_toArray, List.set_cons_zero, List.set_cons_succ]
      refine Script.load (i := 2) (v := ?_) rfl (by kernel_rfl) (by kernel_rfl) (fun _ _ _ h => h) (by kernel_rfl) ?_ ?_
      rotate_left
      · (intro wS hSw; obtain ⟨c0, c1, c2, -, -⟩ := B6.out.later (After.trans (After.drew (After.refl _)) hSw); have l0 := CE.out _ (After.trans (After.drew (After.refl _)) hSw); go_simp; try with_reducible rfl)
      try simp only [Act.put, List.getElem_toArray, List.getElem_cons_succ, List.getElem_cons_zero, List.setIfInBounds_toArray, List.set_cons_zero, List.set_cons_succ]
      refine Script.load (i := 3) (v := ?_) rfl (by kernel_rfl) (by kernel_rfl) (fun _ _ _ h => h) (by kernel_rfl) ?_ ?_
      rotate_left
      · (intro wS hSw; obtain ⟨c0, c1, c2, -, -⟩ := B6.out.later (After.trans (After.drew (After.refl _)) hSw); have l0 := CE.out _ (After.trans (After.drew (After.refl _)) hSw); go_simp; try with_reducible rfl)
      try simp only [Act.put, List.getElem_toArray, List.getElem_cons_succ, List.getElem_cons_zero, List.setIfInBounds_toArray, List.set_cons_zero, List.set_cons_succ]
      refine Script.load (i := 4) (v := ?_) rfl (by kernel_rfl) (by kernel_rfl) (fun _ _ _ h => h) (by kernel_rfl) ?_ ?_
      rotate_left
      · (intro wS hSw; obtain ⟨c0, c1, c2, -, -⟩ := B6.out.later (After.trans (After.drew (After.refl _)) hSw); have l0 := CE.out _ (After.trans (After.drew (After.refl _)) hSw); go_simp; try with_reducible rfl)
      try simp only [Act.put, List.getElem_toArray, List.getElem_cons_succ, List.getElem_cons_zero, List.setIfInBounds_toArray, List.set_cons_zero, List.set_cons_succ]
      refine Script.call (i := 5) (v := ?_) rfl (by kernel_rfl) (by kernel_rfl) (fun _ _ _ h => h) (by kernel_rfl) ?_ ?_
      rotate_left
      · (intro wS hSw K hK; obtain ⟨c0, c1, c2, -, -⟩ := B6.out.later (After.trans (After.drew (After.refl _)) hSw); have l0 := CE.out _ (After.trans (After.drew (After.refl _)) hSw); go_simp; go_at_call 38; refine (KU.out _).mono ?_; rintro e wc ⟨rfl, hbc⟩; exact hK.out _ hbc)
      try simp only [Act.put, List.getElem_toArray, List.getElem_cons_succ, List.getElem_cons_zero, List.setIfInBounds_toArray, List.set_cons_zero, List.set_cons_succ]
      refine Script.load (i := 6) (v := ?_) rfl (by kernel_rfl) (by kernel_rfl) (fun _ _ _ h => h) (by kernel_rfl) ?_ ?_
      rotate_left
      · (intro wS hSw; obtain ⟨c0, c1, c2, -, -⟩ := B6.out.later (After.trans (After.drew (After.refl _)) hSw); have l0 := CE.out _ (After.trans (After.drew (After.refl _)) hSw); go_simp; try with_reducible rfl)
      try simp only [Act.put, List.getElem_toArray, List.getElem_cons_succ, List.getElem_cons_zero, List.setIfInBounds_toArray, List.set_cons_zero, List.set_cons_succ]
      refine Script.load (i := 7) (v := ?_) rfl (by kernel_rfl) (by kernel_rfl) (fun _ _ _ h => h) (by kernel_rfl) ?_ ?_
      rotate_left
      · (intro wS hSw; obtain ⟨c0, c1, c2, -, -⟩ := B6.out.later (After.trans (After.drew (After.refl _)) hSw); have l0 := CE.out _ (After.trans (After.drew (After.refl _)) hSw); go_simp; try with_reducible rfl)
      try simp only [Act.put, List.getElem_toArray, List.getElem_cons_succ, List.getElem_cons_zero, List.setIfInBounds_toArray, List.set_cons_zero, List.set_cons_succ]
      refine Script.call (i := 8) (v := ?_) rfl (by kernel_rfl) (by kernel_rfl) (fun _ _ _ h => h) (by kernel_rfl) ?_ ?_
      rotate_left
      · (intro wS hSw K hK; obtain ⟨c0, c1, c2, -, -⟩ := B6.out.later (After.trans (After.drew (After.refl _)) hSw); have l0 := CE.out _ (After.trans (After.drew (After.refl _)) hSw); go_simp; go_at_call 38; refine (CR.out _).mono ?_; rintro e wc ⟨rfl, hbc⟩; exact hK.out _ hbc)
      try simp only [Act.put, List.getElem_toArray, List.getElem_cons_succ, List.getElem_cons_zero, List.setIfInBounds_toArray, List.set_cons_zero, List.set_cons_succ]
      refine Script.load (i := 9) (v := ?_) rfl (by kernel_rfl) (by kernel_rfl) (fun _ _ _ h => h) (by kernel_rfl) ?_ ?_
      rotate_left
      · (intro wS hSw; obtain ⟨c0, c1, c2, -, -⟩ := B6.out.later (After.trans (After.drew (After.refl _)) hSw); have l0 := CE.out _ (After.trans (After.drew (After.refl _)) hSw); go_simp; try with_reducible rfl)
      try simp only [Act.put, List.getElem_toArray, List.getElem_cons_succ, List.getElem_cons_zero, List.setIfInBounds_toArray, List.set_cons_zero, List.set_cons_succ]
      refine Script.load (i := 10) (v := ?_) rfl (by kernel_rfl) (by kernel_rfl) (fun _ _ _ h => h) (by kernel_rfl) ?_ ?_
      rotate_left
      · (intro wS hSw; obtain ⟨c0, c1, c2, -, -⟩ := B6.out.later (After.trans (After.drew (After.refl _)) hSw); have l0 := CE.out _ (After.trans (After.drew (After.refl _)) hSw); go_simp; try with_reducible rfl)
      try simp only [Act.put, List.getElem_toArray, List.getElem_cons_succ, List.getElem_cons_zero, List.setIfInBounds_toArray, List.set_cons_zero, List.set_cons_succ]
      refine Script.load (i := 11) (v := ?_) rfl (by kernel_rfl) (by kernel_rfl) (fun _ _ _ h => h) (by kernel_rfl) ?_ ?_
      rotate_left
      · (intro wS hSw; obtain ⟨c0, c1, c2, -, -⟩ := B6.out.later (After.trans (After.drew (After.refl _)) hSw); have l0 := CE.out _ (After.trans (After.drew (After.refl _)) hSw); go_simp; try with_reducible rfl)
      try simp only [Act.put, List.getElem_toArray, List.getElem_cons_succ, List.getElem_cons_zero, List.setIfInBounds_toArray, List.set_cons_zero, List.set_cons_succ]
      refine Script.done (by kernel_rfl) ?_
      intro wD hD hG
      have hb7 := After.trans (After.drew (After.refl _)) hD
      have hw7 := Lib.hid (hw.out.trans (hb7.mono hw.out.size))
      clear hD hG hb7 B6 hw
      go_wp2_with fail
      go_roundw
      case rel => exact ⟨k + 1, by omega, by omega, by go_num, hw7⟩
      case measure => simp [intOf]; omega
    · obtain rfl : k = m := by omega
      clear CC CP CR hw Y6
      have hws : decide ((s : Int) ≤ (n : Int)) = true := decide_eq_true (by omega)
      have hq1 : IntKind.i64.wrap ((q : Int) + 1) = (q : Int) + 1 := IntWalk.i64_in _ (by omega)
      rcases SP with h0 | h0
      · have hs0 : s = 0 := by omega
        subst h0 hs0
        obtain rfl : k = 1 := by omega
        obtain ⟨c0, c1, c2, hlt', hbw⟩ := B6.out
        go_wp2_with fail
        refine (K6.out _ _ _ _ X6.out).mono ?_
        rintro e w8 ⟨rfl, hb⟩
        have HF := Lib.hid (HB1.out.trans ((B6.out.later hb).2.2.2.2.mono hsz))
        clear c0 c1 c2 hlt' hbw hb B6 X6
        go_wp2_with fail
        go_ret
        exact ⟨rfl, HF.out⟩
      · have hs0 : ((s : Int) == 0) = false := by rw [beq_eq_false_iff_ne]; omega
        have hn0 : ((n : Int) == 0) = false := by rw [beq_eq_false_iff_ne]; omega
        obtain ⟨c0, c1, c2, hlt', hbw⟩ := B6.out
        go_wp2_with fail
        refine (K6.out _ _ _ _ X6.out).mono ?_
        rintro e w8 ⟨rfl, hb⟩
        have HF := Lib.hid (HB1.out.trans ((B6.out.later hb).2.2.2.2.mono hsz))
        clear c0 c1 c2 hlt' hbw hb B6 X6
        go_wp2_with fail
        go_ret
        exact ⟨rfl, HF.out⟩
set_option maxRecDepth 100000 in
theorem walk_far {a0 : Option Addr} {len cap : Nat} (w : World) (h : 1048576 < len) :
    Calls Try.prog 6 #[.slice a0 len cap] w fun e w' => e = .returned (.bool true) ∧ Below w.heap.size w w' := by
  go_enter Try.func6, Try.ntmps6
  go_wp2_with fail
  refine (big_yes _ h).mono ?_
  rintro e w' ⟨rfl, rfl⟩
  go_wp2_with fail
  go_ret
  exact ⟨rfl, Below.refl _ _⟩
theorem walk (a0 : Option Addr) (len0 cap0 : Nat) (z0 : List Int) (w : World) (w0 : IsRow .u8 w a0 len0 cap0 z0) :
    Calls Try.prog 6 #[.slice a0 len0 cap0] w fun e w' => e = .returned (.bool true) ∧ Below w.heap.size w w' := by
  by_cases h2 : len0 ≤ 1048576
  · exact walk_in w (code_of w0 h2)
  · exact walk_far w (by omega)
set_option maxRecDepth 100000 in
theorem lifted (os : Os) (started : os.Started) (H : Type) (enc : TypeId × Value → H) :
    ReturnsInHanded {} Try.checked os 6 .any (Rows.fnGamesSpec.pre6 enc Try.prog Try.f6 Rows.fnGamesRow.domain false) (Rows.fnGamesSpec.post enc Try.prog Try.f6 false true false false) := by
  refine returnsInHanded_of_change (C := Try.checked) own started (by kernel_rfl) Try.func6
    (ChangeSpec.witness6 (enc := enc) (C := Try.checked) false ⟨#[], #[.slice none 0 0], []⟩ 8 (by kernel_rfl) (by kernel_rfl) (by kernel_rfl) (by kernel_rfl)) ?_
  intro W base args ds gs before hval0 hW hcnd _
  have hval : ∀ (j : Nat) t v, Try.f6.params[j]? = some t → args[j]? = some v → Value.okWide Try.prog W .any base t v := hval0
  have hW' := hW
  obtain ⟨p, q, hA0, hV, rfl, hfz, hnd⟩ := hW
  have hA : DataW.TrodAll enc Try.prog W 0 (fun _ => true) true Try.f6.params.toList args.toList ds p := hA0
  rw [Try.params6] at hA hval
  obtain ⟨v0, vs0, d0, ds0, p0, q0, hargs, rfl, rfl, h0, r0⟩ := trodAll_cons hA
  obtain ⟨rfl, rfl, rfl⟩ := trodAll_nil r0
  obtain rfl : args = #[v0] := by cases args; simp_all
  obtain ⟨rfl, rfl⟩ := trodVars_none hV
  obtain ⟨a0, len0, cap0, rfl⟩ := okWide_slice Try.underlying22 (hval 0 22 v0 rfl rfl)
  have k0 := h0
  have lt0 : ∀ x ∈ p0, x.block < W.heap.size := by obtain ⟨m, hm⟩ := k0; exact DataW.trod_lt m _ _ _ hm
  obtain ⟨z0, w0⟩ : ∃ zs, IsRow .u8 W a0 len0 cap0 zs := by
    obtain ⟨fuel, hf⟩ := h0
    rcases open_ints Try.underlying22 Try.underlying5 (by kernel_rfl) hf with ⟨hcs, _⟩ | ⟨x, l, c, zs, hcs, _, hl, hm, hz, _, hcell, hwz⟩
    · simp [Value.cells] at hcs
      obtain ⟨rfl, rfl, rfl⟩ := hcs
      exact ⟨[], .inl ⟨rfl, rfl, rfl, rfl⟩⟩
    · simp [Value.cells] at hcs
      obtain ⟨rfl, rfl, rfl⟩ := hcs
      exact ⟨zs, .inr ⟨_, rfl, hl, hm, by simpa using hz, hcell, hwz⟩⟩
  clear hA0 hval0
  refine (walk a0 len0 cap0 z0 W w0).mono fun e W' ⟨he, bel⟩ => ?_
  subst he
  exact ⟨_, rfl, _, _, _, [], _, [], hW', trodAll_mk1 (shut_bool Try.underlying4 _), (trodAll_cons_mk (Below.trod laidOut (by kernel_rfl) (of_decide_eq_true (by kernel_rfl)) k0 bel lt0) trodAll_mk0), rfl, bel.frame _, fun h => by cases h⟩

theorem over : Rows.fnGamesRow.holds Try.pinned (OpenSpec.ofChange Rows.fnGamesSpec) :=
  OpenClaim.holds_of_wide 6 Try.f6 rfl rfl rfl rfl rfl rfl rfl ⟨rfl, rfl, rfl, rfl, rfl⟩ rfl rfl rfl rfl rfl (by kernel_rfl) Try.func6 (by kernel_rfl)
    (of_decide_eq_true (by kernel_rfl)) (by unfold Func.isWrapper; first | (rw [if_pos (by decide +kernel)]; kernel_rfl) | (rw [if_neg (by decide +kernel)]; exact ⟨rfl, rfl⟩))
    (fun os started H enc _ => lifted os started H enc)

theorem proved : Rows.FnGamesSaid := over
end Go.Proofs.Ytpdhdogllejdbaa.fnGames
