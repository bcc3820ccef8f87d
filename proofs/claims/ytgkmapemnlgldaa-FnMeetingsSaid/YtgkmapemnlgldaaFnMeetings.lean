/- The law FnMeetings returns true for every code: of a drawn board, position and goal: the goal is reached just if the layers from both ends meet, wherever they meet, and there only positions on a way meet; the layers are all that is reached, and none is wider than the widest. No condition. -/
import Derived.Test.YtgkmapemnlgldaaRows
import Derived.WalkKit
import Derived.WalkSpells
import Derived.ProofKit
import Derived.OpenShut
import Derived.ShutString
import Derived.ChangeOld
import Derived.Below
import Derived.Lib.Hide
import Derived.Lib.SmallJoins
import Derived.ChangeArms
import Derived.Test.YtgkmapemnlgldaaDrawReach
import Derived.Test.YtgkmapemnlgldaaLayFacts
import Derived.Test.YtgkmapemnlgldaaLayR
import Derived.Test.YtgkmapemnlgldaaReachC
import Derived.Deep.DeepCutAuto
namespace Go.Proofs.Ytgkmapemnlgldaa.fnMeetings
open Go.ChangeShapes Go.WideShapes Go.ChangeAt Go.RowKit
open Go.ChangeMaps (open_string shut_string)
set_option linter.unusedVariables false
set_option linter.unusedSimpArgs false
theorem own : ownKnob Try.prog.godebug = none := by kernel_rfl
theorem laidOut : laidOutB Try.prog = true := by kernel_rfl
/-- What the walk is told of a slice of integers that came in. -/
def IsRow (k : IntKind) (w : World) (a : Option Addr) (len cap : Nat) (zs : List Int) : Prop :=
  (a = none ∧ len = 0 ∧ cap = 0 ∧ zs = []) ∨
  ∃ x, a = some x ∧ len ≤ cap ∧ cap ≤ maxLen ∧ zs.length = cap ∧ (∀ i, i < zs.length → w.cell? (x.add i) = some (.int k (zs.getD i 0))) ∧ ∀ n ∈ zs, (Lit.int k n).wf = true
/-- A literal list of ints. -/
theorem own_lit (w : World) (xs : List Int) (n : Nat) (hn : xs.length = n) (h : n ≤ 100) : (w.alloc (.cells (iv xs).toArray 3)).ownsRow w.heap.size 3 1 (.slice (some ⟨w.heap.size, 0, none⟩) n n) n (iv xs) :=
  ⟨by rw [iv_len, hn, Nat.mul_one], .inr ⟨w.heap.size, n, (iv xs).toArray, rfl, Nat.le_refl _, heap_alloc_new w _, Nat.le_refl _, by unfold maxLen; omega, by simp [iv_len, hn], by simp [iv_len, hn, List.take_of_length_le]⟩⟩
set_option maxHeartbeats 8000000 in
set_option maxRecDepth 100000 in
theorem walk_in {a0 : Option Addr} {len cap : Nat} (w : World) (hcode : CodeAt w a0 len) :
    Calls Try.prog 3 #[.slice a0 len cap] w fun e w' => e = .returned (.bool true) ∧ Below w.heap.size w w' := by
  have HCO := Lib.hid hcode
  clear hcode
  go_enter Try.func3, Try.ntmps3
  go_wp2_with fail
  refine (big_no _ HCO.out.1).mono ?_
  rintro e w' ⟨rfl, rfl⟩
  go_wp2_with fail
  refine (drawAim w HCO.out).mono ?_
  rintro e w1 ⟨W, H, N, z, p, g, ho, hN, h10, hp, hg, rfl, hb1⟩
  unfold bd
  obtain ⟨a, rfl⟩ := Int.eq_ofNat_of_zero_le (show 0 ≤ W by have := ho.w1; omega)
  obtain ⟨b, rfl⟩ := Int.eq_ofNat_of_zero_le (show 0 ≤ H by have := ho.h1; omega)
  have S : Small5 (a : Int) (b : Int) (z : Int) (p : Int) a b N z p := ⟨rfl, rfl, rfl, rfl, ho, hN, hp⟩
  have hp63 : (p : Int) ≤ 9223372036854775807 := by have := hp.le; have := ho.zbig; omega
  have hg63 : (g : Int) ≤ 9223372036854775807 := by have := hg.le; have := ho.zbig; omega
  have CP := Lib.hid (fun w => specPegs (a : Int) b z p hp63 w)
  have CG := Lib.hid (fun w => specPegs (a : Int) b z g hg63 w)
  have CC := Lib.hid (fun w => specCanRch (a : Int) b z p g hp63 hg63 w)
  have CM := Lib.hid (fun (n : Nat) (h : n ≤ 50) w => implMeet (a : Int) b z p g n hp63 hg63 (by omega) w)
  have HMt := Lib.hid (fun (n d : Nat) hd (hn : n ≤ d) => S.meet (n := n) (d := d) hg hd hn)
  have CPu := Lib.hid (fun (q : Nat) (h : posB (a : Int) b z (q : Int) = true) w => specPegs (a : Int) b z (q : Int) (by obtain ⟨N', z', q', e1, e2, ho', hq'⟩ := pos_yes h; have := hq'.le; have := ho'.zbig; omega) w)
  have C1u := Lib.hid (fun (q : Nat) (h : posB (a : Int) b z (q : Int) = true) w => specCanRch (a : Int) b z p (q : Int) hp63 (by obtain ⟨N', z', q', e1, e2, ho', hq'⟩ := pos_yes h; have := hq'.le; have := ho'.zbig; omega) w)
  have C2u := Lib.hid (fun (q : Nat) (h : posB (a : Int) b z (q : Int) = true) w => specCanRch (a : Int) b z (q : Int) g (by obtain ⟨N', z', q', e1, e2, ho', hq'⟩ := pos_yes h; have := hq'.le; have := ho'.zbig; omega) hg63 w)
  have CW := Lib.hid (fun w => implWid (a : Int) b z p hp63 w)
  have CL := Lib.hid (fun (n : Int) (h : n ≤ 9223372036854775807) w => implLayerOf (a : Int) b z p n hp63 h w)
  have CR := Lib.hid (fun w => specReach (a : Int) b z p hp63 w)
  have CBk := Lib.hid (fun w => implBackLayer (a : Int) b z g 0 hg63 (by decide) w)
  obtain ⟨hl1, hl2, hl3⟩ := S.layers
  have hb0 := S.back0 hg
  have HLen := Lib.hid (fun (n : Nat) => layL_len false (a : Int) b z p n)
  have hML := Lib.hid (fun (n : Nat) => meet_leI (a : Int) b z p g n)
  have hwd50 : widB (a : Int) b z p ≤ 50 := by
    rw [S.wid]
    have := (widK_is (fun n => (layL false (a : Int) b z p (n : Int)).length) 15).1
    omega
  have hx := count_pos S.pos
  have hy := count_pos (pos_of ho hg)
  rw [S.eP] at hx
  have hx49 := pc_le 49 p
  have hy49 := pc_le 49 g
  have hrl := reach_len false (a : Int) b z p
  rw [hx, hy] at HMt
  rw [hx] at CP
  rw [hy] at CG
  generalize pc 49 p = x at *
  generalize pc 49 g = y at *
  generalize reachB false (a : Int) b z p g = can at *
  have HB1 := Lib.hid hb1
  clear hb1 h10 hN hp63 hg63 hx hy S ho hp hg
  have HQ2 : Hid ((w1.alloc (.cells #[.int .i64 (a : Int), .int .i64 (b : Int), .int .i64 (z : Int)] 25)).heap[w1.heap.size]? = some (.cells #[.int .i64 (a : Int), .int .i64 (b : Int), .int .i64 (z : Int)] 25 (0, 0))) := heap_alloc_new w1 _
  have HB2 : Hid (Below w.heap.size w (w1.alloc (.cells #[.int .i64 (a : Int), .int .i64 (b : Int), .int .i64 (z : Int)] 25))) := HB1.out.alloc HB1.out.size _
  obtain ⟨d, hd⟩ : ∃ d : Int, (x : Int) - (y : Int) = d := ⟨_, rfl⟩
  have hwd : IntKind.i64.wrap ((x : Int) - (y : Int)) = d := by rw [← hd]; exact IntWalk.i64_in _ (by omega)
  have hdb : -50 ≤ d ∧ d ≤ 49 := by omega
  have HD := Lib.hid hd
  clear hd
  go_wp2_with fail
  generalize w1.alloc (.cells #[.int .i64 (a : Int), .int .i64 (b : Int), .int .i64 (z : Int)] 25) = w2 at *
  generalize w1.heap.size = q at *
  refine wp_region_script (by kernel_rfl) (by kernel_rfl) ?_
  refine Script.load (i := 0) (v := ?_) rfl (by kernel_rfl) (by kernel_rfl) (fun _ _ _ h => h) (by kernel_rfl) ?_ ?_
  rotate_left
  · (intro wS hSw; obtain ⟨c0, c1, c2, -, -, -⟩ := row_facts (closed_row _ _ _ _ HQ2.out (After.trans (After.drew (After.refl _)) hSw)); go_simp; try with_reducible rfl)
  try simp only [Act.put, List.getElem_toArray, List.getElem_cons_succ, List.getElem_cons_zero, List.setIfInBounds_toArray, List.set_cons_zero, List.set_cons_succ]
  refine Script.load (i := 1) (v := ?_) rfl (by kernel_rfl) (by kernel_rfl) (fun _ _ _ h => h) (by kernel_rfl) ?_ ?_
  rotate_left
  · (intro wS hSw; obtain ⟨c0, c1, c2, -, -, -⟩ := row_facts (closed_row _ _ _ _ HQ2.out (After.trans (After.drew (After.refl _)) hSw)); go_simp; try with_reducible rfl)
  try simp only [Act.put, List.getElem_toArray, List.getElem_cons_succ, List.getElem_cons_zero, List.setIfInBounds_toArray, List.set_cons_zero, List.set_cons_succ]
  refine Script.call (i := 2) (v := ?_) rfl (by kernel_rfl) (by kernel_rfl) (fun _ _ _ h => h) (by kernel_rfl) ?_ ?_
  rotate_left
  · (intro wS hSw K hK; obtain ⟨c0, c1, c2, -, -, -⟩ := row_facts (closed_row _ _ _ _ HQ2.out (After.trans (After.drew (After.refl _)) hSw)); go_simp; go_at_call 11; refine (CP.out _).mono ?_; rintro e wc' ⟨rfl, hbc⟩; exact hK.out _ hbc)
  try simp only [Act.put, List.getElem_toArray, List.getElem_cons_succ, List.getElem_cons_zero, List.setIfInBounds_toArray, List.set_cons_zero, List.set_cons_succ]
  refine Script.load (i := 3) (v := ?_) rfl (by kernel_rfl) (by kernel_rfl) (fun _ _ _ h => h) (by kernel_rfl) ?_ ?_
  rotate_left
  · (intro wS hSw; obtain ⟨c0, c1, c2, -, -, -⟩ := row_facts (closed_row _ _ _ _ HQ2.out (After.trans (After.drew (After.refl _)) hSw)); go_simp; try with_reducible rfl)
  try simp only [Act.put, List.getElem_toArray, List.getElem_cons_succ, List.getElem_cons_zero, List.setIfInBounds_toArray, List.set_cons_zero, List.set_cons_succ]
  refine Script.load (i := 4) (v := ?_) rfl (by kernel_rfl) (by kernel_rfl) (fun _ _ _ h => h) (by kernel_rfl) ?_ ?_
  rotate_left
  · (intro wS hSw; obtain ⟨c0, c1, c2, -, -, -⟩ := row_facts (closed_row _ _ _ _ HQ2.out (After.trans (After.drew (After.refl _)) hSw)); go_simp; try with_reducible rfl)
  try simp only [Act.put, List.getElem_toArray, List.getElem_cons_succ, List.getElem_cons_zero, List.setIfInBounds_toArray, List.set_cons_zero, List.set_cons_succ]
  refine Script.call (i := 5) (v := ?_) rfl (by kernel_rfl) (by kernel_rfl) (fun _ _ _ h => h) (by kernel_rfl) ?_ ?_
  rotate_left
  · (intro wS hSw K hK; obtain ⟨c0, c1, c2, -, -, -⟩ := row_facts (closed_row _ _ _ _ HQ2.out (After.trans (After.drew (After.refl _)) hSw)); go_simp; go_at_call 11; refine (CG.out _).mono ?_; rintro e wc' ⟨rfl, hbc⟩; exact hK.out _ hbc)
  try simp only [Act.put, List.getElem_toArray, List.getElem_cons_succ, List.getElem_cons_zero, List.setIfInBounds_toArray, List.set_cons_zero, List.set_cons_succ]
  refine Script.load (i := 6) (v := ?_) rfl (by kernel_rfl) (by kernel_rfl) (fun _ _ _ h => h) (by kernel_rfl) ?_ ?_
  rotate_left
  · (intro wS hSw; obtain ⟨c0, c1, c2, -, -, -⟩ := row_facts (closed_row _ _ _ _ HQ2.out (After.trans (After.drew (After.refl _)) hSw)); go_simp; try with_reducible rfl)
  try simp only [Act.put, List.getElem_toArray, List.getElem_cons_succ, List.getElem_cons_zero, List.setIfInBounds_toArray, List.set_cons_zero, List.set_cons_succ]
  refine Script.load (i := 7) (v := ?_) rfl (by kernel_rfl) (by kernel_rfl) (fun _ _ _ h => h) (by kernel_rfl) ?_ ?_
  rotate_left
  · (intro wS hSw; obtain ⟨c0, c1, c2, -, -, -⟩ := row_facts (closed_row _ _ _ _ HQ2.out (After.trans (After.drew (After.refl _)) hSw)); go_simp; try with_reducible rfl)
  try simp only [Act.put, List.getElem_toArray, List.getElem_cons_succ, List.getElem_cons_zero, List.setIfInBounds_toArray, List.set_cons_zero, List.set_cons_succ]
  refine Script.done (by kernel_rfl) ?_
  intro wD hD hG
  have HSb := Lib.hid (After.trans (After.drew (After.refl _)) hD)
  have HQ3 := Lib.hid (closed_row _ _ _ _ HQ2.out HSb.out)
  have HB3 := Lib.hid (HB2.out.trans (HSb.out.mono HB2.out.size))
  clear hD hG HQ2 HB2 HSb HB1 hwd
  obtain ⟨c0, c1, c2, -, -, -⟩ := row_facts HQ3.out
  go_wp2_with fail
  clear c0 c1 c2
  refine (CC.out _).mono ?_
  rintro e w3 ⟨rfl, hb⟩
  have HQ4 := Lib.hid (closed_row _ _ _ _ HQ3.out hb)
  have HB4 := Lib.hid (HB3.out.trans (hb.mono HB3.out.size))
  clear hb HQ3 HB3 CC
  go_wp2_with fail
  go_loopw [8] (fun i wr => ∃ n : Nat, n ≤ 50 ∧ i = .int .i64 n ∧ Hid (wr.heap[q]? = some (.cells #[.int .i64 (a : Int), .int .i64 (b : Int), .int .i64 (z : Int)] 25 (0, 0))) ∧ Hid (Below w.heap.size w wr)) (fun i _ => 60 - (intOf i).toNat)
  case atStart => exact ⟨0, Nat.zero_le _, rfl, HQ4, HB4⟩
  case round =>
    clear HQ4 HB4
    obtain ⟨n, hn50, rfl, HQ, HB⟩ := hrel
    by_cases hnd : (n : Int) ≤ d
    · obtain ⟨dn, rfl⟩ : ∃ dn : Nat, d = dn := ⟨d.toNat, by omega⟩
      have hn49 : n < 50 := by omega
      obtain ⟨hcan, hmem⟩ := HMt.out n dn HD.out (by omega)
      have CX := Lib.hid (CM.out n hn50)
      have hml := hML.out n
      generalize meetL (a : Int) b z p g n = ms at *
      obtain ⟨m, hm⟩ : ∃ m, ms.length = m := ⟨_, rfl⟩
      rw [hm] at hcan hml
      have HM := Lib.hid hm
      have HMem := Lib.hid hmem
      have hcan2 : decide ((0 : Int) < (m : Int)) = can := by rw [← hcan]; exact decide_eq_decide.2 (by omega)
      have hcc : (can != can) = false := by cases can <;> rfl
      obtain ⟨c0, c1, c2, -, -, -⟩ := row_facts HQ.out
      clear hm hmem
      go_wp2_with fail
      clear c0 c1 c2
      refine (CX.out _).mono ?_
      rintro e w4 ⟨v, rfl, hh, hb⟩
      rw [HM.out] at hh
      obtain ⟨va, vc, rfl⟩ := int_form hh
      have HV5 := Lib.hid hh
      have HQ5 := Lib.hid (closed_row _ _ _ _ HQ.out hb)
      have HB5 := Lib.hid (HB.out.trans (hb.mono HB.out.size))
      clear hh hb HQ HB CX
      go_wp2_with fail
      clear hcan hcan2 hcc
      go_loopw [10] (fun i wr' => ∃ j : Nat, j ≤ m ∧ i = .int .i64 j ∧ Hid (wr'.ownsRow wr.heap.size 3 1 (.slice va m vc) m (iv ms)) ∧ Hid (wr'.heap[q]? = some (.cells #[.int .i64 (a : Int), .int .i64 (b : Int), .int .i64 (z : Int)] 25 (0, 0))) ∧ Hid (Below w.heap.size w wr')) (fun i _ => m - (intOf i).toNat)
      case atStart => exact ⟨0, Nat.zero_le _, rfl, HV5, HQ5, HB5⟩
      case round =>
        clear HV5 HQ5 HB5
        obtain ⟨j, hj, rfl, HV, HQ, HB⟩ := hrel
        by_cases hjm : j < m
        · have j0 : (0 : Int) ≤ (j : Int) := by omega
          have j1 : (j : Int) < (m : Int) := by omega
          obtain ⟨u, hu⟩ : ∃ u, ms[j]? = some u := ⟨_, List.getElem?_eq_getElem (by rw [HM.out]; exact hjm)⟩
          obtain ⟨q', rfl, e1, e2, e3, e4⟩ := HMem.out u (List.mem_of_getElem? hu)
          obtain ⟨gm, rfl⟩ := one_block HV.out (by omega)
          have HCu := Lib.hid (CPu.out q' e1)
          have HC1 := Lib.hid (C1u.out q' e1)
          have HC2 := Lib.hid (C2u.out q' e1)
          rw [e2] at HCu
          rw [e3] at HC1
          rw [e4] at HC2
          have hxn : IntKind.i64.wrap ((x : Int) - (n : Int)) = (x : Int) - (n : Int) := IntWalk.i64_in _ (by omega)
          have HU := Lib.hid hu
          clear hu e1 e2 e3 e4
          have hne : (((x : Int) - (n : Int)) != ((x : Int) - (n : Int))) = false := by simp
          obtain ⟨xn, hxe⟩ : ∃ t, (x : Int) - (n : Int) = t := ⟨_, rfl⟩
          rw [hxe] at hne hxn HCu
          have hxn2 : IntKind.i64.wrap ((x : Int) - (n : Int)) = xn := by rw [hxe]; exact hxn
          clear hxn hxe
          go_wp2_with fail
          refine wp_region_script (by kernel_rfl) (by kernel_rfl) ?_
          refine Script.load (i := 0) (v := ?_) rfl (by kernel_rfl) (by kernel_rfl) (fun _ _ _ h => h) (by kernel_rfl) ?_ ?_
          rotate_left
          · (intro wS hSw; have hSb := After.trans (After.drew (After.refl _)) hSw; obtain ⟨c0, c1, c2, -, -, -⟩ := row_facts (closed_row _ _ _ _ HQ.out hSb); have hcl := own_cell (own_below HV.out hSb) j hjm (.int .i64 (q' : Int)) (by simp [iv, HU.out]); go_simp; try with_reducible rfl)
          try simp only [Act.put, List.getElem_toArray, List.getElem_cons_succ, List.getElem_cons_zero, List.setIfInBounds_toArray, List.set_cons_zero, List.set_cons_succ]
          refine Script.load (i := 1) (v := ?_) rfl (by kernel_rfl) (by kernel_rfl) (fun _ _ _ h => h) (by kernel_rfl) ?_ ?_
          rotate_left
          · (intro wS hSw; have hSb := After.trans (After.drew (After.refl _)) hSw; obtain ⟨c0, c1, c2, -, -, -⟩ := row_facts (closed_row _ _ _ _ HQ.out hSb); have hcl := own_cell (own_below HV.out hSb) j hjm (.int .i64 (q' : Int)) (by simp [iv, HU.out]); go_simp; try with_reducible rfl)
          try simp only [Act.put, List.getElem_toArray, List.getElem_cons_succ, List.getElem_cons_zero, List.setIfInBounds_toArray, List.set_cons_zero, List.set_cons_succ]
          refine Script.load (i := 2) (v := ?_) rfl (by kernel_rfl) (by kernel_rfl) (fun _ _ _ h => h) (by kernel_rfl) ?_ ?_
          rotate_left
          · (intro wS hSw; have hSb := After.trans (After.drew (After.refl _)) hSw; obtain ⟨c0, c1, c2, -, -, -⟩ := row_facts (closed_row _ _ _ _ HQ.out hSb); have hcl := own_cell (own_below HV.out hSb) j hjm (.int .i64 (q' : Int)) (by simp [iv, HU.out]); go_simp; try with_reducible rfl)
          try simp only [Act.put, List.getElem_toArray, List.getElem_cons_succ, List.getElem_cons_zero, List.setIfInBounds_toArray, List.set_cons_zero, List.set_cons_succ]
          refine Script.load (i := 3) (v := ?_) rfl (by kernel_rfl) (by kernel_rfl) (fun _ _ _ h => h) (by kernel_rfl) ?_ ?_
          rotate_left
          · (intro wS hSw; have hSb := After.trans (After.drew (After.refl _)) hSw; obtain ⟨c0, c1, c2, -, -, -⟩ := row_facts (closed_row _ _ _ _ HQ.out hSb); have hcl := own_cell (own_below HV.out hSb) j hjm (.int .i64 (q' : Int)) (by simp [iv, HU.out]); go_simp; try with_reducible rfl)
          try simp only [Act.put, List.getElem_toArray, List.getElem_cons_succ, List.getElem_cons_zero, List.setIfInBounds_toArray, List.set_cons_zero, List.set_cons_succ]
          refine Script.load (i := 4) (v := ?_) rfl (by kernel_rfl) (by kernel_rfl) (fun _ _ _ h => h) (by kernel_rfl) ?_ ?_
          rotate_left
          · (intro wS hSw; have hSb := After.trans (After.drew (After.refl _)) hSw; obtain ⟨c0, c1, c2, -, -, -⟩ := row_facts (closed_row _ _ _ _ HQ.out hSb); have hcl := own_cell (own_below HV.out hSb) j hjm (.int .i64 (q' : Int)) (by simp [iv, HU.out]); go_simp; try with_reducible rfl)
          try simp only [Act.put, List.getElem_toArray, List.getElem_cons_succ, List.getElem_cons_zero, List.setIfInBounds_toArray, List.set_cons_zero, List.set_cons_succ]
          refine Script.call (i := 5) (v := ?_) rfl (by kernel_rfl) (by kernel_rfl) (fun _ _ _ h => h) (by kernel_rfl) ?_ ?_
          rotate_left
          · (intro wS hSw K hK; have hSb := After.trans (After.drew (After.refl _)) hSw; obtain ⟨c0, c1, c2, -, -, -⟩ := row_facts (closed_row _ _ _ _ HQ.out hSb); have hcl := own_cell (own_below HV.out hSb) j hjm (.int .i64 (q' : Int)) (by simp [iv, HU.out]); go_simp; go_at_call 11; refine (HCu.out _).mono ?_; rintro e wc' ⟨rfl, hbc⟩; exact hK.out _ hbc)
          try simp only [Act.put, List.getElem_toArray, List.getElem_cons_succ, List.getElem_cons_zero, List.setIfInBounds_toArray, List.set_cons_zero, List.set_cons_succ]
          refine Script.load (i := 6) (v := ?_) rfl (by kernel_rfl) (by kernel_rfl) (fun _ _ _ h => h) (by kernel_rfl) ?_ ?_
          rotate_left
          · (intro wS hSw; have hSb := After.trans (After.drew (After.refl _)) hSw; obtain ⟨c0, c1, c2, -, -, -⟩ := row_facts (closed_row _ _ _ _ HQ.out hSb); have hcl := own_cell (own_below HV.out hSb) j hjm (.int .i64 (q' : Int)) (by simp [iv, HU.out]); go_simp; try with_reducible rfl)
          try simp only [Act.put, List.getElem_toArray, List.getElem_cons_succ, List.getElem_cons_zero, List.setIfInBounds_toArray, List.set_cons_zero, List.set_cons_succ]
          refine Script.load (i := 7) (v := ?_) rfl (by kernel_rfl) (by kernel_rfl) (fun _ _ _ h => h) (by kernel_rfl) ?_ ?_
          rotate_left
          · (intro wS hSw; have hSb := After.trans (After.drew (After.refl _)) hSw; obtain ⟨c0, c1, c2, -, -, -⟩ := row_facts (closed_row _ _ _ _ HQ.out hSb); have hcl := own_cell (own_below HV.out hSb) j hjm (.int .i64 (q' : Int)) (by simp [iv, HU.out]); go_simp; try with_reducible rfl)
          try simp only [Act.put, List.getElem_toArray, List.getElem_cons_succ, List.getElem_cons_zero, List.setIfInBounds_toArray, List.set_cons_zero, List.set_cons_succ]
          refine Script.call (i := 8) (v := ?_) rfl (by kernel_rfl) (by kernel_rfl) (fun _ _ _ h => h) (by kernel_rfl) ?_ ?_
          rotate_left
          · (intro wS hSw K hK; have hSb := After.trans (After.drew (After.refl _)) hSw; obtain ⟨c0, c1, c2, -, -, -⟩ := row_facts (closed_row _ _ _ _ HQ.out hSb); have hcl := own_cell (own_below HV.out hSb) j hjm (.int .i64 (q' : Int)) (by simp [iv, HU.out]); go_simp; go_at_call 11; refine (CP.out _).mono ?_; rintro e wc' ⟨rfl, hbc⟩; exact hK.out _ hbc)
          try simp only [Act.put, List.getElem_toArray, List.getElem_cons_succ, List.getElem_cons_zero, List.setIfInBounds_toArray, List.set_cons_zero, List.set_cons_succ]
          refine Script.load (i := 9) (v := ?_) rfl (by kernel_rfl) (by kernel_rfl) (fun _ _ _ h => h) (by kernel_rfl) ?_ ?_
          rotate_left
          · (intro wS hSw; have hSb := After.trans (After.drew (After.refl _)) hSw; obtain ⟨c0, c1, c2, -, -, -⟩ := row_facts (closed_row _ _ _ _ HQ.out hSb); have hcl := own_cell (own_below HV.out hSb) j hjm (.int .i64 (q' : Int)) (by simp [iv, HU.out]); go_simp; try with_reducible rfl)
          try simp only [Act.put, List.getElem_toArray, List.getElem_cons_succ, List.getElem_cons_zero, List.setIfInBounds_toArray, List.set_cons_zero, List.set_cons_succ]
          refine Script.load (i := 10) (v := ?_) rfl (by kernel_rfl) (by kernel_rfl) (fun _ _ _ h => h) (by kernel_rfl) ?_ ?_
          rotate_left
          · (intro wS hSw; have hSb := After.trans (After.drew (After.refl _)) hSw; obtain ⟨c0, c1, c2, -, -, -⟩ := row_facts (closed_row _ _ _ _ HQ.out hSb); have hcl := own_cell (own_below HV.out hSb) j hjm (.int .i64 (q' : Int)) (by simp [iv, HU.out]); go_simp; try with_reducible rfl)
          try simp only [Act.put, List.getElem_toArray, List.getElem_cons_succ, List.getElem_cons_zero, List.setIfInBounds_toArray, List.set_cons_zero, List.set_cons_succ]
          refine Script.load (i := 11) (v := ?_) rfl (by kernel_rfl) (by kernel_rfl) (fun _ _ _ h => h) (by kernel_rfl) ?_ ?_
          rotate_left
          · (intro wS hSw; have hSb := After.trans (After.drew (After.refl _)) hSw; obtain ⟨c0, c1, c2, -, -, -⟩ := row_facts (closed_row _ _ _ _ HQ.out hSb); have hcl := own_cell (own_below HV.out hSb) j hjm (.int .i64 (q' : Int)) (by simp [iv, HU.out]); go_simp; try with_reducible rfl)
          try simp only [Act.put, List.getElem_toArray, List.getElem_cons_succ, List.getElem_cons_zero, List.setIfInBounds_toArray, List.set_cons_zero, List.set_cons_succ]
          refine Script.load (i := 12) (v := ?_) rfl (by kernel_rfl) (by kernel_rfl) (fun _ _ _ h => h) (by kernel_rfl) ?_ ?_
          rotate_left
          · (intro wS hSw; have hSb := After.trans (After.drew (After.refl _)) hSw; obtain ⟨c0, c1, c2, -, -, -⟩ := row_facts (closed_row _ _ _ _ HQ.out hSb); have hcl := own_cell (own_below HV.out hSb) j hjm (.int .i64 (q' : Int)) (by simp [iv, HU.out]); go_simp; try with_reducible rfl)
          try simp only [Act.put, List.getElem_toArray, List.getElem_cons_succ, List.getElem_cons_zero, List.setIfInBounds_toArray, List.set_cons_zero, List.set_cons_succ]
          refine Script.load (i := 13) (v := ?_) rfl (by kernel_rfl) (by kernel_rfl) (fun _ _ _ h => h) (by kernel_rfl) ?_ ?_
          rotate_left
          · (intro wS hSw; have hSb := After.trans (After.drew (After.refl _)) hSw; obtain ⟨c0, c1, c2, -, -, -⟩ := row_facts (closed_row _ _ _ _ HQ.out hSb); have hcl := own_cell (own_below HV.out hSb) j hjm (.int .i64 (q' : Int)) (by simp [iv, HU.out]); go_simp; try with_reducible rfl)
          try simp only [Act.put, List.getElem_toArray, List.getElem_cons_succ, List.getElem_cons_zero, List.setIfInBounds_toArray, List.set_cons_zero, List.set_cons_succ]
          refine Script.load (i := 14) (v := ?_) rfl (by kernel_rfl) (by kernel_rfl) (fun _ _ _ h => h) (by kernel_rfl) ?_ ?_
          rotate_left
          · (intro wS hSw; have hSb := After.trans (After.drew (After.refl _)) hSw; obtain ⟨c0, c1, c2, -, -, -⟩ := row_facts (closed_row _ _ _ _ HQ.out hSb); have hcl := own_cell (own_below HV.out hSb) j hjm (.int .i64 (q' : Int)) (by simp [iv, HU.out]); go_simp; try with_reducible rfl)
          try simp only [Act.put, List.getElem_toArray, List.getElem_cons_succ, List.getElem_cons_zero, List.setIfInBounds_toArray, List.set_cons_zero, List.set_cons_succ]
          refine Script.load (i := 15) (v := ?_) rfl (by kernel_rfl) (by kernel_rfl) (fun _ _ _ h => h) (by kernel_rfl) ?_ ?_
          rotate_left
          · (intro wS hSw; have hSb := After.trans (After.drew (After.refl _)) hSw; obtain ⟨c0, c1, c2, -, -, -⟩ := row_facts (closed_row _ _ _ _ HQ.out hSb); have hcl := own_cell (own_below HV.out hSb) j hjm (.int .i64 (q' : Int)) (by simp [iv, HU.out]); go_simp; try with_reducible rfl)
          try simp only [Act.put, List.getElem_toArray, List.getElem_cons_succ, List.getElem_cons_zero, List.setIfInBounds_toArray, List.set_cons_zero, List.set_cons_succ]
          refine Script.load (i := 16) (v := ?_) rfl (by kernel_rfl) (by kernel_rfl) (fun _ _ _ h => h) (by kernel_rfl) ?_ ?_
          rotate_left
          · (intro wS hSw; have hSb := After.trans (After.drew (After.refl _)) hSw; obtain ⟨c0, c1, c2, -, -, -⟩ := row_facts (closed_row _ _ _ _ HQ.out hSb); have hcl := own_cell (own_below HV.out hSb) j hjm (.int .i64 (q' : Int)) (by simp [iv, HU.out]); go_simp; try with_reducible rfl)
          try simp only [Act.put, List.getElem_toArray, List.getElem_cons_succ, List.getElem_cons_zero, List.setIfInBounds_toArray, List.set_cons_zero, List.set_cons_succ]
          refine Script.load (i := 17) (v := ?_) rfl (by kernel_rfl) (by kernel_rfl) (fun _ _ _ h => h) (by kernel_rfl) ?_ ?_
          rotate_left
          · (intro wS hSw; have hSb := After.trans (After.drew (After.refl _)) hSw; obtain ⟨c0, c1, c2, -, -, -⟩ := row_facts (closed_row _ _ _ _ HQ.out hSb); have hcl := own_cell (own_below HV.out hSb) j hjm (.int .i64 (q' : Int)) (by simp [iv, HU.out]); go_simp; try with_reducible rfl)
          try simp only [Act.put, List.getElem_toArray, List.getElem_cons_succ, List.getElem_cons_zero, List.setIfInBounds_toArray, List.set_cons_zero, List.set_cons_succ]
          refine Script.load (i := 18) (v := ?_) rfl (by kernel_rfl) (by kernel_rfl) (fun _ _ _ h => h) (by kernel_rfl) ?_ ?_
          rotate_left
          · (intro wS hSw; have hSb := After.trans (After.drew (After.refl _)) hSw; obtain ⟨c0, c1, c2, -, -, -⟩ := row_facts (closed_row _ _ _ _ HQ.out hSb); have hcl := own_cell (own_below HV.out hSb) j hjm (.int .i64 (q' : Int)) (by simp [iv, HU.out]); go_simp; try with_reducible rfl)
          try simp only [Act.put, List.getElem_toArray, List.getElem_cons_succ, List.getElem_cons_zero, List.setIfInBounds_toArray, List.set_cons_zero, List.set_cons_succ]
          refine Script.call (i := 19) (v := ?_) rfl (by kernel_rfl) (by kernel_rfl) (fun _ _ _ h => h) (by kernel_rfl) ?_ ?_
          rotate_left
          · (intro wS hSw K hK; have hSb := After.trans (After.drew (After.refl _)) hSw; obtain ⟨c0, c1, c2, -, -, -⟩ := row_facts (closed_row _ _ _ _ HQ.out hSb); have hcl := own_cell (own_below HV.out hSb) j hjm (.int .i64 (q' : Int)) (by simp [iv, HU.out]); go_simp; go_at_call 12; refine (HC1.out _).mono ?_; rintro e wc' ⟨rfl, hbc⟩; exact hK.out _ hbc)
          try simp only [Act.put, List.getElem_toArray, List.getElem_cons_succ, List.getElem_cons_zero, List.setIfInBounds_toArray, List.set_cons_zero, List.set_cons_succ]
          refine Script.load (i := 20) (v := ?_) rfl (by kernel_rfl) (by kernel_rfl) (fun _ _ _ h => h) (by kernel_rfl) ?_ ?_
          rotate_left
          · (intro wS hSw; have hSb := After.trans (After.drew (After.refl _)) hSw; obtain ⟨c0, c1, c2, -, -, -⟩ := row_facts (closed_row _ _ _ _ HQ.out hSb); have hcl := own_cell (own_below HV.out hSb) j hjm (.int .i64 (q' : Int)) (by simp [iv, HU.out]); go_simp; try with_reducible rfl)
          try simp only [Act.put, List.getElem_toArray, List.getElem_cons_succ, List.getElem_cons_zero, List.setIfInBounds_toArray, List.set_cons_zero, List.set_cons_succ]
          refine Script.load (i := 21) (v := ?_) rfl (by kernel_rfl) (by kernel_rfl) (fun _ _ _ h => h) (by kernel_rfl) ?_ ?_
          rotate_left
          · (intro wS hSw; have hSb := After.trans (After.drew (After.refl _)) hSw; obtain ⟨c0, c1, c2, -, -, -⟩ := row_facts (closed_row _ _ _ _ HQ.out hSb); have hcl := own_cell (own_below HV.out hSb) j hjm (.int .i64 (q' : Int)) (by simp [iv, HU.out]); go_simp; try with_reducible rfl)
          try simp only [Act.put, List.getElem_toArray, List.getElem_cons_succ, List.getElem_cons_zero, List.setIfInBounds_toArray, List.set_cons_zero, List.set_cons_succ]
          refine Script.load (i := 22) (v := ?_) rfl (by kernel_rfl) (by kernel_rfl) (fun _ _ _ h => h) (by kernel_rfl) ?_ ?_
          rotate_left
          · (intro wS hSw; have hSb := After.trans (After.drew (After.refl _)) hSw; obtain ⟨c0, c1, c2, -, -, -⟩ := row_facts (closed_row _ _ _ _ HQ.out hSb); have hcl := own_cell (own_below HV.out hSb) j hjm (.int .i64 (q' : Int)) (by simp [iv, HU.out]); go_simp; try with_reducible rfl)
          try simp only [Act.put, List.getElem_toArray, List.getElem_cons_succ, List.getElem_cons_zero, List.setIfInBounds_toArray, List.set_cons_zero, List.set_cons_succ]
          refine Script.load (i := 23) (v := ?_) rfl (by kernel_rfl) (by kernel_rfl) (fun _ _ _ h => h) (by kernel_rfl) ?_ ?_
          rotate_left
          · (intro wS hSw; have hSb := After.trans (After.drew (After.refl _)) hSw; obtain ⟨c0, c1, c2, -, -, -⟩ := row_facts (closed_row _ _ _ _ HQ.out hSb); have hcl := own_cell (own_below HV.out hSb) j hjm (.int .i64 (q' : Int)) (by simp [iv, HU.out]); go_simp; try with_reducible rfl)
          try simp only [Act.put, List.getElem_toArray, List.getElem_cons_succ, List.getElem_cons_zero, List.setIfInBounds_toArray, List.set_cons_zero, List.set_cons_succ]
          refine Script.load (i := 24) (v := ?_) rfl (by kernel_rfl) (by kernel_rfl) (fun _ _ _ h => h) (by kernel_rfl) ?_ ?_
          rotate_left
          · (intro wS hSw; have hSb := After.trans (After.drew (After.refl _)) hSw; obtain ⟨c0, c1, c2, -, -, -⟩ := row_facts (closed_row _ _ _ _ HQ.out hSb); have hcl := own_cell (own_below HV.out hSb) j hjm (.int .i64 (q' : Int)) (by simp [iv, HU.out]); go_simp; try with_reducible rfl)
          try simp only [Act.put, List.getElem_toArray, List.getElem_cons_succ, List.getElem_cons_zero, List.setIfInBounds_toArray, List.set_cons_zero, List.set_cons_succ]
          refine Script.load (i := 25) (v := ?_) rfl (by kernel_rfl) (by kernel_rfl) (fun _ _ _ h => h) (by kernel_rfl) ?_ ?_
          rotate_left
          · (intro wS hSw; have hSb := After.trans (After.drew (After.refl _)) hSw; obtain ⟨c0, c1, c2, -, -, -⟩ := row_facts (closed_row _ _ _ _ HQ.out hSb); have hcl := own_cell (own_below HV.out hSb) j hjm (.int .i64 (q' : Int)) (by simp [iv, HU.out]); go_simp; try with_reducible rfl)
          try simp only [Act.put, List.getElem_toArray, List.getElem_cons_succ, List.getElem_cons_zero, List.setIfInBounds_toArray, List.set_cons_zero, List.set_cons_succ]
          refine Script.load (i := 26) (v := ?_) rfl (by kernel_rfl) (by kernel_rfl) (fun _ _ _ h => h) (by kernel_rfl) ?_ ?_
          rotate_left
          · (intro wS hSw; have hSb := After.trans (After.drew (After.refl _)) hSw; obtain ⟨c0, c1, c2, -, -, -⟩ := row_facts (closed_row _ _ _ _ HQ.out hSb); have hcl := own_cell (own_below HV.out hSb) j hjm (.int .i64 (q' : Int)) (by simp [iv, HU.out]); go_simp; try with_reducible rfl)
          try simp only [Act.put, List.getElem_toArray, List.getElem_cons_succ, List.getElem_cons_zero, List.setIfInBounds_toArray, List.set_cons_zero, List.set_cons_succ]
          refine Script.load (i := 27) (v := ?_) rfl (by kernel_rfl) (by kernel_rfl) (fun _ _ _ h => h) (by kernel_rfl) ?_ ?_
          rotate_left
          · (intro wS hSw; have hSb := After.trans (After.drew (After.refl _)) hSw; obtain ⟨c0, c1, c2, -, -, -⟩ := row_facts (closed_row _ _ _ _ HQ.out hSb); have hcl := own_cell (own_below HV.out hSb) j hjm (.int .i64 (q' : Int)) (by simp [iv, HU.out]); go_simp; try with_reducible rfl)
          try simp only [Act.put, List.getElem_toArray, List.getElem_cons_succ, List.getElem_cons_zero, List.setIfInBounds_toArray, List.set_cons_zero, List.set_cons_succ]
          refine Script.load (i := 28) (v := ?_) rfl (by kernel_rfl) (by kernel_rfl) (fun _ _ _ h => h) (by kernel_rfl) ?_ ?_
          rotate_left
          · (intro wS hSw; have hSb := After.trans (After.drew (After.refl _)) hSw; obtain ⟨c0, c1, c2, -, -, -⟩ := row_facts (closed_row _ _ _ _ HQ.out hSb); have hcl := own_cell (own_below HV.out hSb) j hjm (.int .i64 (q' : Int)) (by simp [iv, HU.out]); go_simp; try with_reducible rfl)
          try simp only [Act.put, List.getElem_toArray, List.getElem_cons_succ, List.getElem_cons_zero, List.setIfInBounds_toArray, List.set_cons_zero, List.set_cons_succ]
          refine Script.call (i := 29) (v := ?_) rfl (by kernel_rfl) (by kernel_rfl) (fun _ _ _ h => h) (by kernel_rfl) ?_ ?_
          rotate_left
          · (intro wS hSw K hK; have hSb := After.trans (After.drew (After.refl _)) hSw; obtain ⟨c0, c1, c2, -, -, -⟩ := row_facts (closed_row _ _ _ _ HQ.out hSb); have hcl := own_cell (own_below HV.out hSb) j hjm (.int .i64 (q' : Int)) (by simp [iv, HU.out]); go_simp; go_at_call 12; refine (HC2.out _).mono ?_; rintro e wc' ⟨rfl, hbc⟩; exact hK.out _ hbc)
          try simp only [Act.put, List.getElem_toArray, List.getElem_cons_succ, List.getElem_cons_zero, List.setIfInBounds_toArray, List.set_cons_zero, List.set_cons_succ]
          refine Script.load (i := 30) (v := ?_) rfl (by kernel_rfl) (by kernel_rfl) (fun _ _ _ h => h) (by kernel_rfl) ?_ ?_
          rotate_left
          · (intro wS hSw; have hSb := After.trans (After.drew (After.refl _)) hSw; obtain ⟨c0, c1, c2, -, -, -⟩ := row_facts (closed_row _ _ _ _ HQ.out hSb); have hcl := own_cell (own_below HV.out hSb) j hjm (.int .i64 (q' : Int)) (by simp [iv, HU.out]); go_simp; try with_reducible rfl)
          try simp only [Act.put, List.getElem_toArray, List.getElem_cons_succ, List.getElem_cons_zero, List.setIfInBounds_toArray, List.set_cons_zero, List.set_cons_succ]
          refine Script.load (i := 31) (v := ?_) rfl (by kernel_rfl) (by kernel_rfl) (fun _ _ _ h => h) (by kernel_rfl) ?_ ?_
          rotate_left
          · (intro wS hSw; have hSb := After.trans (After.drew (After.refl _)) hSw; obtain ⟨c0, c1, c2, -, -, -⟩ := row_facts (closed_row _ _ _ _ HQ.out hSb); have hcl := own_cell (own_below HV.out hSb) j hjm (.int .i64 (q' : Int)) (by simp [iv, HU.out]); go_simp; try with_reducible rfl)
          try simp only [Act.put, List.getElem_toArray, List.getElem_cons_succ, List.getElem_cons_zero, List.setIfInBounds_toArray, List.set_cons_zero, List.set_cons_succ]
          refine Script.done (by kernel_rfl) ?_
          intro wD hD hG
          have HSb := Lib.hid (After.trans (After.drew (After.refl _)) hD)
          have HV2 := Lib.hid (own_below HV.out HSb.out)
          have HQ2 := Lib.hid (closed_row _ _ _ _ HQ.out HSb.out)
          have HB2 := Lib.hid (HB.out.trans (HSb.out.mono HB.out.size))
          clear hD hG HV HQ HB HSb
          go_wp2_with fail
          go_roundw
          case rel => exact ⟨j + 1, by omega, by go_num, HV2, HQ2, HB2⟩
          case measure => simp [intOf]; omega
        · obtain rfl : j = m := by omega
          go_wp2_with fail
          go_roundw
          case rel => exact ⟨n + 1, by omega, by go_num, HQ, HB⟩
          case measure => simp [intOf]; omega
    · have hwdn : ¬ widB (a : Int) b z p < 0 := by omega
      have HL3 := Lib.hid hl3
      have HL1 := Lib.hid hl1
      have CLw := Lib.hid (CL.out (widB (a : Int) b z p) (by omega))
      have CLn := Lib.hid (fun (k : Nat) (h : k ≤ 50) => CL.out (k : Int) (by omega))
      obtain ⟨lf, hlf⟩ : ∃ lf : Nat → Nat, (fun n : Nat => (layL false (a : Int) b z p (n : Int)).length) = lf := ⟨_, rfl⟩
      have HLf : Hid (∀ k : Nat, (layL false (a : Int) b z p (k : Int)).length = lf k) := fun k => by rw [← hlf]
      rw [hlf] at HL1 HL3
      have HLb : Hid (∀ k, lf k ≤ 65536) := fun k => by rw [← HLf.out]; exact HLen.out k
      obtain ⟨lw, hlw⟩ : ∃ l, layL false (a : Int) b z p (widB (a : Int) b z p) = l := ⟨_, rfl⟩
      rw [hlw] at CLw HL3
      obtain ⟨rl, hrle⟩ : ∃ l, reachL false (a : Int) b z p = l := ⟨_, rfl⟩
      rw [hrle] at CR HL1 hrl
      obtain ⟨lb, hlb⟩ : ∃ l, layL true (a : Int) b z g 0 = l := ⟨_, rfl⟩
      rw [hlb] at CBk hb0
      generalize widB (a : Int) b z p = wd at *
      have HB0 := Lib.hid hb0
      have hwd63 : wd ≤ 9223372036854775807 := by omega
      clear hl1 hl2 hl3 HLen hlf hlw hrle hlb hb0 HMt CM hML CPu C1u C2u CP CG CL
      obtain ⟨c0, c1, c2, -, -, -⟩ := row_facts HQ.out
      go_wp2_with fail
      clear c0 c1 c2
      refine (CW.out _).mono ?_
      rintro e w4 ⟨rfl, hb⟩
      have HQ5 := Lib.hid (closed_row _ _ _ _ HQ.out hb)
      have HB5 := Lib.hid (HB.out.trans (hb.mono HB.out.size))
      clear hb HQ HB CW
      go_wp2_with fail
      go_loopw [12, 13, 14] (fun u v i wr => ∃ (k t mx : Nat), k ≤ 16 ∧ i = .int .i64 k ∧ u = .int .i64 t ∧ v = .int .i64 mx ∧ t ≤ k * 65536 ∧ mx ≤ 65536 ∧ Hid (sumN lf k = t) ∧ Hid (maxN lf k = mx) ∧ Hid (wr.heap[q]? = some (.cells #[.int .i64 (a : Int), .int .i64 (b : Int), .int .i64 (z : Int)] 25 (0, 0))) ∧ Hid (Below w.heap.size w wr)) (fun _ _ i _ => 16 - (intOf i).toNat)
      case atStart => exact ⟨0, 0, 0, Nat.zero_le _, rfl, rfl, rfl, Nat.zero_le _, Nat.zero_le _, rfl, rfl, HQ5, HB5⟩
      case round =>
        clear HQ5 HB5
        obtain ⟨k, t, mx, hk16, rfl, rfl, rfl, htb, hmb, HT, HMx, HQ, HB⟩ := hrel
        by_cases hk : k < 16
        · have k1 : (k : Int) < 16 := by omega
          have CX := Lib.hid (CLn.out k (by omega))
          obtain ⟨m, hm⟩ : ∃ m, lf k = m := ⟨_, rfl⟩
          have hmk := HLf.out k
          have hm65 := HLb.out k
          rw [hm] at hmk hm65
          have HMk := Lib.hid hmk
          have HT2 : Hid (sumN lf (k + 1) = t + m) := by unfold Hid; simp only [sumN]; rw [HT.out, hm]
          have HX2 : Hid (maxN lf (k + 1) = max mx m) := by unfold Hid; simp only [maxN]; rw [HMx.out, hm]
          have hwt : IntKind.i64.wrap ((t : Int) + (m : Int)) = ((t + m : Nat) : Int) := by rw [IntWalk.i64_in _ (by omega)]; omega
          generalize layL false (a : Int) b z p (k : Int) = lk at *
          obtain ⟨c0, c1, c2, -, -, -⟩ := row_facts HQ.out
          clear hm hmk
          go_wp2_with fail
          clear c0 c1 c2
          refine (CX.out _).mono ?_
          rintro e w5 ⟨v, rfl, hh, hb⟩
          rw [HMk.out] at hh
          obtain ⟨va, vc, rfl⟩ := one_form hh
          have HQ2 := Lib.hid (closed_row _ _ _ _ HQ.out hb)
          have HB2 := Lib.hid (HB.out.trans (hb.mono HB.out.size))
          clear hh hb HQ HB CX
          by_cases hmm : mx < m
          · have hd1 : (mx : Int) < (m : Int) := by omega
            have HX3 : Hid (maxN lf (k + 1) = m) := by unfold Hid; rw [HX2.out]; omega
            clear HX2 hmm
            go_wp2_with fail
            go_roundw
            case rel => exact ⟨k + 1, t + m, m, by omega, by go_num, by simp, (by first | rfl | (congr 1; omega)), by omega, hm65, HT2, HX3, HQ2, HB2⟩
            case measure => simp [intOf]; omega
          · have hd1 : ¬ (mx : Int) < (m : Int) := by omega
            have HX3 : Hid (maxN lf (k + 1) = mx) := by unfold Hid; rw [HX2.out]; omega
            clear HX2 hmm
            go_wp2_with fail
            go_roundw
            case rel => exact ⟨k + 1, t + m, mx, by omega, by go_num, by simp, (by first | rfl | (congr 1; omega)), by omega, hmb, HT2, HX3, HQ2, HB2⟩
            case measure => simp [intOf]; omega
        · obtain rfl : k = 16 := by omega
          have HTr : Hid (rl.length = t) := by unfold Hid; rw [← HL1.out]; exact HT.out
          have HXr : Hid (lw.length = mx) := by unfold Hid; rw [HL3.out]; exact HMx.out
          have htt : ((t : Int) == (t : Int)) = true := by simp
          have hmmx : ((mx : Int) == (mx : Int)) = true := by simp
          clear HT HMx HL1 HL3 HLf HLb CLn htb hmb
          obtain ⟨c0, c1, c2, -, -, -⟩ := row_facts HQ.out
          rw [show ((16 : Nat) : Int) = 16 from rfl]
          go_wp2_with fail
          clear c0 c1 c2
          refine (CR.out _).mono ?_
          rintro e w5 ⟨v, rfl, hh, hb⟩
          rw [HTr.out] at hh
          obtain ⟨va, vc, rfl⟩ := one_form hh
          have HQ2 := Lib.hid (closed_row _ _ _ _ HQ.out hb)
          have HB2 := Lib.hid (HB.out.trans (hb.mono HB.out.size))
          clear hh hb HQ HB CR
          obtain ⟨c0, c1, c2, -, -, -⟩ := row_facts HQ2.out
          go_wp2_with fail
          clear c0 c1 c2
          refine (CLw.out _).mono ?_
          rintro e w6 ⟨v, rfl, hh, hb⟩
          rw [HXr.out] at hh
          obtain ⟨va2, vc2, rfl⟩ := one_form hh
          have HQ3 := Lib.hid (closed_row _ _ _ _ HQ2.out hb)
          have HB3 := Lib.hid (HB2.out.trans (hb.mono HB2.out.size))
          clear hh hb HQ2 HB2 CLw
          obtain ⟨c0, c1, c2, -, -, -⟩ := row_facts HQ3.out
          go_wp2_with fail
          clear c0 c1 c2
          refine (CBk.out _).mono ?_
          rintro e w7 ⟨v, rfl, hh, hb⟩
          rw [HB0.out] at hh
          obtain ⟨va3, vc3, rfl⟩ := one_form hh
          have HB4 := Lib.hid (HB3.out.trans (hb.mono HB3.out.size))
          clear hh hb HQ3 HB3 CBk
          have ha1 : Below w7.heap.size w7 (w7.alloc (.cells #[.int .i64 1, .int .i64 3, .int .i64 5] 3)) := (Below.refl _ _).alloc (Nat.le_refl _) _
          have hs1 : (w7.alloc (.cells #[.int .i64 1, .int .i64 3, .int .i64 5] 3)).heap.size = w7.heap.size + 1 := by simp
          have o1 : (w7.alloc (.cells #[.int .i64 1, .int .i64 3, .int .i64 5] 3)).ownsRow w7.heap.size 3 1 (.slice (some ⟨w7.heap.size, 0, none⟩) 3 3) 3 (iv [1, 3, 5]) := own_lit w7 [1, 3, 5] 3 rfl (by decide)
          have HB5 := Lib.hid (HB4.out.trans (ha1.mono HB4.out.size))
          have ha2 : Below (w7.alloc (.cells #[.int .i64 1, .int .i64 3, .int .i64 5] 3)).heap.size (w7.alloc (.cells #[.int .i64 1, .int .i64 3, .int .i64 5] 3)) ((w7.alloc (.cells #[.int .i64 1, .int .i64 3, .int .i64 5] 3)).alloc (.cells #[.int .i64 3, .int .i64 4, .int .i64 5] 3)) := (Below.refl _ _).alloc (Nat.le_refl _) _
          have o2 : ((w7.alloc (.cells #[.int .i64 1, .int .i64 3, .int .i64 5] 3)).alloc (.cells #[.int .i64 3, .int .i64 4, .int .i64 5] 3)).ownsRow (w7.alloc (.cells #[.int .i64 1, .int .i64 3, .int .i64 5] 3)).heap.size 3 1 (.slice (some ⟨(w7.alloc (.cells #[.int .i64 1, .int .i64 3, .int .i64 5] 3)).heap.size, 0, none⟩) 3 3) 3 (iv [3, 4, 5]) := own_lit _ [3, 4, 5] 3 rfl (by decide)
          have HB6 := Lib.hid (HB5.out.trans (ha2.mono HB5.out.size))
          have I1 := Lib.hid (ints_own (own_below o1 ha2) rfl)
          rw [hs1] at o2
          have I2 := Lib.hid (ints_own o2 rfl)
          clear ha1 ha2 o1 o2 hs1 HB5
          go_wp2_with fail
          generalize (w7.alloc (.cells #[.int .i64 1, .int .i64 3, .int .i64 5] 3)).alloc (.cells #[.int .i64 3, .int .i64 4, .int .i64 5] 3) = w8 at *
          refine (implCommon w8 (by decide) (by decide) I1.out I2.out rfl rfl).mono ?_
          rw [comm_some]
          rintro e w9 ⟨v, rfl, hh, hb⟩
          have HR := Lib.hid hh
          have HB7 := Lib.hid (HB6.out.trans (hb.mono HB6.out.size))
          clear hh hb HB6 I1 I2
          have ha3 : Below w9.heap.size w9 (w9.alloc (.cells #[.int .i64 3, .int .i64 5] 3)) := (Below.refl _ _).alloc (Nat.le_refl _) _
          have HR2 := Lib.hid (own_below HR.out ha3)
          have HO3 : Hid ((w9.alloc (.cells #[.int .i64 3, .int .i64 5] 3)).ownsRow w9.heap.size 3 1 (.slice (some ⟨w9.heap.size, 0, none⟩) 2 2) 2 (iv [3, 5])) := own_lit w9 [3, 5] 2 rfl (by decide)
          have HB8 := Lib.hid (HB7.out.trans (ha3.mono HB7.out.size))
          obtain ⟨va4, vc4, rfl⟩ := int_form HR.out
          clear ha3 HR HB7
          go_wp2_with fail
          generalize w9.alloc (.cells #[.int .i64 3, .int .i64 5] 3) = w10 at *
          refine (sameI _ _ [3, 5] w10 rfl (by decide) HR2.out HO3.out).mono ?_
          rintro e w11 ⟨rfl, qq, rfl⟩
          have HB9 := Lib.hid (HB8.out.trans ((drewN_belowI w10 qq).mono HB8.out.size))
          clear HB8 HR2 HO3
          go_wp2_with fail
          go_ret
          exact ⟨rfl, HB9.out⟩
set_option maxRecDepth 100000 in
theorem walk_far {a0 : Option Addr} {len cap : Nat} (w : World) (h : 1048576 < len) :
    Calls Try.prog 3 #[.slice a0 len cap] w fun e w' => e = .returned (.bool true) ∧ Below w.heap.size w w' := by
  go_enter Try.func3, Try.ntmps3
  go_wp2_with fail
  refine (big_yes _ h).mono ?_
  rintro e w' ⟨rfl, rfl⟩
  go_wp2_with fail
  go_ret
  exact ⟨rfl, Below.refl _ _⟩
theorem walk (a0 : Option Addr) (len0 cap0 : Nat) (z0 : List Int) (w : World) (w0 : IsRow .u8 w a0 len0 cap0 z0) :
    Calls Try.prog 3 #[.slice a0 len0 cap0] w fun e w' => e = .returned (.bool true) ∧ Below w.heap.size w w' := by
  by_cases h2 : len0 ≤ 1048576
  · exact walk_in w (code_of w0 h2)
  · exact walk_far w (by omega)
set_option maxRecDepth 100000 in
theorem lifted (os : Os) (started : os.Started) (H : Type) (enc : TypeId × Value → H) :
    ReturnsInHanded {} Try.checked os 3 .any (Rows.fnMeetingsSpec.pre6 enc Try.prog Try.f3 Rows.fnMeetingsRow.domain false) (Rows.fnMeetingsSpec.post enc Try.prog Try.f3 false true false false) := by
  refine returnsInHanded_of_change (C := Try.checked) own started (by kernel_rfl) Try.func3
    (ChangeSpec.witness6 (enc := enc) (C := Try.checked) false ⟨#[], #[.slice none 0 0], []⟩ 8 (by kernel_rfl) (by kernel_rfl) (by kernel_rfl) (by kernel_rfl)) ?_
  intro W base args ds gs before hval0 hW hcnd _
  have hval : ∀ (j : Nat) t v, Try.f3.params[j]? = some t → args[j]? = some v → Value.okWide Try.prog W .any base t v := hval0
  have hW' := hW
  obtain ⟨p, q, hA0, hV, rfl, hfz, hnd⟩ := hW
  have hA : DataW.TrodAll enc Try.prog W 0 (fun _ => true) true Try.f3.params.toList args.toList ds p := hA0
  rw [Try.params3] at hA hval
  obtain ⟨v0, vs0, d0, ds0, p0, q0, hargs, rfl, rfl, h0, r0⟩ := trodAll_cons hA
  obtain ⟨rfl, rfl, rfl⟩ := trodAll_nil r0
  obtain rfl : args = #[v0] := by cases args; simp_all
  obtain ⟨rfl, rfl⟩ := trodVars_none hV
  obtain ⟨a0, len0, cap0, rfl⟩ := okWide_slice Try.underlying22 (hval 0 22 v0 rfl rfl)
  have k0 := h0
  have lt0 : ∀ x ∈ p0, x.block < W.heap.size := by obtain ⟨m, hm⟩ := k0; exact DataW.trod_lt m _ _ _ hm
  obtain ⟨z0, w0⟩ : ∃ zs, IsRow .u8 W a0 len0 cap0 zs := by
    obtain ⟨fuel, hf⟩ := h0
    rcases open_ints Try.underlying22 Try.underlying5 (by kernel_rfl) hf with ⟨hcs, _⟩ | ⟨x, l, c, zs, hcs, _, hl, hm, hz, _, hcell, hwz⟩
    · simp [Value.cells] at hcs
      obtain ⟨rfl, rfl, rfl⟩ := hcs
      exact ⟨[], .inl ⟨rfl, rfl, rfl, rfl⟩⟩
    · simp [Value.cells] at hcs
      obtain ⟨rfl, rfl, rfl⟩ := hcs
      exact ⟨zs, .inr ⟨_, rfl, hl, hm, by simpa using hz, hcell, hwz⟩⟩
  clear hA0 hval0
  refine (walk a0 len0 cap0 z0 W w0).mono fun e W' ⟨he, bel⟩ => ?_
  subst he
  exact ⟨_, rfl, _, _, _, [], _, [], hW', trodAll_mk1 (shut_bool Try.underlying4 _), (trodAll_cons_mk (Below.trod laidOut (by kernel_rfl) (of_decide_eq_true (by kernel_rfl)) k0 bel lt0) trodAll_mk0), rfl, bel.frame _, fun h => by cases h⟩

theorem over : Rows.fnMeetingsRow.holds Try.pinned (OpenSpec.ofChange Rows.fnMeetingsSpec) :=
  OpenClaim.holds_of_wide 3 Try.f3 rfl rfl rfl rfl rfl rfl rfl ⟨rfl, rfl, rfl, rfl, rfl⟩ rfl rfl rfl rfl rfl (by kernel_rfl) Try.func3 (by kernel_rfl)
    (of_decide_eq_true (by kernel_rfl)) (by unfold Func.isWrapper; first | (rw [if_pos (by decide +kernel)]; kernel_rfl) | (rw [if_neg (by decide +kernel)]; exact ⟨rfl, rfl⟩))
    (fun os started H enc _ => lifted os started H enc)

theorem proved : Rows.FnMeetingsSaid := over
end Go.Proofs.Ytgkmapemnlgldaa.fnMeetings
