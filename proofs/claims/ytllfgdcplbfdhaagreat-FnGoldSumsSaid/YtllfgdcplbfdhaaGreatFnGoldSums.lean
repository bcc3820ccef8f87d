/- The law FnGoldSums returns true for every code: of a drawn small board, position and goal: no line's golden loss is below 0; if the goal is reached its golden sum is not above the position's, and if it has a peg at the target there is hope; a place's weight at itself is 1, the steps are the same both ways, a place's weight is the power of the steps, a single peg's sum at its own place is 1; whether the goal is reached is what the model says. No condition. -/
import Derived.Test.YtllfgdcplbfdhaaGreatRows
import Derived.WalkKit
import Derived.WalkSpells
import Derived.ProofKit
import Derived.OpenShut
import Derived.ShutString
import Derived.ChangeOld
import Derived.Below
import Derived.Lib.Hide
import Derived.Lib.SmallJoins
import Derived.ChangeArms
import Derived.Test.YtllfgdcplbfdhaaGreatDrawReach
import Derived.Test.YtllfgdcplbfdhaaGreatReachC
import Derived.Test.YtllfgdcplbfdhaaGreatReachI
import Derived.Test.YtllfgdcplbfdhaaGreatSumAlong
import Derived.Test.YtllfgdcplbfdhaaGreatStepsD
import Derived.Test.YtllfgdcplbfdhaaGreatGolds
import Derived.Test.YtllfgdcplbfdhaaGreatLinesAll
import Derived.Deep.DeepCutAuto
namespace Go.Proofs.YtllfgdcplbfdhaaGreat.fnGoldSums
open Go.ChangeShapes Go.WideShapes Go.ChangeAt Go.RowKit
open Go.ChangeMaps (open_string shut_string)
set_option linter.unusedVariables false
set_option linter.unusedSimpArgs false
theorem own : ownKnob Tryz.prog.godebug = none := by kernel_rfl
theorem laidOut : laidOutB Tryz.prog = true := by kernel_rfl
/-- What the walk is told of a slice of integers that came in. -/
def IsRow (k : IntKind) (w : World) (a : Option Addr) (len cap : Nat) (zs : List Int) : Prop :=
  (a = none ∧ len = 0 ∧ cap = 0 ∧ zs = []) ∨
  ∃ x, a = some x ∧ len ≤ cap ∧ cap ≤ maxLen ∧ zs.length = cap ∧ (∀ i, i < zs.length → w.cell? (x.add i) = some (.int k (zs.getD i 0))) ∧ ∀ n ∈ zs, (Lit.int k n).wf = true
theorem byteAt0 {a : Option Addr} {len cap : Nat} (w : World) (hcode : CodeAt w a len) : Calls Tryz.prog 14 #[.slice a len cap, .int .i64 0] w (AtPost w) := byteAt 0 (by omega) w hcode
/-- The board's block, the list of holes, the list of lines. -/
structure GSt (w0 : World) (q W H z : Nat) (B1 B2 : Nat) (g n vc : Nat) (l : List Nat) (ga : Option Addr) (m gc : Nat) (ls : List Ln) (w : World) : Prop where
  board : w.heap[q]? = some (.cells #[.int .i64 W, .int .i64 H, .int .i64 z] 25 (0, 0))
  l : w.ownsRow B1 3 1 (.slice (some ⟨g, 0, none⟩) n vc) n (Ints l)
  ls : w.ownsRow B2 46 3 (.slice ga m gc) m (lv ls)
  below : Below w0.heap.size w0 w
theorem GSt.later {w0 w w' : World} {q W H z B1 B2 n vc m gc g : Nat} {ga : Option Addr} {l : List Nat} {ls : List Ln} (h : GSt w0 q W H z B1 B2 g n vc l ga m gc ls w) (hb : Below w.heap.size w w') : GSt w0 q W H z B1 B2 g n vc l ga m gc ls w' :=
  ⟨closed_row _ _ _ _ h.board hb, own_below h.l hb, own_below h.ls hb, h.below.trans (hb.mono h.below.size)⟩
set_option maxHeartbeats 8000000 in
set_option maxRecDepth 100000 in
theorem walk_in {a0 : Option Addr} {len cap : Nat} (w : World) (hcode : CodeAt w a0 len) :
    Calls Tryz.prog 4 #[.slice a0 len cap] w fun e w' => e = .returned (.bool true) ∧ Below w.heap.size w w' := by
  have HCO := Lib.hid hcode
  clear hcode
  go_enter Tryz.func4, Tryz.ntmps4
  go_wp2_with fail
  refine (big_no _ HCO.out.1).mono ?_
  rintro e w' ⟨rfl, rfl⟩
  go_wp2_with fail
  refine (drawAim w HCO.out).mono ?_
  rintro e w1 ⟨W, H, N, z, p, t, ho, hN, h10, hp, ht, rfl, hb1⟩
  unfold bd
  obtain ⟨a, rfl⟩ := Int.eq_ofNat_of_zero_le (show 0 ≤ W by have := ho.w1; omega)
  obtain ⟨b, rfl⟩ := Int.eq_ofNat_of_zero_le (show 0 ≤ H by have := ho.h1; omega)
  have HSm : Hid (Small5 (a : Int) (b : Int) (z : Int) (p : Int) a b N z p) := ⟨rfl, rfl, rfl, rfl, ho, hN, hp⟩
  have hp63 : (p : Int) ≤ 9223372036854775807 := by have := hp.le; have := ho.zbig; omega
  have ht63 : (t : Int) ≤ 9223372036854775807 := by have := ht.le; have := ho.zbig; omega
  have hn0 := bits_ne ho
  have hnle := bitsOf_le N z
  have hn49 := ho.n49
  have CH := Lib.hid (fun w => specHoles ho w)
  have CL := Lib.hid (fun w => specLinesA (a : Int) b z w)
  have HMEM : Hid (∀ j ∈ bitsOf N z, j < N ∧ bit z j = true) := fun j hj => mem_bitsOf.1 hj
  obtain ⟨l, hl⟩ : ∃ l, bitsOf N z = l := ⟨_, rfl⟩
  rw [hl] at CH hn0 hnle HMEM
  obtain ⟨n, hn⟩ : ∃ n, l.length = n := ⟨_, rfl⟩
  rw [hn] at hn0 hnle
  have HLM : Hid (∀ x ∈ lnsOf (a : Int) b z, ∀ k : Nat, holeB (a : Int) b z k = true → 0 ≤ signG (glossB (a : Int) b z k x).1 (glossB (a : Int) b z k x).2) := fun x hx k hk => gloss_nn hx hk
  have hmle : (lnsOf (a : Int) b z).length ≤ 1048576 := Nat.le_trans (lnsOf_le _ _ _) (by decide)
  obtain ⟨ls, hls⟩ : ∃ ls, lnsOf (a : Int) b z = ls := ⟨_, rfl⟩
  rw [hls] at CL HLM hmle
  obtain ⟨m, hm⟩ : ∃ m, ls.length = m := ⟨_, rfl⟩
  rw [hm] at hmle
  have HN := Lib.hid hn
  have HM := Lib.hid hm
  have HOk := Lib.hid ho
  have HP := Lib.hid hp
  have HT := Lib.hid ht
  have HP63 := Lib.hid hp63
  have HT63 := Lib.hid ht63
  have HB1 := Lib.hid hb1
  clear hb1 hl hn hm hls ho hp ht hp63 ht63 h10
  have HQ2 : Hid ((w1.alloc (.cells #[.int .i64 (a : Int), .int .i64 (b : Int), .int .i64 (z : Int)] 25)).heap[w1.heap.size]? = some (.cells #[.int .i64 (a : Int), .int .i64 (b : Int), .int .i64 (z : Int)] 25 (0, 0))) := heap_alloc_new w1 _
  have HB2 : Hid (Below w.heap.size w (w1.alloc (.cells #[.int .i64 (a : Int), .int .i64 (b : Int), .int .i64 (z : Int)] 25))) := HB1.out.alloc HB1.out.size _
  obtain ⟨c0, c1, c2, -, -, -⟩ := row_facts HQ2.out
  go_wp2_with fail
  clear c0 c1 c2
  generalize w1.alloc (.cells #[.int .i64 (a : Int), .int .i64 (b : Int), .int .i64 (z : Int)] 25) = w2 at *
  generalize w1.heap.size = q at *
  refine (CH.out _).mono ?_
  rintro e w3 ⟨v, rfl, hh, hb⟩
  rw [HN.out] at hh
  obtain ⟨g, vc, rfl⟩ := Go.Joins.ownsRow_form hh hn0
  have HL3 := Lib.hid hh
  have HQ3 := Lib.hid (closed_row _ _ _ _ HQ2.out hb)
  have HB3 := Lib.hid (HB2.out.trans (hb.mono HB2.out.size))
  have HCO3 := Lib.hid (HCO.out.below HB3.out)
  clear hh hb HQ2 HB2 CH
  go_wp2_with fail
  refine (byteAt0 _ HCO3.out).mono ?_
  rintro e w' ⟨x, hx, rfl, rfl⟩
  have n0 : (0 : Int) < (n : Int) := by omega
  have hm0 : 0 ≤ (x : Int) % (n : Int) := Int.emod_nonneg _ (by omega)
  have hm1 : (x : Int) % (n : Int) < (n : Int) := Int.emod_lt_of_pos _ (by omega)
  obtain ⟨i, hi⟩ := Int.eq_ofNat_of_zero_le hm0
  rw [hi] at hm0 hm1
  obtain ⟨k, hk, hkN, hbit⟩ : ∃ j, l[i]? = some j ∧ j < N ∧ bit z j = true := by
    have hlt : i < l.length := by rw [HN.out]; omega
    exact ⟨_, List.getElem?_eq_getElem hlt, HMEM.out _ (List.getElem_mem hlt)⟩
  obtain ⟨o, ho0, hoN, hobit⟩ : ∃ j, l[0]? = some j ∧ j < N ∧ bit z j = true := by
    have hlt : 0 < l.length := by rw [HN.out]; omega
    exact ⟨_, List.getElem?_eq_getElem hlt, HMEM.out _ (List.getElem_mem hlt)⟩
  have hcell : w3.cell? ⟨g, i, none⟩ = some (.int .i64 k) := own_cell HL3.out i (by omega) _ (by simp [Ints, hk])
  have HO0 := Lib.hid ho0
  have HNx : Hid (0 < n) := hn0
  obtain ⟨c0, c1, c2, -, -, -⟩ := row_facts HQ3.out
  clear hk ho0
  go_wp2_with fail
  clear c0 c1 c2 hcell hi hm0 hm1 n0 hx
  refine (CL.out _).mono ?_
  rintro e w4 ⟨v, rfl, hh, hb⟩
  rw [HM.out] at hh
  obtain ⟨ga, gc, rfl⟩ := lines_form hh
  have HS4 : Hid (GSt w q a b z w2.heap.size w3.heap.size g n vc l ga m gc ls w4) := ⟨closed_row _ _ _ _ HQ3.out hb, own_below HL3.out hb, hh, HB3.out.trans (hb.mono HB3.out.size)⟩
  clear hh hb HQ3 HB3 HL3 HCO3 CL
  generalize w2.heap.size = B1 at *
  generalize w3.heap.size = B2 at *
  have HHk : Hid (holeB (a : Int) b z k = true) := by unfold Hid; rw [holeB_in HOk.out hkN]; exact hbit
  go_wp2_with fail
  go_loopw [9] (fun i wr => ∃ j : Nat, j ≤ m ∧ i = .int .i64 j ∧ Hid (GSt w q a b z B1 B2 g n vc l ga m gc ls wr)) (fun i _ => m - (intOf i).toNat)
  case atStart => exact ⟨0, Nat.zero_le _, rfl, HS4⟩
  case round =>
    clear HS4
    obtain ⟨j, hj, rfl, HS⟩ := hrel
    by_cases hjm : j < m
    · have j0 : (0 : Int) ≤ (j : Int) := by omega
      have j1 : (j : Int) < (m : Int) := by omega
      obtain ⟨⟨f, u, v⟩, hr⟩ : ∃ r, ls[j]? = some r := ⟨_, List.getElem?_eq_getElem (by rw [HM.out]; exact hjm)⟩
      have hnn := HLM.out _ (List.mem_of_getElem? hr) k HHk.out
      obtain ⟨gb, rfl⟩ := lines_at' HS.out.ls (by omega)
      have HCl : Hid (∀ w', GSt w q a b z B1 B2 g n vc l (some ⟨gb, 0, none⟩) m gc ls w' → w'.cell? ⟨gb, j * 3, none⟩ = some (.int .i64 f) ∧ w'.cell? ⟨gb, j * 3 + 1, none⟩ = some (.int .i64 u) ∧ w'.cell? ⟨gb, j * 3 + 2, none⟩ = some (.int .i64 v)) := fun w' h => line_cells h.ls HM.out hr
      have CG := Lib.hid (fun w => implGoldLoss (a : Int) b z k f u v w)
      obtain ⟨⟨r1, r2⟩, hg⟩ : ∃ r, glossB (a : Int) b z k (f, u, v) = r := ⟨_, rfl⟩
      rw [hg] at CG hnn
      simp only at hnn
      have CS := Lib.hid (fun w => implSignOf r1 r2 w)
      obtain ⟨s, hs⟩ : ∃ s, signG r1 r2 = s := ⟨_, rfl⟩
      rw [hs] at CS hnn
      have hsn : ¬ s < 0 := by omega
      clear hr hg hs
      go_wp2_with fail
      refine wp_region_script (by kernel_rfl) (by kernel_rfl) ?_
      refine Script.load (i := 0) (v := ?_) rfl (by kernel_rfl) (by kernel_rfl) (fun _ _ _ h => h) (by kernel_rfl) ?_ ?_
      rotate_left
      · (intro wS hSw; have hRS := HS.out.later (After.trans (After.drew (After.refl _)) hSw); obtain ⟨c0, c1, c2, -, -, -⟩ := row_facts hRS.board; obtain ⟨l0, l1, l2⟩ := HCl.out wS hRS; go_simp; try with_reducible rfl)
      try simp only [Act.put, List.getElem_toArray, List.getElem_cons_succ, List.getElem_cons_zero, List.setIfInBounds_toArray, List.set_cons_zero, List.set_cons_succ]
      refine Script.load (i := 1) (v := ?_) rfl (by kernel_rfl) (by kernel_rfl) (fun _ _ _ h => h) (by kernel_rfl) ?_ ?_
      rotate_left
      · (intro wS hSw; have hRS := HS.out.later (After.trans (After.drew (After.refl _)) hSw); obtain ⟨c0, c1, c2, -, -, -⟩ := row_facts hRS.board; obtain ⟨l0, l1, l2⟩ := HCl.out wS hRS; go_simp; try with_reducible rfl)
      try simp only [Act.put, List.getElem_toArray, List.getElem_cons_succ, List.getElem_cons_zero, List.setIfInBounds_toArray, List.set_cons_zero, List.set_cons_succ]
      refine Script.load (i := 2) (v := ?_) rfl (by kernel_rfl) (by kernel_rfl) (fun _ _ _ h => h) (by kernel_rfl) ?_ ?_
      rotate_left
      · (intro wS hSw; have hRS := HS.out.later (After.trans (After.drew (After.refl _)) hSw); obtain ⟨c0, c1, c2, -, -, -⟩ := row_facts hRS.board; obtain ⟨l0, l1, l2⟩ := HCl.out wS hRS; go_simp; try with_reducible rfl)
      try simp only [Act.put, List.getElem_toArray, List.getElem_cons_succ, List.getElem_cons_zero, List.setIfInBounds_toArray, List.set_cons_zero, List.set_cons_succ]
      refine Script.load (i := 3) (v := ?_) rfl (by kernel_rfl) (by kernel_rfl) (fun _ _ _ h => h) (by kernel_rfl) ?_ ?_
      rotate_left
      · (intro wS hSw; have hRS := HS.out.later (After.trans (After.drew (After.refl _)) hSw); obtain ⟨c0, c1, c2, -, -, -⟩ := row_facts hRS.board; obtain ⟨l0, l1, l2⟩ := HCl.out wS hRS; go_simp; try with_reducible rfl)
      try simp only [Act.put, List.getElem_toArray, List.getElem_cons_succ, List.getElem_cons_zero, List.setIfInBounds_toArray, List.set_cons_zero, List.set_cons_succ]
      refine Script.load (i := 4) (v := ?_) rfl (by kernel_rfl) (by kernel_rfl) (fun _ _ _ h => h) (by kernel_rfl) ?_ ?_
      rotate_left
      · (intro wS hSw; have hRS := HS.out.later (After.trans (After.drew (After.refl _)) hSw); obtain ⟨c0, c1, c2, -, -, -⟩ := row_facts hRS.board; obtain ⟨l0, l1, l2⟩ := HCl.out wS hRS; go_simp; try with_reducible rfl)
      try simp only [Act.put, List.getElem_toArray, List.getElem_cons_succ, List.getElem_cons_zero, List.setIfInBounds_toArray, List.set_cons_zero, List.set_cons_succ]
      refine Script.load (i := 5) (v := ?_) rfl (by kernel_rfl) (by kernel_rfl) (fun _ _ _ h => h) (by kernel_rfl) ?_ ?_
      rotate_left
      · (intro wS hSw; have hRS := HS.out.later (After.trans (After.drew (After.refl _)) hSw); obtain ⟨c0, c1, c2, -, -, -⟩ := row_facts hRS.board; obtain ⟨l0, l1, l2⟩ := HCl.out wS hRS; go_simp; try with_reducible rfl)
      try simp only [Act.put, List.getElem_toArray, List.getElem_cons_succ, List.getElem_cons_zero, List.setIfInBounds_toArray, List.set_cons_zero, List.set_cons_succ]
      refine Script.call (i := 6) (v := ?_) rfl (by kernel_rfl) (by kernel_rfl) (fun _ _ _ h => h) (by kernel_rfl) ?_ ?_
      rotate_left
      · (intro wS hSw K hK; have hRS := HS.out.later (After.trans (After.drew (After.refl _)) hSw); obtain ⟨c0, c1, c2, -, -, -⟩ := row_facts hRS.board; obtain ⟨l0, l1, l2⟩ := HCl.out wS hRS; go_simp; go_at_call 23; refine (CG.out _).mono ?_; rintro e wc' ⟨rfl, hbc⟩; exact hK.out _ hbc)
      try simp only [Act.put, List.getElem_toArray, List.getElem_cons_succ, List.getElem_cons_zero, List.setIfInBounds_toArray, List.set_cons_zero, List.set_cons_succ]
      refine Script.call (i := 7) (v := ?_) rfl (by kernel_rfl) (by kernel_rfl) (fun _ _ _ h => h) (by kernel_rfl) ?_ ?_
      rotate_left
      · (intro wS hSw K hK; have hRS := HS.out.later (After.trans (After.drew (After.refl _)) hSw); obtain ⟨c0, c1, c2, -, -, -⟩ := row_facts hRS.board; obtain ⟨l0, l1, l2⟩ := HCl.out wS hRS; go_simp; go_at_call 22; refine (CS.out _).mono ?_; rintro e wc' ⟨rfl, hbc⟩; exact hK.out _ hbc)
      try simp only [Act.put, List.getElem_toArray, List.getElem_cons_succ, List.getElem_cons_zero, List.setIfInBounds_toArray, List.set_cons_zero, List.set_cons_succ]
      refine Script.load (i := 8) (v := ?_) rfl (by kernel_rfl) (by kernel_rfl) (fun _ _ _ h => h) (by kernel_rfl) ?_ ?_
      rotate_left
      · (intro wS hSw; have hRS := HS.out.later (After.trans (After.drew (After.refl _)) hSw); obtain ⟨c0, c1, c2, -, -, -⟩ := row_facts hRS.board; obtain ⟨l0, l1, l2⟩ := HCl.out wS hRS; go_simp; try with_reducible rfl)
      try simp only [Act.put, List.getElem_toArray, List.getElem_cons_succ, List.getElem_cons_zero, List.setIfInBounds_toArray, List.set_cons_zero, List.set_cons_succ]
      refine Script.done (by kernel_rfl) ?_
      intro wD hD hG
      have HS2 := Lib.hid (HS.out.later (After.trans (After.drew (After.refl _)) hD))
      clear hD hG HS
      go_wp2_with fail
      go_roundw
      case rel => exact ⟨j + 1, by omega, by go_num, HS2⟩
      case measure => simp [intOf]; omega
    · obtain rfl : j = m := by omega
      have CR := Lib.hid (fun w => implCanRch (a : Int) b z p t HP63.out HT63.out w)
      have CR2 := Lib.hid (fun w => specCanRch (a : Int) b z p t HP63.out HT63.out w)
      obtain ⟨can, hcan⟩ : ∃ can, reachB false (a : Int) b z p t = can := ⟨_, rfl⟩
      rw [hcan] at CR CR2
      have HCan : Hid (can = true → t ∈ reachL false (a : Int) b z p) := fun h => reach_mem.2 (by rw [hcan, h])
      clear hcan
      obtain ⟨c0, c1, c2, -, -, -⟩ := row_facts HS.out.board
      go_wp2_with fail
      clear c0 c1 c2
      refine (CR.out _).mono ?_
      rintro e w5 ⟨rfl, hb⟩
      have HS5 := Lib.hid (HS.out.later hb)
      clear hb HS
      go_upto_region 13 with fail
      go_cut [79] (fun cc wx => cc = .bool false ∧ Hid (GSt w q a b z B1 B2 g n vc l ga j gc ls wx))
      case first =>
        cases can
        · go_wp2_with fail
          refine wp_region_script (by kernel_rfl) (by kernel_rfl) ?_
          refine Script.load (i := 0) (v := ?_) rfl (by kernel_rfl) (by kernel_rfl) (fun _ _ _ h => h) (by kernel_rfl) ?_ ?_
          rotate_left
          · (intro wS hSw; have hRS := HS5.out.later (After.trans (After.drew (After.refl _)) hSw); obtain ⟨c0, c1, c2, -, -, -⟩ := row_facts hRS.board; go_simp; try with_reducible rfl)
          try simp only [Act.put, List.getElem_toArray, List.getElem_cons_succ, List.getElem_cons_zero, List.setIfInBounds_toArray, List.set_cons_zero, List.set_cons_succ]
          refine Script.load (i := 1) (v := ?_) rfl (by kernel_rfl) (by kernel_rfl) (fun _ _ _ h => h) (by kernel_rfl) ?_ ?_
          rotate_left
          · (intro wS hSw; have hRS := HS5.out.later (After.trans (After.drew (After.refl _)) hSw); obtain ⟨c0, c1, c2, -, -, -⟩ := row_facts hRS.board; go_simp; try with_reducible rfl)
          try simp only [Act.put, List.getElem_toArray, List.getElem_cons_succ, List.getElem_cons_zero, List.setIfInBounds_toArray, List.set_cons_zero, List.set_cons_succ]
          refine Script.skip (i := 2) rfl (by kernel_rfl) (by kernel_rfl) (fun _ _ _ h => h) (by kernel_rfl) ?_
          try simp only [Act.put, List.getElem_toArray, List.getElem_cons_succ, List.getElem_cons_zero, List.setIfInBounds_toArray, List.set_cons_zero, List.set_cons_succ]
          refine Script.skip (i := 3) rfl (by kernel_rfl) (by kernel_rfl) (fun _ _ _ h => h) (by kernel_rfl) ?_
          try simp only [Act.put, List.getElem_toArray, List.getElem_cons_succ, List.getElem_cons_zero, List.setIfInBounds_toArray, List.set_cons_zero, List.set_cons_succ]
          refine Script.skip (i := 4) rfl (by kernel_rfl) (by kernel_rfl) (fun _ _ _ h => h) (by kernel_rfl) ?_
          try simp only [Act.put, List.getElem_toArray, List.getElem_cons_succ, List.getElem_cons_zero, List.setIfInBounds_toArray, List.set_cons_zero, List.set_cons_succ]
          refine Script.skip (i := 5) rfl (by kernel_rfl) (by kernel_rfl) (fun _ _ _ h => h) (by kernel_rfl) ?_
          try simp only [Act.put, List.getElem_toArray, List.getElem_cons_succ, List.getElem_cons_zero, List.setIfInBounds_toArray, List.set_cons_zero, List.set_cons_succ]
          refine Script.skip (i := 6) rfl (by kernel_rfl) (by kernel_rfl) (fun _ _ _ h => h) (by kernel_rfl) ?_
          try simp only [Act.put, List.getElem_toArray, List.getElem_cons_succ, List.getElem_cons_zero, List.setIfInBounds_toArray, List.set_cons_zero, List.set_cons_succ]
          refine Script.skip (i := 7) rfl (by kernel_rfl) (by kernel_rfl) (fun _ _ _ h => h) (by kernel_rfl) ?_
          try simp only [Act.put, List.getElem_toArray, List.getElem_cons_succ, List.getElem_cons_zero, List.setIfInBounds_toArray, List.set_cons_zero, List.set_cons_succ]
          refine Script.skip (i := 8) rfl (by kernel_rfl) (by kernel_rfl) (fun _ _ _ h => h) (by kernel_rfl) ?_
          try simp only [Act.put, List.getElem_toArray, List.getElem_cons_succ, List.getElem_cons_zero, List.setIfInBounds_toArray, List.set_cons_zero, List.set_cons_succ]
          refine Script.skip (i := 9) rfl (by kernel_rfl) (by kernel_rfl) (fun _ _ _ h => h) (by kernel_rfl) ?_
          try simp only [Act.put, List.getElem_toArray, List.getElem_cons_succ, List.getElem_cons_zero, List.setIfInBounds_toArray, List.set_cons_zero, List.set_cons_succ]
          refine Script.skip (i := 10) rfl (by kernel_rfl) (by kernel_rfl) (fun _ _ _ h => h) (by kernel_rfl) ?_
          try simp only [Act.put, List.getElem_toArray, List.getElem_cons_succ, List.getElem_cons_zero, List.setIfInBounds_toArray, List.set_cons_zero, List.set_cons_succ]
          refine Script.skip (i := 11) rfl (by kernel_rfl) (by kernel_rfl) (fun _ _ _ h => h) (by kernel_rfl) ?_
          try simp only [Act.put, List.getElem_toArray, List.getElem_cons_succ, List.getElem_cons_zero, List.setIfInBounds_toArray, List.set_cons_zero, List.set_cons_succ]
          refine Script.load (i := 12) (v := ?_) rfl (by kernel_rfl) (by kernel_rfl) (fun _ _ _ h => h) (by kernel_rfl) ?_ ?_
          rotate_left
          · (intro wS hSw; have hRS := HS5.out.later (After.trans (After.drew (After.refl _)) hSw); obtain ⟨c0, c1, c2, -, -, -⟩ := row_facts hRS.board; go_simp; try with_reducible rfl)
          try simp only [Act.put, List.getElem_toArray, List.getElem_cons_succ, List.getElem_cons_zero, List.setIfInBounds_toArray, List.set_cons_zero, List.set_cons_succ]
          refine Script.load (i := 13) (v := ?_) rfl (by kernel_rfl) (by kernel_rfl) (fun _ _ _ h => h) (by kernel_rfl) ?_ ?_
          rotate_left
          · (intro wS hSw; have hRS := HS5.out.later (After.trans (After.drew (After.refl _)) hSw); obtain ⟨c0, c1, c2, -, -, -⟩ := row_facts hRS.board; go_simp; try with_reducible rfl)
          try simp only [Act.put, List.getElem_toArray, List.getElem_cons_succ, List.getElem_cons_zero, List.setIfInBounds_toArray, List.set_cons_zero, List.set_cons_succ]
          refine Script.load (i := 14) (v := ?_) rfl (by kernel_rfl) (by kernel_rfl) (fun _ _ _ h => h) (by kernel_rfl) ?_ ?_
          rotate_left
          · (intro wS hSw; have hRS := HS5.out.later (After.trans (After.drew (After.refl _)) hSw); obtain ⟨c0, c1, c2, -, -, -⟩ := row_facts hRS.board; go_simp; try with_reducible rfl)
          try simp only [Act.put, List.getElem_toArray, List.getElem_cons_succ, List.getElem_cons_zero, List.setIfInBounds_toArray, List.set_cons_zero, List.set_cons_succ]
          refine Script.load (i := 15) (v := ?_) rfl (by kernel_rfl) (by kernel_rfl) (fun _ _ _ h => h) (by kernel_rfl) ?_ ?_
          rotate_left
          · (intro wS hSw; have hRS := HS5.out.later (After.trans (After.drew (After.refl _)) hSw); obtain ⟨c0, c1, c2, -, -, -⟩ := row_facts hRS.board; go_simp; try with_reducible rfl)
          try simp only [Act.put, List.getElem_toArray, List.getElem_cons_succ, List.getElem_cons_zero, List.setIfInBounds_toArray, List.set_cons_zero, List.set_cons_succ]
          refine Script.skip (i := 16) rfl (by kernel_rfl) (by kernel_rfl) (fun _ _ _ h => h) (by kernel_rfl) ?_
          try simp only [Act.put, List.getElem_toArray, List.getElem_cons_succ, List.getElem_cons_zero, List.setIfInBounds_toArray, List.set_cons_zero, List.set_cons_succ]
          refine Script.skip (i := 17) rfl (by kernel_rfl) (by kernel_rfl) (fun _ _ _ h => h) (by kernel_rfl) ?_
          try simp only [Act.put, List.getElem_toArray, List.getElem_cons_succ, List.getElem_cons_zero, List.setIfInBounds_toArray, List.set_cons_zero, List.set_cons_succ]
          refine Script.skip (i := 18) rfl (by kernel_rfl) (by kernel_rfl) (fun _ _ _ h => h) (by kernel_rfl) ?_
          try simp only [Act.put, List.getElem_toArray, List.getElem_cons_succ, List.getElem_cons_zero, List.setIfInBounds_toArray, List.set_cons_zero, List.set_cons_succ]
          refine Script.skip (i := 19) rfl (by kernel_rfl) (by kernel_rfl) (fun _ _ _ h => h) (by kernel_rfl) ?_
          try simp only [Act.put, List.getElem_toArray, List.getElem_cons_succ, List.getElem_cons_zero, List.setIfInBounds_toArray, List.set_cons_zero, List.set_cons_succ]
          refine Script.load (i := 20) (v := ?_) rfl (by kernel_rfl) (by kernel_rfl) (fun _ _ _ h => h) (by kernel_rfl) ?_ ?_
          rotate_left
          · (intro wS hSw; have hRS := HS5.out.later (After.trans (After.drew (After.refl _)) hSw); obtain ⟨c0, c1, c2, -, -, -⟩ := row_facts hRS.board; go_simp; try with_reducible rfl)
          try simp only [Act.put, List.getElem_toArray, List.getElem_cons_succ, List.getElem_cons_zero, List.setIfInBounds_toArray, List.set_cons_zero, List.set_cons_succ]
          refine Script.load (i := 21) (v := ?_) rfl (by kernel_rfl) (by kernel_rfl) (fun _ _ _ h => h) (by kernel_rfl) ?_ ?_
          rotate_left
          · (intro wS hSw; have hRS := HS5.out.later (After.trans (After.drew (After.refl _)) hSw); obtain ⟨c0, c1, c2, -, -, -⟩ := row_facts hRS.board; go_simp; try with_reducible rfl)
          try simp only [Act.put, List.getElem_toArray, List.getElem_cons_succ, List.getElem_cons_zero, List.setIfInBounds_toArray, List.set_cons_zero, List.set_cons_succ]
          refine Script.skip (i := 22) rfl (by kernel_rfl) (by kernel_rfl) (fun _ _ _ h => h) (by kernel_rfl) ?_
          try simp only [Act.put, List.getElem_toArray, List.getElem_cons_succ, List.getElem_cons_zero, List.setIfInBounds_toArray, List.set_cons_zero, List.set_cons_succ]
          refine Script.skip (i := 23) rfl (by kernel_rfl) (by kernel_rfl) (fun _ _ _ h => h) (by kernel_rfl) ?_
          try simp only [Act.put, List.getElem_toArray, List.getElem_cons_succ, List.getElem_cons_zero, List.setIfInBounds_toArray, List.set_cons_zero, List.set_cons_succ]
          refine Script.skip (i := 24) rfl (by kernel_rfl) (by kernel_rfl) (fun _ _ _ h => h) (by kernel_rfl) ?_
          try simp only [Act.put, List.getElem_toArray, List.getElem_cons_succ, List.getElem_cons_zero, List.setIfInBounds_toArray, List.set_cons_zero, List.set_cons_succ]
          refine Script.skip (i := 25) rfl (by kernel_rfl) (by kernel_rfl) (fun _ _ _ h => h) (by kernel_rfl) ?_
          try simp only [Act.put, List.getElem_toArray, List.getElem_cons_succ, List.getElem_cons_zero, List.setIfInBounds_toArray, List.set_cons_zero, List.set_cons_succ]
          refine Script.skip (i := 26) rfl (by kernel_rfl) (by kernel_rfl) (fun _ _ _ h => h) (by kernel_rfl) ?_
          try simp only [Act.put, List.getElem_toArray, List.getElem_cons_succ, List.getElem_cons_zero, List.setIfInBounds_toArray, List.set_cons_zero, List.set_cons_succ]
          refine Script.load (i := 27) (v := ?_) rfl (by kernel_rfl) (by kernel_rfl) (fun _ _ _ h => h) (by kernel_rfl) ?_ ?_
          rotate_left
          · (intro wS hSw; have hRS := HS5.out.later (After.trans (After.drew (After.refl _)) hSw); obtain ⟨c0, c1, c2, -, -, -⟩ := row_facts hRS.board; go_simp; try with_reducible rfl)
          try simp only [Act.put, List.getElem_toArray, List.getElem_cons_succ, List.getElem_cons_zero, List.setIfInBounds_toArray, List.set_cons_zero, List.set_cons_succ]
          refine Script.load (i := 28) (v := ?_) rfl (by kernel_rfl) (by kernel_rfl) (fun _ _ _ h => h) (by kernel_rfl) ?_ ?_
          rotate_left
          · (intro wS hSw; have hRS := HS5.out.later (After.trans (After.drew (After.refl _)) hSw); obtain ⟨c0, c1, c2, -, -, -⟩ := row_facts hRS.board; go_simp; try with_reducible rfl)
          try simp only [Act.put, List.getElem_toArray, List.getElem_cons_succ, List.getElem_cons_zero, List.setIfInBounds_toArray, List.set_cons_zero, List.set_cons_succ]
          refine Script.done (by kernel_rfl) ?_
          intro wD hD hG
          have HS6 := Lib.hid (HS5.out.later (After.trans (After.drew (After.refl _)) hD))
          clear hD hG
          go_wp2_with fail
          go_meet
          exact ⟨rfl, HS6⟩
        · have hmem := HCan.out rfl
          have hle := HSm.out.gsum HHk.out hmem
          have hhope := fun h => HSm.out.hope HHk.out hmem h
          have CS1 := Lib.hid (fun w => implGoldSum (a : Int) b z k t HT63.out w)
          have CS2 := Lib.hid (fun w => implGoldSum (a : Int) b z k p HP63.out w)
          obtain ⟨⟨x1, x2⟩, hx⟩ : ∃ r, gsumB (a : Int) b z k t = r := ⟨_, rfl⟩
          obtain ⟨⟨y1, y2⟩, hy⟩ : ∃ r, gsumB (a : Int) b z k p = r := ⟨_, rfl⟩
          rw [hx] at CS1 hle
          rw [hy] at CS2 hle
          simp only at hle
          have CC := Lib.hid (fun w => implCompareGold x1 x2 y1 y2 w)
          obtain ⟨s, hs⟩ : ∃ s, cmpG x1 x2 y1 y2 = s := ⟨_, rfl⟩
          rw [hs] at CC hle
          have HSd : Hid (decide (0 < s) = false) := decide_eq_false (by omega)
          have CB := Lib.hid (fun w => specHas_in HOk.out HT.out hkN hbit w)
          have CHp := Lib.hid (fun w => implCanHope (a : Int) b z p k HP63.out w)
          clear hx hy hs hmem hle
          cases hb : bit t k
          · rw [hb] at CB
            clear hb hhope
            go_wp2_with fail
            refine wp_region_script (by kernel_rfl) (by kernel_rfl) ?_
            refine Script.load (i := 0) (v := ?_) rfl (by kernel_rfl) (by kernel_rfl) (fun _ _ _ h => h) (by kernel_rfl) ?_ ?_
            rotate_left
            · (intro wS hSw; have hRS := HS5.out.later (After.trans (After.drew (After.refl _)) hSw); obtain ⟨c0, c1, c2, -, -, -⟩ := row_facts hRS.board; have hsd := HSd.out; go_simp; try with_reducible rfl)
            try simp only [Act.put, List.getElem_toArray, List.getElem_cons_succ, List.getElem_cons_zero, List.setIfInBounds_toArray, List.set_cons_zero, List.set_cons_succ]
            refine Script.load (i := 1) (v := ?_) rfl (by kernel_rfl) (by kernel_rfl) (fun _ _ _ h => h) (by kernel_rfl) ?_ ?_
            rotate_left
            · (intro wS hSw; have hRS := HS5.out.later (After.trans (After.drew (After.refl _)) hSw); obtain ⟨c0, c1, c2, -, -, -⟩ := row_facts hRS.board; have hsd := HSd.out; go_simp; try with_reducible rfl)
            try simp only [Act.put, List.getElem_toArray, List.getElem_cons_succ, List.getElem_cons_zero, List.setIfInBounds_toArray, List.set_cons_zero, List.set_cons_succ]
            refine Script.load (i := 2) (v := ?_) rfl (by kernel_rfl) (by kernel_rfl) (fun _ _ _ h => h) (by kernel_rfl) ?_ ?_
            rotate_left
            · (intro wS hSw; have hRS := HS5.out.later (After.trans (After.drew (After.refl _)) hSw); obtain ⟨c0, c1, c2, -, -, -⟩ := row_facts hRS.board; have hsd := HSd.out; go_simp; try with_reducible rfl)
            try simp only [Act.put, List.getElem_toArray, List.getElem_cons_succ, List.getElem_cons_zero, List.setIfInBounds_toArray, List.set_cons_zero, List.set_cons_succ]
            refine Script.load (i := 3) (v := ?_) rfl (by kernel_rfl) (by kernel_rfl) (fun _ _ _ h => h) (by kernel_rfl) ?_ ?_
            rotate_left
            · (intro wS hSw; have hRS := HS5.out.later (After.trans (After.drew (After.refl _)) hSw); obtain ⟨c0, c1, c2, -, -, -⟩ := row_facts hRS.board; have hsd := HSd.out; go_simp; try with_reducible rfl)
            try simp only [Act.put, List.getElem_toArray, List.getElem_cons_succ, List.getElem_cons_zero, List.setIfInBounds_toArray, List.set_cons_zero, List.set_cons_succ]
            refine Script.load (i := 4) (v := ?_) rfl (by kernel_rfl) (by kernel_rfl) (fun _ _ _ h => h) (by kernel_rfl) ?_ ?_
            rotate_left
            · (intro wS hSw; have hRS := HS5.out.later (After.trans (After.drew (After.refl _)) hSw); obtain ⟨c0, c1, c2, -, -, -⟩ := row_facts hRS.board; have hsd := HSd.out; go_simp; try with_reducible rfl)
            try simp only [Act.put, List.getElem_toArray, List.getElem_cons_succ, List.getElem_cons_zero, List.setIfInBounds_toArray, List.set_cons_zero, List.set_cons_succ]
            refine Script.call (i := 5) (v := ?_) rfl (by kernel_rfl) (by kernel_rfl) (fun _ _ _ h => h) (by kernel_rfl) ?_ ?_
            rotate_left
            · (intro wS hSw K hK; have hRS := HS5.out.later (After.trans (After.drew (After.refl _)) hSw); obtain ⟨c0, c1, c2, -, -, -⟩ := row_facts hRS.board; have hsd := HSd.out; go_simp; go_at_call 25; refine (CS1.out _).mono ?_; rintro e wc' ⟨rfl, hbc⟩; exact hK.out _ hbc)
            try simp only [Act.put, List.getElem_toArray, List.getElem_cons_succ, List.getElem_cons_zero, List.setIfInBounds_toArray, List.set_cons_zero, List.set_cons_succ]
            refine Script.load (i := 6) (v := ?_) rfl (by kernel_rfl) (by kernel_rfl) (fun _ _ _ h => h) (by kernel_rfl) ?_ ?_
            rotate_left
            · (intro wS hSw; have hRS := HS5.out.later (After.trans (After.drew (After.refl _)) hSw); obtain ⟨c0, c1, c2, -, -, -⟩ := row_facts hRS.board; have hsd := HSd.out; go_simp; try with_reducible rfl)
            try simp only [Act.put, List.getElem_toArray, List.getElem_cons_succ, List.getElem_cons_zero, List.setIfInBounds_toArray, List.set_cons_zero, List.set_cons_succ]
            refine Script.load (i := 7) (v := ?_) rfl (by kernel_rfl) (by kernel_rfl) (fun _ _ _ h => h) (by kernel_rfl) ?_ ?_
            rotate_left
            · (intro wS hSw; have hRS := HS5.out.later (After.trans (After.drew (After.refl _)) hSw); obtain ⟨c0, c1, c2, -, -, -⟩ := row_facts hRS.board; have hsd := HSd.out; go_simp; try with_reducible rfl)
            try simp only [Act.put, List.getElem_toArray, List.getElem_cons_succ, List.getElem_cons_zero, List.setIfInBounds_toArray, List.set_cons_zero, List.set_cons_succ]
            refine Script.load (i := 8) (v := ?_) rfl (by kernel_rfl) (by kernel_rfl) (fun _ _ _ h => h) (by kernel_rfl) ?_ ?_
            rotate_left
            · (intro wS hSw; have hRS := HS5.out.later (After.trans (After.drew (After.refl _)) hSw); obtain ⟨c0, c1, c2, -, -, -⟩ := row_facts hRS.board; have hsd := HSd.out; go_simp; try with_reducible rfl)
            try simp only [Act.put, List.getElem_toArray, List.getElem_cons_succ, List.getElem_cons_zero, List.setIfInBounds_toArray, List.set_cons_zero, List.set_cons_succ]
            refine Script.call (i := 9) (v := ?_) rfl (by kernel_rfl) (by kernel_rfl) (fun _ _ _ h => h) (by kernel_rfl) ?_ ?_
            rotate_left
            · (intro wS hSw K hK; have hRS := HS5.out.later (After.trans (After.drew (After.refl _)) hSw); obtain ⟨c0, c1, c2, -, -, -⟩ := row_facts hRS.board; have hsd := HSd.out; go_simp; go_at_call 25; refine (CS2.out _).mono ?_; rintro e wc' ⟨rfl, hbc⟩; exact hK.out _ hbc)
            try simp only [Act.put, List.getElem_toArray, List.getElem_cons_succ, List.getElem_cons_zero, List.setIfInBounds_toArray, List.set_cons_zero, List.set_cons_succ]
            refine Script.call (i := 10) (v := ?_) rfl (by kernel_rfl) (by kernel_rfl) (fun _ _ _ h => h) (by kernel_rfl) ?_ ?_
            rotate_left
            · (intro wS hSw K hK; have hRS := HS5.out.later (After.trans (After.drew (After.refl _)) hSw); obtain ⟨c0, c1, c2, -, -, -⟩ := row_facts hRS.board; have hsd := HSd.out; go_simp; go_at_call 24; refine (CC.out _).mono ?_; rintro e wc' ⟨rfl, hbc⟩; exact hK.out _ hbc)
            try simp only [Act.put, List.getElem_toArray, List.getElem_cons_succ, List.getElem_cons_zero, List.setIfInBounds_toArray, List.set_cons_zero, List.set_cons_succ]
            refine Script.load (i := 11) (v := ?_) rfl (by kernel_rfl) (by kernel_rfl) (fun _ _ _ h => h) (by kernel_rfl) ?_ ?_
            rotate_left
            · (intro wS hSw; have hRS := HS5.out.later (After.trans (After.drew (After.refl _)) hSw); obtain ⟨c0, c1, c2, -, -, -⟩ := row_facts hRS.board; have hsd := HSd.out; go_simp; try with_reducible rfl)
            try simp only [Act.put, List.getElem_toArray, List.getElem_cons_succ, List.getElem_cons_zero, List.setIfInBounds_toArray, List.set_cons_zero, List.set_cons_succ]
            refine Script.load (i := 12) (v := ?_) rfl (by kernel_rfl) (by kernel_rfl) (fun _ _ _ h => h) (by kernel_rfl) ?_ ?_
            rotate_left
            · (intro wS hSw; have hRS := HS5.out.later (After.trans (After.drew (After.refl _)) hSw); obtain ⟨c0, c1, c2, -, -, -⟩ := row_facts hRS.board; have hsd := HSd.out; go_simp; try with_reducible rfl)
            try simp only [Act.put, List.getElem_toArray, List.getElem_cons_succ, List.getElem_cons_zero, List.setIfInBounds_toArray, List.set_cons_zero, List.set_cons_succ]
            refine Script.load (i := 13) (v := ?_) rfl (by kernel_rfl) (by kernel_rfl) (fun _ _ _ h => h) (by kernel_rfl) ?_ ?_
            rotate_left
            · (intro wS hSw; have hRS := HS5.out.later (After.trans (After.drew (After.refl _)) hSw); obtain ⟨c0, c1, c2, -, -, -⟩ := row_facts hRS.board; have hsd := HSd.out; go_simp; try with_reducible rfl)
            try simp only [Act.put, List.getElem_toArray, List.getElem_cons_succ, List.getElem_cons_zero, List.setIfInBounds_toArray, List.set_cons_zero, List.set_cons_succ]
            refine Script.load (i := 14) (v := ?_) rfl (by kernel_rfl) (by kernel_rfl) (fun _ _ _ h => h) (by kernel_rfl) ?_ ?_
            rotate_left
            · (intro wS hSw; have hRS := HS5.out.later (After.trans (After.drew (After.refl _)) hSw); obtain ⟨c0, c1, c2, -, -, -⟩ := row_facts hRS.board; have hsd := HSd.out; go_simp; try with_reducible rfl)
            try simp only [Act.put, List.getElem_toArray, List.getElem_cons_succ, List.getElem_cons_zero, List.setIfInBounds_toArray, List.set_cons_zero, List.set_cons_succ]
            refine Script.load (i := 15) (v := ?_) rfl (by kernel_rfl) (by kernel_rfl) (fun _ _ _ h => h) (by kernel_rfl) ?_ ?_
            rotate_left
            · (intro wS hSw; have hRS := HS5.out.later (After.trans (After.drew (After.refl _)) hSw); obtain ⟨c0, c1, c2, -, -, -⟩ := row_facts hRS.board; have hsd := HSd.out; go_simp; try with_reducible rfl)
            try simp only [Act.put, List.getElem_toArray, List.getElem_cons_succ, List.getElem_cons_zero, List.setIfInBounds_toArray, List.set_cons_zero, List.set_cons_succ]
            refine Script.load (i := 16) (v := ?_) rfl (by kernel_rfl) (by kernel_rfl) (fun _ _ _ h => h) (by kernel_rfl) ?_ ?_
            rotate_left
            · (intro wS hSw; have hRS := HS5.out.later (After.trans (After.drew (After.refl _)) hSw); obtain ⟨c0, c1, c2, -, -, -⟩ := row_facts hRS.board; have hsd := HSd.out; go_simp; try with_reducible rfl)
            try simp only [Act.put, List.getElem_toArray, List.getElem_cons_succ, List.getElem_cons_zero, List.setIfInBounds_toArray, List.set_cons_zero, List.set_cons_succ]
            refine Script.load (i := 17) (v := ?_) rfl (by kernel_rfl) (by kernel_rfl) (fun _ _ _ h => h) (by kernel_rfl) ?_ ?_
            rotate_left
            · (intro wS hSw; have hRS := HS5.out.later (After.trans (After.drew (After.refl _)) hSw); obtain ⟨c0, c1, c2, -, -, -⟩ := row_facts hRS.board; have hsd := HSd.out; go_simp; try with_reducible rfl)
            try simp only [Act.put, List.getElem_toArray, List.getElem_cons_succ, List.getElem_cons_zero, List.setIfInBounds_toArray, List.set_cons_zero, List.set_cons_succ]
            refine Script.load (i := 18) (v := ?_) rfl (by kernel_rfl) (by kernel_rfl) (fun _ _ _ h => h) (by kernel_rfl) ?_ ?_
            rotate_left
            · (intro wS hSw; have hRS := HS5.out.later (After.trans (After.drew (After.refl _)) hSw); obtain ⟨c0, c1, c2, -, -, -⟩ := row_facts hRS.board; have hsd := HSd.out; go_simp; try with_reducible rfl)
            try simp only [Act.put, List.getElem_toArray, List.getElem_cons_succ, List.getElem_cons_zero, List.setIfInBounds_toArray, List.set_cons_zero, List.set_cons_succ]
            refine Script.call (i := 19) (v := ?_) rfl (by kernel_rfl) (by kernel_rfl) (fun _ _ _ h => h) (by kernel_rfl) ?_ ?_
            rotate_left
            · (intro wS hSw K hK; have hRS := HS5.out.later (After.trans (After.drew (After.refl _)) hSw); obtain ⟨c0, c1, c2, -, -, -⟩ := row_facts hRS.board; have hsd := HSd.out; go_simp; go_at_call 26; refine (CB.out _).mono ?_; rintro e wc' ⟨rfl, hbc⟩; exact hK.out _ hbc)
            try simp only [Act.put, List.getElem_toArray, List.getElem_cons_succ, List.getElem_cons_zero, List.setIfInBounds_toArray, List.set_cons_zero, List.set_cons_succ]
            refine Script.load (i := 20) (v := ?_) rfl (by kernel_rfl) (by kernel_rfl) (fun _ _ _ h => h) (by kernel_rfl) ?_ ?_
            rotate_left
            · (intro wS hSw; have hRS := HS5.out.later (After.trans (After.drew (After.refl _)) hSw); obtain ⟨c0, c1, c2, -, -, -⟩ := row_facts hRS.board; have hsd := HSd.out; go_simp; try with_reducible rfl)
            try simp only [Act.put, List.getElem_toArray, List.getElem_cons_succ, List.getElem_cons_zero, List.setIfInBounds_toArray, List.set_cons_zero, List.set_cons_succ]
            refine Script.load (i := 21) (v := ?_) rfl (by kernel_rfl) (by kernel_rfl) (fun _ _ _ h => h) (by kernel_rfl) ?_ ?_
            rotate_left
            · (intro wS hSw; have hRS := HS5.out.later (After.trans (After.drew (After.refl _)) hSw); obtain ⟨c0, c1, c2, -, -, -⟩ := row_facts hRS.board; have hsd := HSd.out; go_simp; try with_reducible rfl)
            try simp only [Act.put, List.getElem_toArray, List.getElem_cons_succ, List.getElem_cons_zero, List.setIfInBounds_toArray, List.set_cons_zero, List.set_cons_succ]
            refine Script.skip (i := 22) rfl (by kernel_rfl) (by kernel_rfl) (fun _ _ _ h => h) (by kernel_rfl) ?_
            try simp only [Act.put, List.getElem_toArray, List.getElem_cons_succ, List.getElem_cons_zero, List.setIfInBounds_toArray, List.set_cons_zero, List.set_cons_succ]
            refine Script.skip (i := 23) rfl (by kernel_rfl) (by kernel_rfl) (fun _ _ _ h => h) (by kernel_rfl) ?_
            try simp only [Act.put, List.getElem_toArray, List.getElem_cons_succ, List.getElem_cons_zero, List.setIfInBounds_toArray, List.set_cons_zero, List.set_cons_succ]
            refine Script.skip (i := 24) rfl (by kernel_rfl) (by kernel_rfl) (fun _ _ _ h => h) (by kernel_rfl) ?_
            try simp only [Act.put, List.getElem_toArray, List.getElem_cons_succ, List.getElem_cons_zero, List.setIfInBounds_toArray, List.set_cons_zero, List.set_cons_succ]
            refine Script.skip (i := 25) rfl (by kernel_rfl) (by kernel_rfl) (fun _ _ _ h => h) (by kernel_rfl) ?_
            try simp only [Act.put, List.getElem_toArray, List.getElem_cons_succ, List.getElem_cons_zero, List.setIfInBounds_toArray, List.set_cons_zero, List.set_cons_succ]
            refine Script.skip (i := 26) rfl (by kernel_rfl) (by kernel_rfl) (fun _ _ _ h => h) (by kernel_rfl) ?_
            try simp only [Act.put, List.getElem_toArray, List.getElem_cons_succ, List.getElem_cons_zero, List.setIfInBounds_toArray, List.set_cons_zero, List.set_cons_succ]
            refine Script.load (i := 27) (v := ?_) rfl (by kernel_rfl) (by kernel_rfl) (fun _ _ _ h => h) (by kernel_rfl) ?_ ?_
            rotate_left
            · (intro wS hSw; have hRS := HS5.out.later (After.trans (After.drew (After.refl _)) hSw); obtain ⟨c0, c1, c2, -, -, -⟩ := row_facts hRS.board; have hsd := HSd.out; go_simp; try with_reducible rfl)
            try simp only [Act.put, List.getElem_toArray, List.getElem_cons_succ, List.getElem_cons_zero, List.setIfInBounds_toArray, List.set_cons_zero, List.set_cons_succ]
            refine Script.load (i := 28) (v := ?_) rfl (by kernel_rfl) (by kernel_rfl) (fun _ _ _ h => h) (by kernel_rfl) ?_ ?_
            rotate_left
            · (intro wS hSw; have hRS := HS5.out.later (After.trans (After.drew (After.refl _)) hSw); obtain ⟨c0, c1, c2, -, -, -⟩ := row_facts hRS.board; have hsd := HSd.out; go_simp; try with_reducible rfl)
            try simp only [Act.put, List.getElem_toArray, List.getElem_cons_succ, List.getElem_cons_zero, List.setIfInBounds_toArray, List.set_cons_zero, List.set_cons_succ]
            refine Script.done (by kernel_rfl) ?_
            intro wD hD hG
            have HS6 := Lib.hid (HS5.out.later (After.trans (After.drew (After.refl _)) hD))
            clear hD hG
            go_wp2_with fail
            go_meet
            exact ⟨rfl, HS6⟩
          · rw [hb] at CB
            have hh := hhope hb
            rw [hh] at CHp
            clear hb hhope hh
            go_wp2_with fail
            refine wp_region_script (by kernel_rfl) (by kernel_rfl) ?_
            refine Script.load (i := 0) (v := ?_) rfl (by kernel_rfl) (by kernel_rfl) (fun _ _ _ h => h) (by kernel_rfl) ?_ ?_
            rotate_left
            · (intro wS hSw; have hRS := HS5.out.later (After.trans (After.drew (After.refl _)) hSw); obtain ⟨c0, c1, c2, -, -, -⟩ := row_facts hRS.board; have hsd := HSd.out; go_simp; try with_reducible rfl)
            try simp only [Act.put, List.getElem_toArray, List.getElem_cons_succ, List.getElem_cons_zero, List.setIfInBounds_toArray, List.set_cons_zero, List.set_cons_succ]
            refine Script.load (i := 1) (v := ?_) rfl (by kernel_rfl) (by kernel_rfl) (fun _ _ _ h => h) (by kernel_rfl) ?_ ?_
            rotate_left
            · (intro wS hSw; have hRS := HS5.out.later (After.trans (After.drew (After.refl _)) hSw); obtain ⟨c0, c1, c2, -, -, -⟩ := row_facts hRS.board; have hsd := HSd.out; go_simp; try with_reducible rfl)
            try simp only [Act.put, List.getElem_toArray, List.getElem_cons_succ, List.getElem_cons_zero, List.setIfInBounds_toArray, List.set_cons_zero, List.set_cons_succ]
            refine Script.load (i := 2) (v := ?_) rfl (by kernel_rfl) (by kernel_rfl) (fun _ _ _ h => h) (by kernel_rfl) ?_ ?_
            rotate_left
            · (intro wS hSw; have hRS := HS5.out.later (After.trans (After.drew (After.refl _)) hSw); obtain ⟨c0, c1, c2, -, -, -⟩ := row_facts hRS.board; have hsd := HSd.out; go_simp; try with_reducible rfl)
            try simp only [Act.put, List.getElem_toArray, List.getElem_cons_succ, List.getElem_cons_zero, List.setIfInBounds_toArray, List.set_cons_zero, List.set_cons_succ]
            refine Script.load (i := 3) (v := ?_) rfl (by kernel_rfl) (by kernel_rfl) (fun _ _ _ h => h) (by kernel_rfl) ?_ ?_
            rotate_left
            · (intro wS hSw; have hRS := HS5.out.later (After.trans (After.drew (After.refl _)) hSw); obtain ⟨c0, c1, c2, -, -, -⟩ := row_facts hRS.board; have hsd := HSd.out; go_simp; try with_reducible rfl)
            try simp only [Act.put, List.getElem_toArray, List.getElem_cons_succ, List.getElem_cons_zero, List.setIfInBounds_toArray, List.set_cons_zero, List.set_cons_succ]
            refine Script.load (i := 4) (v := ?_) rfl (by kernel_rfl) (by kernel_rfl) (fun _ _ _ h => h) (by kernel_rfl) ?_ ?_
            rotate_left
            · (intro wS hSw; have hRS := HS5.out.later (After.trans (After.drew (After.refl _)) hSw); obtain ⟨c0, c1, c2, -, -, -⟩ := row_facts hRS.board; have hsd := HSd.out; go_simp; try with_reducible rfl)
            try simp only [Act.put, List.getElem_toArray, List.getElem_cons_succ, List.getElem_cons_zero, List.setIfInBounds_toArray, List.set_cons_zero, List.set_cons_succ]
            refine Script.call (i := 5) (v := ?_) rfl (by kernel_rfl) (by kernel_rfl) (fun _ _ _ h => h) (by kernel_rfl) ?_ ?_
            rotate_left
            · (intro wS hSw K hK; have hRS := HS5.out.later (After.trans (After.drew (After.refl _)) hSw); obtain ⟨c0, c1, c2, -, -, -⟩ := row_facts hRS.board; have hsd := HSd.out; go_simp; go_at_call 25; refine (CS1.out _).mono ?_; rintro e wc' ⟨rfl, hbc⟩; exact hK.out _ hbc)
            try simp only [Act.put, List.getElem_toArray, List.getElem_cons_succ, List.getElem_cons_zero, List.setIfInBounds_toArray, List.set_cons_zero, List.set_cons_succ]
            refine Script.load (i := 6) (v := ?_) rfl (by kernel_rfl) (by kernel_rfl) (fun _ _ _ h => h) (by kernel_rfl) ?_ ?_
            rotate_left
            · (intro wS hSw; have hRS := HS5.out.later (After.trans (After.drew (After.refl _)) hSw); obtain ⟨c0, c1, c2, -, -, -⟩ := row_facts hRS.board; have hsd := HSd.out; go_simp; try with_reducible rfl)
            try simp only [Act.put, List.getElem_toArray, List.getElem_cons_succ, List.getElem_cons_zero, List.setIfInBounds_toArray, List.set_cons_zero, List.set_cons_succ]
            refine Script.load (i := 7) (v := ?_) rfl (by kernel_rfl) (by kernel_rfl) (fun _ _ _ h => h) (by kernel_rfl) ?_ ?_
            rotate_left
            · (intro wS hSw; have hRS := HS5.out.later (After.trans (After.drew (After.refl _)) hSw); obtain ⟨c0, c1, c2, -, -, -⟩ := row_facts hRS.board; have hsd := HSd.out; go_simp; try with_reducible rfl)
            try simp only [Act.put, List.getElem_toArray, List.getElem_cons_succ, List.getElem_cons_zero, List.setIfInBounds_toArray, List.set_cons_zero, List.set_cons_succ]
            refine Script.load (i := 8) (v := ?_) rfl (by kernel_rfl) (by kernel_rfl) (fun _ _ _ h => h) (by kernel_rfl) ?_ ?_
            rotate_left
            · (intro wS hSw; have hRS := HS5.out.later (After.trans (After.drew (After.refl _)) hSw); obtain ⟨c0, c1, c2, -, -, -⟩ := row_facts hRS.board; have hsd := HSd.out; go_simp; try with_reducible rfl)
            try simp only [Act.put, List.getElem_toArray, List.getElem_cons_succ, List.getElem_cons_zero, List.setIfInBounds_toArray, List.set_cons_zero, List.set_cons_succ]
            refine Script.call (i := 9) (v := ?_) rfl (by kernel_rfl) (by kernel_rfl) (fun _ _ _ h => h) (by kernel_rfl) ?_ ?_
            rotate_left
            · (intro wS hSw K hK; have hRS := HS5.out.later (After.trans (After.drew (After.refl _)) hSw); obtain ⟨c0, c1, c2, -, -, -⟩ := row_facts hRS.board; have hsd := HSd.out; go_simp; go_at_call 25; refine (CS2.out _).mono ?_; rintro e wc' ⟨rfl, hbc⟩; exact hK.out _ hbc)
            try simp only [Act.put, List.getElem_toArray, List.getElem_cons_succ, List.getElem_cons_zero, List.setIfInBounds_toArray, List.set_cons_zero, List.set_cons_succ]
            refine Script.call (i := 10) (v := ?_) rfl (by kernel_rfl) (by kernel_rfl) (fun _ _ _ h => h) (by kernel_rfl) ?_ ?_
            rotate_left
            · (intro wS hSw K hK; have hRS := HS5.out.later (After.trans (After.drew (After.refl _)) hSw); obtain ⟨c0, c1, c2, -, -, -⟩ := row_facts hRS.board; have hsd := HSd.out; go_simp; go_at_call 24; refine (CC.out _).mono ?_; rintro e wc' ⟨rfl, hbc⟩; exact hK.out _ hbc)
            try simp only [Act.put, List.getElem_toArray, List.getElem_cons_succ, List.getElem_cons_zero, List.setIfInBounds_toArray, List.set_cons_zero, List.set_cons_succ]
            refine Script.load (i := 11) (v := ?_) rfl (by kernel_rfl) (by kernel_rfl) (fun _ _ _ h => h) (by kernel_rfl) ?_ ?_
            rotate_left
            · (intro wS hSw; have hRS := HS5.out.later (After.trans (After.drew (After.refl _)) hSw); obtain ⟨c0, c1, c2, -, -, -⟩ := row_facts hRS.board; have hsd := HSd.out; go_simp; try with_reducible rfl)
            try simp only [Act.put, List.getElem_toArray, List.getElem_cons_succ, List.getElem_cons_zero, List.setIfInBounds_toArray, List.set_cons_zero, List.set_cons_succ]
            refine Script.load (i := 12) (v := ?_) rfl (by kernel_rfl) (by kernel_rfl) (fun _ _ _ h => h) (by kernel_rfl) ?_ ?_
            rotate_left
            · (intro wS hSw; have hRS := HS5.out.later (After.trans (After.drew (After.refl _)) hSw); obtain ⟨c0, c1, c2, -, -, -⟩ := row_facts hRS.board; have hsd := HSd.out; go_simp; try with_reducible rfl)
            try simp only [Act.put, List.getElem_toArray, List.getElem_cons_succ, List.getElem_cons_zero, List.setIfInBounds_toArray, List.set_cons_zero, List.set_cons_succ]
            refine Script.load (i := 13) (v := ?_) rfl (by kernel_rfl) (by kernel_rfl) (fun _ _ _ h => h) (by kernel_rfl) ?_ ?_
            rotate_left
            · (intro wS hSw; have hRS := HS5.out.later (After.trans (After.drew (After.refl _)) hSw); obtain ⟨c0, c1, c2, -, -, -⟩ := row_facts hRS.board; have hsd := HSd.out; go_simp; try with_reducible rfl)
            try simp only [Act.put, List.getElem_toArray, List.getElem_cons_succ, List.getElem_cons_zero, List.setIfInBounds_toArray, List.set_cons_zero, List.set_cons_succ]
            refine Script.load (i := 14) (v := ?_) rfl (by kernel_rfl) (by kernel_rfl) (fun _ _ _ h => h) (by kernel_rfl) ?_ ?_
            rotate_left
            · (intro wS hSw; have hRS := HS5.out.later (After.trans (After.drew (After.refl _)) hSw); obtain ⟨c0, c1, c2, -, -, -⟩ := row_facts hRS.board; have hsd := HSd.out; go_simp; try with_reducible rfl)
            try simp only [Act.put, List.getElem_toArray, List.getElem_cons_succ, List.getElem_cons_zero, List.setIfInBounds_toArray, List.set_cons_zero, List.set_cons_succ]
            refine Script.load (i := 15) (v := ?_) rfl (by kernel_rfl) (by kernel_rfl) (fun _ _ _ h => h) (by kernel_rfl) ?_ ?_
            rotate_left
            · (intro wS hSw; have hRS := HS5.out.later (After.trans (After.drew (After.refl _)) hSw); obtain ⟨c0, c1, c2, -, -, -⟩ := row_facts hRS.board; have hsd := HSd.out; go_simp; try with_reducible rfl)
            try simp only [Act.put, List.getElem_toArray, List.getElem_cons_succ, List.getElem_cons_zero, List.setIfInBounds_toArray, List.set_cons_zero, List.set_cons_succ]
            refine Script.load (i := 16) (v := ?_) rfl (by kernel_rfl) (by kernel_rfl) (fun _ _ _ h => h) (by kernel_rfl) ?_ ?_
            rotate_left
            · (intro wS hSw; have hRS := HS5.out.later (After.trans (After.drew (After.refl _)) hSw); obtain ⟨c0, c1, c2, -, -, -⟩ := row_facts hRS.board; have hsd := HSd.out; go_simp; try with_reducible rfl)
            try simp only [Act.put, List.getElem_toArray, List.getElem_cons_succ, List.getElem_cons_zero, List.setIfInBounds_toArray, List.set_cons_zero, List.set_cons_succ]
            refine Script.load (i := 17) (v := ?_) rfl (by kernel_rfl) (by kernel_rfl) (fun _ _ _ h => h) (by kernel_rfl) ?_ ?_
            rotate_left
            · (intro wS hSw; have hRS := HS5.out.later (After.trans (After.drew (After.refl _)) hSw); obtain ⟨c0, c1, c2, -, -, -⟩ := row_facts hRS.board; have hsd := HSd.out; go_simp; try with_reducible rfl)
            try simp only [Act.put, List.getElem_toArray, List.getElem_cons_succ, List.getElem_cons_zero, List.setIfInBounds_toArray, List.set_cons_zero, List.set_cons_succ]
            refine Script.load (i := 18) (v := ?_) rfl (by kernel_rfl) (by kernel_rfl) (fun _ _ _ h => h) (by kernel_rfl) ?_ ?_
            rotate_left
            · (intro wS hSw; have hRS := HS5.out.later (After.trans (After.drew (After.refl _)) hSw); obtain ⟨c0, c1, c2, -, -, -⟩ := row_facts hRS.board; have hsd := HSd.out; go_simp; try with_reducible rfl)
            try simp only [Act.put, List.getElem_toArray, List.getElem_cons_succ, List.getElem_cons_zero, List.setIfInBounds_toArray, List.set_cons_zero, List.set_cons_succ]
            refine Script.call (i := 19) (v := ?_) rfl (by kernel_rfl) (by kernel_rfl) (fun _ _ _ h => h) (by kernel_rfl) ?_ ?_
            rotate_left
            · (intro wS hSw K hK; have hRS := HS5.out.later (After.trans (After.drew (After.refl _)) hSw); obtain ⟨c0, c1, c2, -, -, -⟩ := row_facts hRS.board; have hsd := HSd.out; go_simp; go_at_call 26; refine (CB.out _).mono ?_; rintro e wc' ⟨rfl, hbc⟩; exact hK.out _ hbc)
            try simp only [Act.put, List.getElem_toArray, List.getElem_cons_succ, List.getElem_cons_zero, List.setIfInBounds_toArray, List.set_cons_zero, List.set_cons_succ]
            refine Script.load (i := 20) (v := ?_) rfl (by kernel_rfl) (by kernel_rfl) (fun _ _ _ h => h) (by kernel_rfl) ?_ ?_
            rotate_left
            · (intro wS hSw; have hRS := HS5.out.later (After.trans (After.drew (After.refl _)) hSw); obtain ⟨c0, c1, c2, -, -, -⟩ := row_facts hRS.board; have hsd := HSd.out; go_simp; try with_reducible rfl)
            try simp only [Act.put, List.getElem_toArray, List.getElem_cons_succ, List.getElem_cons_zero, List.setIfInBounds_toArray, List.set_cons_zero, List.set_cons_succ]
            refine Script.load (i := 21) (v := ?_) rfl (by kernel_rfl) (by kernel_rfl) (fun _ _ _ h => h) (by kernel_rfl) ?_ ?_
            rotate_left
            · (intro wS hSw; have hRS := HS5.out.later (After.trans (After.drew (After.refl _)) hSw); obtain ⟨c0, c1, c2, -, -, -⟩ := row_facts hRS.board; have hsd := HSd.out; go_simp; try with_reducible rfl)
            try simp only [Act.put, List.getElem_toArray, List.getElem_cons_succ, List.getElem_cons_zero, List.setIfInBounds_toArray, List.set_cons_zero, List.set_cons_succ]
            refine Script.load (i := 22) (v := ?_) rfl (by kernel_rfl) (by kernel_rfl) (fun _ _ _ h => h) (by kernel_rfl) ?_ ?_
            rotate_left
            · (intro wS hSw; have hRS := HS5.out.later (After.trans (After.drew (After.refl _)) hSw); obtain ⟨c0, c1, c2, -, -, -⟩ := row_facts hRS.board; have hsd := HSd.out; go_simp; try with_reducible rfl)
            try simp only [Act.put, List.getElem_toArray, List.getElem_cons_succ, List.getElem_cons_zero, List.setIfInBounds_toArray, List.set_cons_zero, List.set_cons_succ]
            refine Script.load (i := 23) (v := ?_) rfl (by kernel_rfl) (by kernel_rfl) (fun _ _ _ h => h) (by kernel_rfl) ?_ ?_
            rotate_left
            · (intro wS hSw; have hRS := HS5.out.later (After.trans (After.drew (After.refl _)) hSw); obtain ⟨c0, c1, c2, -, -, -⟩ := row_facts hRS.board; have hsd := HSd.out; go_simp; try with_reducible rfl)
            try simp only [Act.put, List.getElem_toArray, List.getElem_cons_succ, List.getElem_cons_zero, List.setIfInBounds_toArray, List.set_cons_zero, List.set_cons_succ]
            refine Script.load (i := 24) (v := ?_) rfl (by kernel_rfl) (by kernel_rfl) (fun _ _ _ h => h) (by kernel_rfl) ?_ ?_
            rotate_left
            · (intro wS hSw; have hRS := HS5.out.later (After.trans (After.drew (After.refl _)) hSw); obtain ⟨c0, c1, c2, -, -, -⟩ := row_facts hRS.board; have hsd := HSd.out; go_simp; try with_reducible rfl)
            try simp only [Act.put, List.getElem_toArray, List.getElem_cons_succ, List.getElem_cons_zero, List.setIfInBounds_toArray, List.set_cons_zero, List.set_cons_succ]
            refine Script.call (i := 25) (v := ?_) rfl (by kernel_rfl) (by kernel_rfl) (fun _ _ _ h => h) (by kernel_rfl) ?_ ?_
            rotate_left
            · (intro wS hSw K hK; have hRS := HS5.out.later (After.trans (After.drew (After.refl _)) hSw); obtain ⟨c0, c1, c2, -, -, -⟩ := row_facts hRS.board; have hsd := HSd.out; go_simp; go_at_call 27; refine (CHp.out _).mono ?_; rintro e wc' ⟨rfl, hbc⟩; exact hK.out _ hbc)
            try simp only [Act.put, List.getElem_toArray, List.getElem_cons_succ, List.getElem_cons_zero, List.setIfInBounds_toArray, List.set_cons_zero, List.set_cons_succ]
            refine Script.load (i := 26) (v := ?_) rfl (by kernel_rfl) (by kernel_rfl) (fun _ _ _ h => h) (by kernel_rfl) ?_ ?_
            rotate_left
            · (intro wS hSw; have hRS := HS5.out.later (After.trans (After.drew (After.refl _)) hSw); obtain ⟨c0, c1, c2, -, -, -⟩ := row_facts hRS.board; have hsd := HSd.out; go_simp; try with_reducible rfl)
            try simp only [Act.put, List.getElem_toArray, List.getElem_cons_succ, List.getElem_cons_zero, List.setIfInBounds_toArray, List.set_cons_zero, List.set_cons_succ]
            refine Script.load (i := 27) (v := ?_) rfl (by kernel_rfl) (by kernel_rfl) (fun _ _ _ h => h) (by kernel_rfl) ?_ ?_
            rotate_left
            · (intro wS hSw; have hRS := HS5.out.later (After.trans (After.drew (After.refl _)) hSw); obtain ⟨c0, c1, c2, -, -, -⟩ := row_facts hRS.board; have hsd := HSd.out; go_simp; try with_reducible rfl)
            try simp only [Act.put, List.getElem_toArray, List.getElem_cons_succ, List.getElem_cons_zero, List.setIfInBounds_toArray, List.set_cons_zero, List.set_cons_succ]
            refine Script.load (i := 28) (v := ?_) rfl (by kernel_rfl) (by kernel_rfl) (fun _ _ _ h => h) (by kernel_rfl) ?_ ?_
            rotate_left
            · (intro wS hSw; have hRS := HS5.out.later (After.trans (After.drew (After.refl _)) hSw); obtain ⟨c0, c1, c2, -, -, -⟩ := row_facts hRS.board; have hsd := HSd.out; go_simp; try with_reducible rfl)
            try simp only [Act.put, List.getElem_toArray, List.getElem_cons_succ, List.getElem_cons_zero, List.setIfInBounds_toArray, List.set_cons_zero, List.set_cons_succ]
            refine Script.done (by kernel_rfl) ?_
            intro wD hD hG
            have HS6 := Lib.hid (HS5.out.later (After.trans (After.drew (After.refl _)) hD))
            clear hD hG
            go_wp2_with fail
            go_meet
            exact ⟨rfl, HS6⟩
      case rest =>
        clear HS5
        obtain ⟨rfl, HS6⟩ := hcut
        have HCo : Hid (∀ w', GSt w q a b z B1 B2 g n vc l ga j gc ls w' → w'.cell? ⟨g, 0, none⟩ = some (.int .i64 (o : Int))) := fun w' h => own_cell h.l 0 HNx.out _ (by simp [Ints, HO0.out])
        have CD := Lib.hid (fun w => implSteps (a : Int) b z k o w)
        have CD2 := Lib.hid (fun w => implSteps (a : Int) b z o k w)
        rw [steps_comm (a : Int) b z o k] at CD2
        have CG := Lib.hid (fun w => implGoldAt (a : Int) b z k o w)
        have CG0 := Lib.hid (fun w => implGoldAt (a : Int) b z k k w)
        rw [gw_self HHk.out] at CG0
        have CP := Lib.hid (fun w => specPowerOf (stepsB (a : Int) b z k o) w)
        rw [show powG (stepsB (a : Int) b z k o) = gwB (a : Int) b z k o from rfl] at CP
        obtain ⟨⟨y1, y2⟩, hy⟩ : ∃ r, gwB (a : Int) b z k o = r := ⟨_, rfl⟩
        rw [hy] at CG CP
        obtain ⟨d, hd⟩ : ∃ d, stepsB (a : Int) b z k o = d := ⟨_, rfl⟩
        rw [hd] at CD CD2 CP
        have k49 : k < 49 := by omega
        obtain ⟨qq, hqi, hqn, q1, q2⟩ := pow_nat k k49
        have hwq : IntKind.i64.wrap (qq : Int) = (qq : Int) := IntWalk.i64_in _ (by omega)
        have CO := Lib.hid (fun w => implGoldSum (a : Int) b z k (qq : Int) (by omega) w)
        rw [← hqn, gsum_one HHk.out, hqn] at CO
        have hk0 : (0 : Int) ≤ (k : Int) := by omega
        clear hy hd hqn
        go_wp2_with fail
        refine wp_region_script (by kernel_rfl) (by kernel_rfl) ?_
        refine Script.load (i := 0) (v := ?_) rfl (by kernel_rfl) (by kernel_rfl) (fun _ _ _ h => h) (by kernel_rfl) ?_ ?_
        rotate_left
        · (intro wS hSw; have hRS := HS6.out.later (After.trans (After.drew (After.refl _)) hSw); obtain ⟨c0, c1, c2, -, -, -⟩ := row_facts hRS.board; have hco := HCo.out wS hRS; go_simp; try with_reducible rfl)
        try simp only [Act.put, List.getElem_toArray, List.getElem_cons_succ, List.getElem_cons_zero, List.setIfInBounds_toArray, List.set_cons_zero, List.set_cons_succ]
        refine Script.load (i := 1) (v := ?_) rfl (by kernel_rfl) (by kernel_rfl) (fun _ _ _ h => h) (by kernel_rfl) ?_ ?_
        rotate_left
        · (intro wS hSw; have hRS := HS6.out.later (After.trans (After.drew (After.refl _)) hSw); obtain ⟨c0, c1, c2, -, -, -⟩ := row_facts hRS.board; have hco := HCo.out wS hRS; go_simp; try with_reducible rfl)
        try simp only [Act.put, List.getElem_toArray, List.getElem_cons_succ, List.getElem_cons_zero, List.setIfInBounds_toArray, List.set_cons_zero, List.set_cons_succ]
        refine Script.load (i := 2) (v := ?_) rfl (by kernel_rfl) (by kernel_rfl) (fun _ _ _ h => h) (by kernel_rfl) ?_ ?_
        rotate_left
        · (intro wS hSw; have hRS := HS6.out.later (After.trans (After.drew (After.refl _)) hSw); obtain ⟨c0, c1, c2, -, -, -⟩ := row_facts hRS.board; have hco := HCo.out wS hRS; go_simp; try with_reducible rfl)
        try simp only [Act.put, List.getElem_toArray, List.getElem_cons_succ, List.getElem_cons_zero, List.setIfInBounds_toArray, List.set_cons_zero, List.set_cons_succ]
        refine Script.load (i := 3) (v := ?_) rfl (by kernel_rfl) (by kernel_rfl) (fun _ _ _ h => h) (by kernel_rfl) ?_ ?_
        rotate_left
        · (intro wS hSw; have hRS := HS6.out.later (After.trans (After.drew (After.refl _)) hSw); obtain ⟨c0, c1, c2, -, -, -⟩ := row_facts hRS.board; have hco := HCo.out wS hRS; go_simp; try with_reducible rfl)
        try simp only [Act.put, List.getElem_toArray, List.getElem_cons_succ, List.getElem_cons_zero, List.setIfInBounds_toArray, List.set_cons_zero, List.set_cons_succ]
        refine Script.load (i := 4) (v := ?_) rfl (by kernel_rfl) (by kernel_rfl) (fun _ _ _ h => h) (by kernel_rfl) ?_ ?_
        rotate_left
        · (intro wS hSw; have hRS := HS6.out.later (After.trans (After.drew (After.refl _)) hSw); obtain ⟨c0, c1, c2, -, -, -⟩ := row_facts hRS.board; have hco := HCo.out wS hRS; go_simp; try with_reducible rfl)
        try simp only [Act.put, List.getElem_toArray, List.getElem_cons_succ, List.getElem_cons_zero, List.setIfInBounds_toArray, List.set_cons_zero, List.set_cons_succ]
        refine Script.call (i := 5) (v := ?_) rfl (by kernel_rfl) (by kernel_rfl) (fun _ _ _ h => h) (by kernel_rfl) ?_ ?_
        rotate_left
        · (intro wS hSw K hK; have hRS := HS6.out.later (After.trans (After.drew (After.refl _)) hSw); obtain ⟨c0, c1, c2, -, -, -⟩ := row_facts hRS.board; have hco := HCo.out wS hRS; go_simp; go_at_call 28; refine (CD.out _).mono ?_; rintro e wc' ⟨rfl, hbc⟩; exact hK.out _ hbc)
        try simp only [Act.put, List.getElem_toArray, List.getElem_cons_succ, List.getElem_cons_zero, List.setIfInBounds_toArray, List.set_cons_zero, List.set_cons_succ]
        refine Script.load (i := 6) (v := ?_) rfl (by kernel_rfl) (by kernel_rfl) (fun _ _ _ h => h) (by kernel_rfl) ?_ ?_
        rotate_left
        · (intro wS hSw; have hRS := HS6.out.later (After.trans (After.drew (After.refl _)) hSw); obtain ⟨c0, c1, c2, -, -, -⟩ := row_facts hRS.board; have hco := HCo.out wS hRS; go_simp; try with_reducible rfl)
        try simp only [Act.put, List.getElem_toArray, List.getElem_cons_succ, List.getElem_cons_zero, List.setIfInBounds_toArray, List.set_cons_zero, List.set_cons_succ]
        refine Script.done (by kernel_rfl) ?_
        intro wD hD hG
        have HS7 := Lib.hid (HS6.out.later (After.trans (After.drew (After.refl _)) hD))
        clear hD hG HS6
        go_wp2_with fail
        refine wp_region_script (by kernel_rfl) (by kernel_rfl) ?_
        refine Script.load (i := 0) (v := ?_) rfl (by kernel_rfl) (by kernel_rfl) (fun _ _ _ h => h) (by kernel_rfl) ?_ ?_
        rotate_left
        · (intro wS hSw; have hRS := HS7.out.later (After.trans (After.drew (After.refl _)) hSw); obtain ⟨c0, c1, c2, -, -, -⟩ := row_facts hRS.board; have hco := HCo.out wS hRS; go_simp; try with_reducible rfl)
        try simp only [Act.put, List.getElem_toArray, List.getElem_cons_succ, List.getElem_cons_zero, List.setIfInBounds_toArray, List.set_cons_zero, List.set_cons_succ]
        refine Script.load (i := 1) (v := ?_) rfl (by kernel_rfl) (by kernel_rfl) (fun _ _ _ h => h) (by kernel_rfl) ?_ ?_
        rotate_left
        · (intro wS hSw; have hRS := HS7.out.later (After.trans (After.drew (After.refl _)) hSw); obtain ⟨c0, c1, c2, -, -, -⟩ := row_facts hRS.board; have hco := HCo.out wS hRS; go_simp; try with_reducible rfl)
        try simp only [Act.put, List.getElem_toArray, List.getElem_cons_succ, List.getElem_cons_zero, List.setIfInBounds_toArray, List.set_cons_zero, List.set_cons_succ]
        refine Script.load (i := 2) (v := ?_) rfl (by kernel_rfl) (by kernel_rfl) (fun _ _ _ h => h) (by kernel_rfl) ?_ ?_
        rotate_left
        · (intro wS hSw; have hRS := HS7.out.later (After.trans (After.drew (After.refl _)) hSw); obtain ⟨c0, c1, c2, -, -, -⟩ := row_facts hRS.board; have hco := HCo.out wS hRS; go_simp; try with_reducible rfl)
        try simp only [Act.put, List.getElem_toArray, List.getElem_cons_succ, List.getElem_cons_zero, List.setIfInBounds_toArray, List.set_cons_zero, List.set_cons_succ]
        refine Script.call (i := 3) (v := ?_) rfl (by kernel_rfl) (by kernel_rfl) (fun _ _ _ h => h) (by kernel_rfl) ?_ ?_
        rotate_left
        · (intro wS hSw K hK; have hRS := HS7.out.later (After.trans (After.drew (After.refl _)) hSw); obtain ⟨c0, c1, c2, -, -, -⟩ := row_facts hRS.board; have hco := HCo.out wS hRS; go_simp; go_at_call 29; refine (CG0.out _).mono ?_; rintro e wc' ⟨rfl, hbc⟩; exact hK.out _ hbc)
        try simp only [Act.put, List.getElem_toArray, List.getElem_cons_succ, List.getElem_cons_zero, List.setIfInBounds_toArray, List.set_cons_zero, List.set_cons_succ]
        refine Script.load (i := 4) (v := ?_) rfl (by kernel_rfl) (by kernel_rfl) (fun _ _ _ h => h) (by kernel_rfl) ?_ ?_
        rotate_left
        · (intro wS hSw; have hRS := HS7.out.later (After.trans (After.drew (After.refl _)) hSw); obtain ⟨c0, c1, c2, -, -, -⟩ := row_facts hRS.board; have hco := HCo.out wS hRS; go_simp; try with_reducible rfl)
        try simp only [Act.put, List.getElem_toArray, List.getElem_cons_succ, List.getElem_cons_zero, List.setIfInBounds_toArray, List.set_cons_zero, List.set_cons_succ]
        refine Script.load (i := 5) (v := ?_) rfl (by kernel_rfl) (by kernel_rfl) (fun _ _ _ h => h) (by kernel_rfl) ?_ ?_
        rotate_left
        · (intro wS hSw; have hRS := HS7.out.later (After.trans (After.drew (After.refl _)) hSw); obtain ⟨c0, c1, c2, -, -, -⟩ := row_facts hRS.board; have hco := HCo.out wS hRS; go_simp; try with_reducible rfl)
        try simp only [Act.put, List.getElem_toArray, List.getElem_cons_succ, List.getElem_cons_zero, List.setIfInBounds_toArray, List.set_cons_zero, List.set_cons_succ]
        refine Script.load (i := 6) (v := ?_) rfl (by kernel_rfl) (by kernel_rfl) (fun _ _ _ h => h) (by kernel_rfl) ?_ ?_
        rotate_left
        · (intro wS hSw; have hRS := HS7.out.later (After.trans (After.drew (After.refl _)) hSw); obtain ⟨c0, c1, c2, -, -, -⟩ := row_facts hRS.board; have hco := HCo.out wS hRS; go_simp; try with_reducible rfl)
        try simp only [Act.put, List.getElem_toArray, List.getElem_cons_succ, List.getElem_cons_zero, List.setIfInBounds_toArray, List.set_cons_zero, List.set_cons_succ]
        refine Script.load (i := 7) (v := ?_) rfl (by kernel_rfl) (by kernel_rfl) (fun _ _ _ h => h) (by kernel_rfl) ?_ ?_
        rotate_left
        · (intro wS hSw; have hRS := HS7.out.later (After.trans (After.drew (After.refl _)) hSw); obtain ⟨c0, c1, c2, -, -, -⟩ := row_facts hRS.board; have hco := HCo.out wS hRS; go_simp; try with_reducible rfl)
        try simp only [Act.put, List.getElem_toArray, List.getElem_cons_succ, List.getElem_cons_zero, List.setIfInBounds_toArray, List.set_cons_zero, List.set_cons_succ]
        refine Script.load (i := 8) (v := ?_) rfl (by kernel_rfl) (by kernel_rfl) (fun _ _ _ h => h) (by kernel_rfl) ?_ ?_
        rotate_left
        · (intro wS hSw; have hRS := HS7.out.later (After.trans (After.drew (After.refl _)) hSw); obtain ⟨c0, c1, c2, -, -, -⟩ := row_facts hRS.board; have hco := HCo.out wS hRS; go_simp; try with_reducible rfl)
        try simp only [Act.put, List.getElem_toArray, List.getElem_cons_succ, List.getElem_cons_zero, List.setIfInBounds_toArray, List.set_cons_zero, List.set_cons_succ]
        refine Script.load (i := 9) (v := ?_) rfl (by kernel_rfl) (by kernel_rfl) (fun _ _ _ h => h) (by kernel_rfl) ?_ ?_
        rotate_left
        · (intro wS hSw; have hRS := HS7.out.later (After.trans (After.drew (After.refl _)) hSw); obtain ⟨c0, c1, c2, -, -, -⟩ := row_facts hRS.board; have hco := HCo.out wS hRS; go_simp; try with_reducible rfl)
        try simp only [Act.put, List.getElem_toArray, List.getElem_cons_succ, List.getElem_cons_zero, List.setIfInBounds_toArray, List.set_cons_zero, List.set_cons_succ]
        refine Script.load (i := 10) (v := ?_) rfl (by kernel_rfl) (by kernel_rfl) (fun _ _ _ h => h) (by kernel_rfl) ?_ ?_
        rotate_left
        · (intro wS hSw; have hRS := HS7.out.later (After.trans (After.drew (After.refl _)) hSw); obtain ⟨c0, c1, c2, -, -, -⟩ := row_facts hRS.board; have hco := HCo.out wS hRS; go_simp; try with_reducible rfl)
        try simp only [Act.put, List.getElem_toArray, List.getElem_cons_succ, List.getElem_cons_zero, List.setIfInBounds_toArray, List.set_cons_zero, List.set_cons_succ]
        refine Script.load (i := 11) (v := ?_) rfl (by kernel_rfl) (by kernel_rfl) (fun _ _ _ h => h) (by kernel_rfl) ?_ ?_
        rotate_left
        · (intro wS hSw; have hRS := HS7.out.later (After.trans (After.drew (After.refl _)) hSw); obtain ⟨c0, c1, c2, -, -, -⟩ := row_facts hRS.board; have hco := HCo.out wS hRS; go_simp; try with_reducible rfl)
        try simp only [Act.put, List.getElem_toArray, List.getElem_cons_succ, List.getElem_cons_zero, List.setIfInBounds_toArray, List.set_cons_zero, List.set_cons_succ]
        refine Script.load (i := 12) (v := ?_) rfl (by kernel_rfl) (by kernel_rfl) (fun _ _ _ h => h) (by kernel_rfl) ?_ ?_
        rotate_left
        · (intro wS hSw; have hRS := HS7.out.later (After.trans (After.drew (After.refl _)) hSw); obtain ⟨c0, c1, c2, -, -, -⟩ := row_facts hRS.board; have hco := HCo.out wS hRS; go_simp; try with_reducible rfl)
        try simp only [Act.put, List.getElem_toArray, List.getElem_cons_succ, List.getElem_cons_zero, List.setIfInBounds_toArray, List.set_cons_zero, List.set_cons_succ]
        refine Script.call (i := 13) (v := ?_) rfl (by kernel_rfl) (by kernel_rfl) (fun _ _ _ h => h) (by kernel_rfl) ?_ ?_
        rotate_left
        · (intro wS hSw K hK; have hRS := HS7.out.later (After.trans (After.drew (After.refl _)) hSw); obtain ⟨c0, c1, c2, -, -, -⟩ := row_facts hRS.board; have hco := HCo.out wS hRS; go_simp; go_at_call 28; refine (CD2.out _).mono ?_; rintro e wc' ⟨rfl, hbc⟩; exact hK.out _ hbc)
        try simp only [Act.put, List.getElem_toArray, List.getElem_cons_succ, List.getElem_cons_zero, List.setIfInBounds_toArray, List.set_cons_zero, List.set_cons_succ]
        refine Script.load (i := 14) (v := ?_) rfl (by kernel_rfl) (by kernel_rfl) (fun _ _ _ h => h) (by kernel_rfl) ?_ ?_
        rotate_left
        · (intro wS hSw; have hRS := HS7.out.later (After.trans (After.drew (After.refl _)) hSw); obtain ⟨c0, c1, c2, -, -, -⟩ := row_facts hRS.board; have hco := HCo.out wS hRS; go_simp; try with_reducible rfl)
        try simp only [Act.put, List.getElem_toArray, List.getElem_cons_succ, List.getElem_cons_zero, List.setIfInBounds_toArray, List.set_cons_zero, List.set_cons_succ]
        refine Script.load (i := 15) (v := ?_) rfl (by kernel_rfl) (by kernel_rfl) (fun _ _ _ h => h) (by kernel_rfl) ?_ ?_
        rotate_left
        · (intro wS hSw; have hRS := HS7.out.later (After.trans (After.drew (After.refl _)) hSw); obtain ⟨c0, c1, c2, -, -, -⟩ := row_facts hRS.board; have hco := HCo.out wS hRS; go_simp; try with_reducible rfl)
        try simp only [Act.put, List.getElem_toArray, List.getElem_cons_succ, List.getElem_cons_zero, List.setIfInBounds_toArray, List.set_cons_zero, List.set_cons_succ]
        refine Script.load (i := 16) (v := ?_) rfl (by kernel_rfl) (by kernel_rfl) (fun _ _ _ h => h) (by kernel_rfl) ?_ ?_
        rotate_left
        · (intro wS hSw; have hRS := HS7.out.later (After.trans (After.drew (After.refl _)) hSw); obtain ⟨c0, c1, c2, -, -, -⟩ := row_facts hRS.board; have hco := HCo.out wS hRS; go_simp; try with_reducible rfl)
        try simp only [Act.put, List.getElem_toArray, List.getElem_cons_succ, List.getElem_cons_zero, List.setIfInBounds_toArray, List.set_cons_zero, List.set_cons_succ]
        refine Script.load (i := 17) (v := ?_) rfl (by kernel_rfl) (by kernel_rfl) (fun _ _ _ h => h) (by kernel_rfl) ?_ ?_
        rotate_left
        · (intro wS hSw; have hRS := HS7.out.later (After.trans (After.drew (After.refl _)) hSw); obtain ⟨c0, c1, c2, -, -, -⟩ := row_facts hRS.board; have hco := HCo.out wS hRS; go_simp; try with_reducible rfl)
        try simp only [Act.put, List.getElem_toArray, List.getElem_cons_succ, List.getElem_cons_zero, List.setIfInBounds_toArray, List.set_cons_zero, List.set_cons_succ]
        refine Script.load (i := 18) (v := ?_) rfl (by kernel_rfl) (by kernel_rfl) (fun _ _ _ h => h) (by kernel_rfl) ?_ ?_
        rotate_left
        · (intro wS hSw; have hRS := HS7.out.later (After.trans (After.drew (After.refl _)) hSw); obtain ⟨c0, c1, c2, -, -, -⟩ := row_facts hRS.board; have hco := HCo.out wS hRS; go_simp; try with_reducible rfl)
        try simp only [Act.put, List.getElem_toArray, List.getElem_cons_succ, List.getElem_cons_zero, List.setIfInBounds_toArray, List.set_cons_zero, List.set_cons_succ]
        refine Script.load (i := 19) (v := ?_) rfl (by kernel_rfl) (by kernel_rfl) (fun _ _ _ h => h) (by kernel_rfl) ?_ ?_
        rotate_left
        · (intro wS hSw; have hRS := HS7.out.later (After.trans (After.drew (After.refl _)) hSw); obtain ⟨c0, c1, c2, -, -, -⟩ := row_facts hRS.board; have hco := HCo.out wS hRS; go_simp; try with_reducible rfl)
        try simp only [Act.put, List.getElem_toArray, List.getElem_cons_succ, List.getElem_cons_zero, List.setIfInBounds_toArray, List.set_cons_zero, List.set_cons_succ]
        refine Script.load (i := 20) (v := ?_) rfl (by kernel_rfl) (by kernel_rfl) (fun _ _ _ h => h) (by kernel_rfl) ?_ ?_
        rotate_left
        · (intro wS hSw; have hRS := HS7.out.later (After.trans (After.drew (After.refl _)) hSw); obtain ⟨c0, c1, c2, -, -, -⟩ := row_facts hRS.board; have hco := HCo.out wS hRS; go_simp; try with_reducible rfl)
        try simp only [Act.put, List.getElem_toArray, List.getElem_cons_succ, List.getElem_cons_zero, List.setIfInBounds_toArray, List.set_cons_zero, List.set_cons_succ]
        refine Script.load (i := 21) (v := ?_) rfl (by kernel_rfl) (by kernel_rfl) (fun _ _ _ h => h) (by kernel_rfl) ?_ ?_
        rotate_left
        · (intro wS hSw; have hRS := HS7.out.later (After.trans (After.drew (After.refl _)) hSw); obtain ⟨c0, c1, c2, -, -, -⟩ := row_facts hRS.board; have hco := HCo.out wS hRS; go_simp; try with_reducible rfl)
        try simp only [Act.put, List.getElem_toArray, List.getElem_cons_succ, List.getElem_cons_zero, List.setIfInBounds_toArray, List.set_cons_zero, List.set_cons_succ]
        refine Script.call (i := 22) (v := ?_) rfl (by kernel_rfl) (by kernel_rfl) (fun _ _ _ h => h) (by kernel_rfl) ?_ ?_
        rotate_left
        · (intro wS hSw K hK; have hRS := HS7.out.later (After.trans (After.drew (After.refl _)) hSw); obtain ⟨c0, c1, c2, -, -, -⟩ := row_facts hRS.board; have hco := HCo.out wS hRS; go_simp; go_at_call 29; refine (CG.out _).mono ?_; rintro e wc' ⟨rfl, hbc⟩; exact hK.out _ hbc)
        try simp only [Act.put, List.getElem_toArray, List.getElem_cons_succ, List.getElem_cons_zero, List.setIfInBounds_toArray, List.set_cons_zero, List.set_cons_succ]
        refine Script.load (i := 23) (v := ?_) rfl (by kernel_rfl) (by kernel_rfl) (fun _ _ _ h => h) (by kernel_rfl) ?_ ?_
        rotate_left
        · (intro wS hSw; have hRS := HS7.out.later (After.trans (After.drew (After.refl _)) hSw); obtain ⟨c0, c1, c2, -, -, -⟩ := row_facts hRS.board; have hco := HCo.out wS hRS; go_simp; try with_reducible rfl)
        try simp only [Act.put, List.getElem_toArray, List.getElem_cons_succ, List.getElem_cons_zero, List.setIfInBounds_toArray, List.set_cons_zero, List.set_cons_succ]
        refine Script.call (i := 24) (v := ?_) rfl (by kernel_rfl) (by kernel_rfl) (fun _ _ _ h => h) (by kernel_rfl) ?_ ?_
        rotate_left
        · (intro wS hSw K hK; have hRS := HS7.out.later (After.trans (After.drew (After.refl _)) hSw); obtain ⟨c0, c1, c2, -, -, -⟩ := row_facts hRS.board; have hco := HCo.out wS hRS; go_simp; go_at_call 30; refine (CP.out _).mono ?_; rintro e wc' ⟨rfl, hbc⟩; exact hK.out _ hbc)
        try simp only [Act.put, List.getElem_toArray, List.getElem_cons_succ, List.getElem_cons_zero, List.setIfInBounds_toArray, List.set_cons_zero, List.set_cons_succ]
        refine Script.load (i := 25) (v := ?_) rfl (by kernel_rfl) (by kernel_rfl) (fun _ _ _ h => h) (by kernel_rfl) ?_ ?_
        rotate_left
        · (intro wS hSw; have hRS := HS7.out.later (After.trans (After.drew (After.refl _)) hSw); obtain ⟨c0, c1, c2, -, -, -⟩ := row_facts hRS.board; have hco := HCo.out wS hRS; go_simp; try with_reducible rfl)
        try simp only [Act.put, List.getElem_toArray, List.getElem_cons_succ, List.getElem_cons_zero, List.setIfInBounds_toArray, List.set_cons_zero, List.set_cons_succ]
        refine Script.load (i := 26) (v := ?_) rfl (by kernel_rfl) (by kernel_rfl) (fun _ _ _ h => h) (by kernel_rfl) ?_ ?_
        rotate_left
        · (intro wS hSw; have hRS := HS7.out.later (After.trans (After.drew (After.refl _)) hSw); obtain ⟨c0, c1, c2, -, -, -⟩ := row_facts hRS.board; have hco := HCo.out wS hRS; go_simp; try with_reducible rfl)
        try simp only [Act.put, List.getElem_toArray, List.getElem_cons_succ, List.getElem_cons_zero, List.setIfInBounds_toArray, List.set_cons_zero, List.set_cons_succ]
        refine Script.load (i := 27) (v := ?_) rfl (by kernel_rfl) (by kernel_rfl) (fun _ _ _ h => h) (by kernel_rfl) ?_ ?_
        rotate_left
        · (intro wS hSw; have hRS := HS7.out.later (After.trans (After.drew (After.refl _)) hSw); obtain ⟨c0, c1, c2, -, -, -⟩ := row_facts hRS.board; have hco := HCo.out wS hRS; go_simp; try with_reducible rfl)
        try simp only [Act.put, List.getElem_toArray, List.getElem_cons_succ, List.getElem_cons_zero, List.setIfInBounds_toArray, List.set_cons_zero, List.set_cons_succ]
        refine Script.load (i := 28) (v := ?_) rfl (by kernel_rfl) (by kernel_rfl) (fun _ _ _ h => h) (by kernel_rfl) ?_ ?_
        rotate_left
        · (intro wS hSw; have hRS := HS7.out.later (After.trans (After.drew (After.refl _)) hSw); obtain ⟨c0, c1, c2, -, -, -⟩ := row_facts hRS.board; have hco := HCo.out wS hRS; go_simp; try with_reducible rfl)
        try simp only [Act.put, List.getElem_toArray, List.getElem_cons_succ, List.getElem_cons_zero, List.setIfInBounds_toArray, List.set_cons_zero, List.set_cons_succ]
        refine Script.load (i := 29) (v := ?_) rfl (by kernel_rfl) (by kernel_rfl) (fun _ _ _ h => h) (by kernel_rfl) ?_ ?_
        rotate_left
        · (intro wS hSw; have hRS := HS7.out.later (After.trans (After.drew (After.refl _)) hSw); obtain ⟨c0, c1, c2, -, -, -⟩ := row_facts hRS.board; have hco := HCo.out wS hRS; go_simp; try with_reducible rfl)
        try simp only [Act.put, List.getElem_toArray, List.getElem_cons_succ, List.getElem_cons_zero, List.setIfInBounds_toArray, List.set_cons_zero, List.set_cons_succ]
        refine Script.load (i := 30) (v := ?_) rfl (by kernel_rfl) (by kernel_rfl) (fun _ _ _ h => h) (by kernel_rfl) ?_ ?_
        rotate_left
        · (intro wS hSw; have hRS := HS7.out.later (After.trans (After.drew (After.refl _)) hSw); obtain ⟨c0, c1, c2, -, -, -⟩ := row_facts hRS.board; have hco := HCo.out wS hRS; go_simp; try with_reducible rfl)
        try simp only [Act.put, List.getElem_toArray, List.getElem_cons_succ, List.getElem_cons_zero, List.setIfInBounds_toArray, List.set_cons_zero, List.set_cons_succ]
        refine Script.load (i := 31) (v := ?_) rfl (by kernel_rfl) (by kernel_rfl) (fun _ _ _ h => h) (by kernel_rfl) ?_ ?_
        rotate_left
        · (intro wS hSw; have hRS := HS7.out.later (After.trans (After.drew (After.refl _)) hSw); obtain ⟨c0, c1, c2, -, -, -⟩ := row_facts hRS.board; have hco := HCo.out wS hRS; go_simp; try with_reducible rfl)
        try simp only [Act.put, List.getElem_toArray, List.getElem_cons_succ, List.getElem_cons_zero, List.setIfInBounds_toArray, List.set_cons_zero, List.set_cons_succ]
        refine Script.call (i := 32) (v := ?_) rfl (by kernel_rfl) (by kernel_rfl) (fun _ _ _ h => h) (by kernel_rfl) ?_ ?_
        rotate_left
        · (intro wS hSw K hK; have hRS := HS7.out.later (After.trans (After.drew (After.refl _)) hSw); obtain ⟨c0, c1, c2, -, -, -⟩ := row_facts hRS.board; have hco := HCo.out wS hRS; go_simp; go_at_call 25; refine (CO.out _).mono ?_; rintro e wc' ⟨rfl, hbc⟩; exact hK.out _ hbc)
        try simp only [Act.put, List.getElem_toArray, List.getElem_cons_succ, List.getElem_cons_zero, List.setIfInBounds_toArray, List.set_cons_zero, List.set_cons_succ]
        refine Script.load (i := 33) (v := ?_) rfl (by kernel_rfl) (by kernel_rfl) (fun _ _ _ h => h) (by kernel_rfl) ?_ ?_
        rotate_left
        · (intro wS hSw; have hRS := HS7.out.later (After.trans (After.drew (After.refl _)) hSw); obtain ⟨c0, c1, c2, -, -, -⟩ := row_facts hRS.board; have hco := HCo.out wS hRS; go_simp; try with_reducible rfl)
        try simp only [Act.put, List.getElem_toArray, List.getElem_cons_succ, List.getElem_cons_zero, List.setIfInBounds_toArray, List.set_cons_zero, List.set_cons_succ]
        refine Script.load (i := 34) (v := ?_) rfl (by kernel_rfl) (by kernel_rfl) (fun _ _ _ h => h) (by kernel_rfl) ?_ ?_
        rotate_left
        · (intro wS hSw; have hRS := HS7.out.later (After.trans (After.drew (After.refl _)) hSw); obtain ⟨c0, c1, c2, -, -, -⟩ := row_facts hRS.board; have hco := HCo.out wS hRS; go_simp; try with_reducible rfl)
        try simp only [Act.put, List.getElem_toArray, List.getElem_cons_succ, List.getElem_cons_zero, List.setIfInBounds_toArray, List.set_cons_zero, List.set_cons_succ]
        refine Script.load (i := 35) (v := ?_) rfl (by kernel_rfl) (by kernel_rfl) (fun _ _ _ h => h) (by kernel_rfl) ?_ ?_
        rotate_left
        · (intro wS hSw; have hRS := HS7.out.later (After.trans (After.drew (After.refl _)) hSw); obtain ⟨c0, c1, c2, -, -, -⟩ := row_facts hRS.board; have hco := HCo.out wS hRS; go_simp; try with_reducible rfl)
        try simp only [Act.put, List.getElem_toArray, List.getElem_cons_succ, List.getElem_cons_zero, List.setIfInBounds_toArray, List.set_cons_zero, List.set_cons_succ]
        refine Script.load (i := 36) (v := ?_) rfl (by kernel_rfl) (by kernel_rfl) (fun _ _ _ h => h) (by kernel_rfl) ?_ ?_
        rotate_left
        · (intro wS hSw; have hRS := HS7.out.later (After.trans (After.drew (After.refl _)) hSw); obtain ⟨c0, c1, c2, -, -, -⟩ := row_facts hRS.board; have hco := HCo.out wS hRS; go_simp; try with_reducible rfl)
        try simp only [Act.put, List.getElem_toArray, List.getElem_cons_succ, List.getElem_cons_zero, List.setIfInBounds_toArray, List.set_cons_zero, List.set_cons_succ]
        refine Script.load (i := 37) (v := ?_) rfl (by kernel_rfl) (by kernel_rfl) (fun _ _ _ h => h) (by kernel_rfl) ?_ ?_
        rotate_left
        · (intro wS hSw; have hRS := HS7.out.later (After.trans (After.drew (After.refl _)) hSw); obtain ⟨c0, c1, c2, -, -, -⟩ := row_facts hRS.board; have hco := HCo.out wS hRS; go_simp; try with_reducible rfl)
        try simp only [Act.put, List.getElem_toArray, List.getElem_cons_succ, List.getElem_cons_zero, List.setIfInBounds_toArray, List.set_cons_zero, List.set_cons_succ]
        refine Script.load (i := 38) (v := ?_) rfl (by kernel_rfl) (by kernel_rfl) (fun _ _ _ h => h) (by kernel_rfl) ?_ ?_
        rotate_left
        · (intro wS hSw; have hRS := HS7.out.later (After.trans (After.drew (After.refl _)) hSw); obtain ⟨c0, c1, c2, -, -, -⟩ := row_facts hRS.board; have hco := HCo.out wS hRS; go_simp; try with_reducible rfl)
        try simp only [Act.put, List.getElem_toArray, List.getElem_cons_succ, List.getElem_cons_zero, List.setIfInBounds_toArray, List.set_cons_zero, List.set_cons_succ]
        refine Script.load (i := 39) (v := ?_) rfl (by kernel_rfl) (by kernel_rfl) (fun _ _ _ h => h) (by kernel_rfl) ?_ ?_
        rotate_left
        · (intro wS hSw; have hRS := HS7.out.later (After.trans (After.drew (After.refl _)) hSw); obtain ⟨c0, c1, c2, -, -, -⟩ := row_facts hRS.board; have hco := HCo.out wS hRS; go_simp; try with_reducible rfl)
        try simp only [Act.put, List.getElem_toArray, List.getElem_cons_succ, List.getElem_cons_zero, List.setIfInBounds_toArray, List.set_cons_zero, List.set_cons_succ]
        refine Script.load (i := 40) (v := ?_) rfl (by kernel_rfl) (by kernel_rfl) (fun _ _ _ h => h) (by kernel_rfl) ?_ ?_
        rotate_left
        · (intro wS hSw; have hRS := HS7.out.later (After.trans (After.drew (After.refl _)) hSw); obtain ⟨c0, c1, c2, -, -, -⟩ := row_facts hRS.board; have hco := HCo.out wS hRS; go_simp; try with_reducible rfl)
        try simp only [Act.put, List.getElem_toArray, List.getElem_cons_succ, List.getElem_cons_zero, List.setIfInBounds_toArray, List.set_cons_zero, List.set_cons_succ]
        refine Script.call (i := 41) (v := ?_) rfl (by kernel_rfl) (by kernel_rfl) (fun _ _ _ h => h) (by kernel_rfl) ?_ ?_
        rotate_left
        · (intro wS hSw K hK; have hRS := HS7.out.later (After.trans (After.drew (After.refl _)) hSw); obtain ⟨c0, c1, c2, -, -, -⟩ := row_facts hRS.board; have hco := HCo.out wS hRS; go_simp; go_at_call 17; refine (CR2.out _).mono ?_; rintro e wc' ⟨rfl, hbc⟩; exact hK.out _ hbc)
        try simp only [Act.put, List.getElem_toArray, List.getElem_cons_succ, List.getElem_cons_zero, List.setIfInBounds_toArray, List.set_cons_zero, List.set_cons_succ]
        refine Script.load (i := 42) (v := ?_) rfl (by kernel_rfl) (by kernel_rfl) (fun _ _ _ h => h) (by kernel_rfl) ?_ ?_
        rotate_left
        · (intro wS hSw; have hRS := HS7.out.later (After.trans (After.drew (After.refl _)) hSw); obtain ⟨c0, c1, c2, -, -, -⟩ := row_facts hRS.board; have hco := HCo.out wS hRS; go_simp; try with_reducible rfl)
        try simp only [Act.put, List.getElem_toArray, List.getElem_cons_succ, List.getElem_cons_zero, List.setIfInBounds_toArray, List.set_cons_zero, List.set_cons_succ]
        refine Script.load (i := 43) (v := ?_) rfl (by kernel_rfl) (by kernel_rfl) (fun _ _ _ h => h) (by kernel_rfl) ?_ ?_
        rotate_left
        · (intro wS hSw; have hRS := HS7.out.later (After.trans (After.drew (After.refl _)) hSw); obtain ⟨c0, c1, c2, -, -, -⟩ := row_facts hRS.board; have hco := HCo.out wS hRS; go_simp; try with_reducible rfl)
        try simp only [Act.put, List.getElem_toArray, List.getElem_cons_succ, List.getElem_cons_zero, List.setIfInBounds_toArray, List.set_cons_zero, List.set_cons_succ]
        refine Script.load (i := 44) (v := ?_) rfl (by kernel_rfl) (by kernel_rfl) (fun _ _ _ h => h) (by kernel_rfl) ?_ ?_
        rotate_left
        · (intro wS hSw; have hRS := HS7.out.later (After.trans (After.drew (After.refl _)) hSw); obtain ⟨c0, c1, c2, -, -, -⟩ := row_facts hRS.board; have hco := HCo.out wS hRS; go_simp; try with_reducible rfl)
        try simp only [Act.put, List.getElem_toArray, List.getElem_cons_succ, List.getElem_cons_zero, List.setIfInBounds_toArray, List.set_cons_zero, List.set_cons_succ]
        refine Script.done (by kernel_rfl) ?_
        intro wD hD hG
        have HS8 := Lib.hid (HS7.out.later (After.trans (After.drew (After.refl _)) hD))
        clear hD hG HS7
        go_wp2_with fail
        go_ret
        exact ⟨rfl, HS8.out.below⟩
set_option maxRecDepth 100000 in
theorem walk_far {a0 : Option Addr} {len cap : Nat} (w : World) (h : 1048576 < len) :
    Calls Tryz.prog 4 #[.slice a0 len cap] w fun e w' => e = .returned (.bool true) ∧ Below w.heap.size w w' := by
  go_enter Tryz.func4, Tryz.ntmps4
  go_wp2_with fail
  refine (big_yes _ h).mono ?_
  rintro e w' ⟨rfl, rfl⟩
  go_wp2_with fail
  go_ret
  exact ⟨rfl, Below.refl _ _⟩
theorem walk (a0 : Option Addr) (len0 cap0 : Nat) (z0 : List Int) (w : World) (w0 : IsRow .u8 w a0 len0 cap0 z0) :
    Calls Tryz.prog 4 #[.slice a0 len0 cap0] w fun e w' => e = .returned (.bool true) ∧ Below w.heap.size w w' := by
  by_cases h2 : len0 ≤ 1048576
  · exact walk_in w (code_of w0 h2)
  · exact walk_far w (by omega)
set_option maxRecDepth 100000 in
theorem lifted (os : Os) (started : os.Started) (H : Type) (enc : TypeId × Value → H) :
    ReturnsInHanded {} Tryz.checked os 4 .any (Rows.fnGoldSumsSpec.pre6 enc Tryz.prog Tryz.f4 Rows.fnGoldSumsRow.domain false) (Rows.fnGoldSumsSpec.post enc Tryz.prog Tryz.f4 false true false false) := by
  refine returnsInHanded_of_change (C := Tryz.checked) own started (by kernel_rfl) Tryz.func4
    (ChangeSpec.witness6 (enc := enc) (C := Tryz.checked) false ⟨#[], #[.slice none 0 0], []⟩ 8 (by kernel_rfl) (by kernel_rfl) (by kernel_rfl) (by kernel_rfl)) ?_
  intro W base args ds gs before hval0 hW hcnd _
  have hval : ∀ (j : Nat) t v, Tryz.f4.params[j]? = some t → args[j]? = some v → Value.okWide Tryz.prog W .any base t v := hval0
  have hW' := hW
  obtain ⟨p, q, hA0, hV, rfl, hfz, hnd⟩ := hW
  have hA : DataW.TrodAll enc Tryz.prog W 0 (fun _ => true) true Tryz.f4.params.toList args.toList ds p := hA0
  rw [Tryz.params4] at hA hval
  obtain ⟨v0, vs0, d0, ds0, p0, q0, hargs, rfl, rfl, h0, r0⟩ := trodAll_cons hA
  obtain ⟨rfl, rfl, rfl⟩ := trodAll_nil r0
  obtain rfl : args = #[v0] := by cases args; simp_all
  obtain ⟨rfl, rfl⟩ := trodVars_none hV
  obtain ⟨a0, len0, cap0, rfl⟩ := okWide_slice Tryz.underlying22 (hval 0 22 v0 rfl rfl)
  have k0 := h0
  have lt0 : ∀ x ∈ p0, x.block < W.heap.size := by obtain ⟨m, hm⟩ := k0; exact DataW.trod_lt m _ _ _ hm
  obtain ⟨z0, w0⟩ : ∃ zs, IsRow .u8 W a0 len0 cap0 zs := by
    obtain ⟨fuel, hf⟩ := h0
    rcases open_ints Tryz.underlying22 Tryz.underlying5 (by kernel_rfl) hf with ⟨hcs, _⟩ | ⟨x, l, c, zs, hcs, _, hl, hm, hz, _, hcell, hwz⟩
    · simp [Value.cells] at hcs
      obtain ⟨rfl, rfl, rfl⟩ := hcs
      exact ⟨[], .inl ⟨rfl, rfl, rfl, rfl⟩⟩
    · simp [Value.cells] at hcs
      obtain ⟨rfl, rfl, rfl⟩ := hcs
      exact ⟨zs, .inr ⟨_, rfl, hl, hm, by simpa using hz, hcell, hwz⟩⟩
  clear hA0 hval0
  refine (walk a0 len0 cap0 z0 W w0).mono fun e W' ⟨he, bel⟩ => ?_
  subst he
  exact ⟨_, rfl, _, _, _, [], _, [], hW', trodAll_mk1 (shut_bool Tryz.underlying4 _), (trodAll_cons_mk (Below.trod laidOut (by kernel_rfl) (of_decide_eq_true (by kernel_rfl)) k0 bel lt0) trodAll_mk0), rfl, bel.frame _, fun h => by cases h⟩

theorem over : Rows.fnGoldSumsRow.holds Tryz.pinned (OpenSpec.ofChange Rows.fnGoldSumsSpec) :=
  OpenClaim.holds_of_wide 4 Tryz.f4 rfl rfl rfl rfl rfl rfl rfl ⟨rfl, rfl, rfl, rfl, rfl⟩ rfl rfl rfl rfl rfl (by kernel_rfl) Tryz.func4 (by kernel_rfl)
    (of_decide_eq_true (by kernel_rfl)) (by unfold Func.isWrapper; first | (rw [if_pos (by decide +kernel)]; kernel_rfl) | (rw [if_neg (by decide +kernel)]; exact ⟨rfl, rfl⟩))
    (fun os started H enc _ => lifted os started H enc)

theorem proved : Rows.FnGoldSumsSaid := over
end Go.Proofs.YtllfgdcplbfdhaaGreat.fnGoldSums
