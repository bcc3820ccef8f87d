/- The law FnJumps returns true for every code: each jump of a drawn position removes one peg and can be undone, and each undone jump can be played again; there are as many jumps and undone jumps as in the model; a row of three holes with two pegs has one jump. -/
import Derived.Test.YtpdhdogllejdbaaRows
import Derived.WalkKit
import Derived.WalkSpells
import Derived.ProofKit
import Derived.OpenShut
import Derived.ShutString
import Derived.ChangeOld
import Derived.Below
import Derived.Lib.Hide
import Derived.Lib.SmallJoins
import Derived.ChangeArms
import Derived.Test.YtpdhdogllejdbaaDraws
import Derived.Test.YtpdhdogllejdbaaJumps
namespace Go.Proofs.Ytpdhdogllejdbaa.fnJumps
open Go.ChangeShapes Go.WideShapes Go.ChangeAt Go.RowKit
open Go.ChangeMaps (open_string shut_string)
set_option linter.unusedVariables false
set_option linter.unusedSimpArgs false
theorem own : ownKnob Try.prog.godebug = none := by kernel_rfl
theorem laidOut : laidOutB Try.prog = true := by kernel_rfl
/-- What the walk is told of a slice of integers that came in. -/
def IsRow (k : IntKind) (w : World) (a : Option Addr) (len cap : Nat) (zs : List Int) : Prop :=
  (a = none ∧ len = 0 ∧ cap = 0 ∧ zs = []) ∨
  ∃ x, a = some x ∧ len ≤ cap ∧ cap ≤ maxLen ∧ zs.length = cap ∧ (∀ i, i < zs.length → w.cell? (x.add i) = some (.int k (zs.getD i 0))) ∧ ∀ n ∈ zs, (Lit.int k n).wf = true
theorem posB_flip {W H Z P : Int} {l : Ln} {a b N z p f o t : Nat} (S : Set5 W H Z P l a b N z p f o t) : posB W H Z (flipN p f o t : Nat) = true := by
  rw [S.eW, S.eH, S.eZ]
  exact pos_of S.ok (part_flip S.part S.at'.bf S.at'.bo S.at'.bt)
theorem set_flip {W H Z P : Int} {l : Ln} {a b N z p f o t : Nat} (S : Set5 W H Z P l a b N z p f o t) : Set5 W H Z (flipN p f o t : Nat) l a b N z (flipN p f o t) f o t :=
  ⟨S.eW, S.eH, S.eZ, rfl, S.ok, part_flip S.part S.at'.bf S.at'.bo S.at'.bt, S.at'⟩
theorem jump_parts {W H Z P : Int} {l : Ln} (h : jumpB W H Z P l = true) : posB W H Z P = true ∧ (lnsOf W H Z).contains l = true ∧ befL P l = true := by
  simp only [jumpB, Bool.and_eq_true] at h
  exact ⟨h.1.1, h.1.2, h.2⟩
theorem undo_parts {W H Z P : Int} {l : Ln} (h : undoB W H Z P l = true) : posB W H Z P = true ∧ (lnsOf W H Z).contains l = true ∧ aftL P l = true := by
  simp only [undoB, Bool.and_eq_true] at h
  exact ⟨h.1.1, h.1.2, h.2⟩
theorem flip_of {W H Z P : Int} {l : Ln} {a b N z p f o t : Nat} (S : Set5 W H Z P l a b N z p f o t) : flipL (flipN p f o t : Nat) l = P := by
  rw [(set_flip S).flip, flip_flip, S.eP]
theorem count_pos {W H Z : Int} {p : Nat} (h : posB W H Z p = true) : countB W H Z p = (pc 49 p : Nat) := by simp [countB, h]
/-- What is told of a jump. -/
theorem jump_facts {W H Z P : Int} {l : Ln} (h : jumpB W H Z P l = true) : ∃ x c : Nat, doB W H Z P l = ((x : Int), true) ∧ undoB W H Z x l = true ∧ backB W H Z x l = (P, true) ∧ undoB W H Z P l = false ∧
    countB W H Z x = (c : Int) ∧ countB W H Z P = ((c + 1 : Nat) : Int) ∧ c ≤ 49 ∧ x < 562949953421312 := by
  obtain ⟨a, b, N, z, p, f, o, t, S, hbef⟩ := jump_set h
  obtain ⟨h1, h2, h3⟩ := jump_parts h
  obtain ⟨hpb, hf, ho, ht⟩ := S.bounds
  have hu : undoB W H Z (flipN p f o t : Nat) l = true := by
    simp only [undoB, posB_flip S, h2, (set_flip S).aft, aft_flip hbef]; rfl
  have hpc := pc_flip S.at'.fo S.at'.ft S.at'.ot hf ho ht hbef
  refine ⟨flipN p f o t, pc 49 (flipN p f o t), ?_, hu, ?_, ?_, count_pos (posB_flip S), ?_, pc_le _ _, flip_big S⟩
  · rw [do_yes h, S.flip]
  · rw [back_yes hu, flip_of S]
  · simp only [undoB, h1, h2, S.aft, not_aft hbef]; rfl
  · rw [hpc, S.eP, count_pos (by rw [← S.eP]; exact h1)]
theorem undo_facts {W H Z P : Int} {l : Ln} (h : undoB W H Z P l = true) : ∃ x : Nat, backB W H Z P l = ((x : Int), true) ∧ doB W H Z x l = (P, true) ∧ x < 562949953421312 := by
  obtain ⟨a, b, N, z, p, f, o, t, S, haft⟩ := undo_set h
  obtain ⟨h1, h2, h3⟩ := undo_parts h
  have hu : jumpB W H Z (flipN p f o t : Nat) l = true := by
    simp only [jumpB, posB_flip S, h2, (set_flip S).bef, bef_flip haft]; rfl
  refine ⟨flipN p f o t, ?_, ?_, flip_big S⟩
  · rw [back_yes h, S.flip]
  · rw [do_yes hu, flip_of S]
theorem row_one : (jumpsL 3 1 7 3).length = 1 := by decide +kernel
theorem rect31 : rectZ 3 1 = (3, 1, 7) := by decide +kernel
set_option maxHeartbeats 8000000 in
set_option maxRecDepth 100000 in
theorem walk_in {a0 : Option Addr} {len cap : Nat} (w : World) (hcode : CodeAt w a0 len) :
    Calls Try.prog 5 #[.slice a0 len cap] w fun e w' => e = .returned (.bool true) ∧ Below w.heap.size w w' := by
  have HCO := Lib.hid hcode
  clear hcode
  go_enter Try.func5, Try.ntmps5
  go_wp2_with fail
  refine (big_no _ HCO.out.1).mono ?_
  rintro e w' ⟨rfl, rfl⟩
  go_wp2_with fail
  refine (drawPos w HCO.out).mono ?_
  rintro e w1 ⟨W, H, N, z, r, ho, hN16, hpr, rfl, hb1⟩
  unfold bd
  have hrb := hpr.big ho
  have hr63 : (r : Int) ≤ 9223372036854775807 := by omega
  have CJ := Lib.hid (fun w => implJumps W H z r hr63 w)
  have CU := Lib.hid (fun w => implUndos W H z r hr63 w)
  have SJ := Lib.hid (fun w => specJumps W H z r hr63 w)
  have SU := Lib.hid (fun w => specUndos W H z r hr63 w)
  have hlx := jumpsL_le W H z r
  have hly := undosL_le W H z r
  have MX : Hid (∀ l ∈ jumpsL W H z r, jumpB W H z r l = true) := fun l hl => jumpsL_mem.1 hl
  have MY : Hid (∀ l ∈ undosL W H z r, undoB W H z r l = true) := fun l hl => undosL_mem.1 hl
  obtain ⟨xs, hxs⟩ : ∃ xs, jumpsL W H z r = xs := ⟨_, rfl⟩
  obtain ⟨ys, hys⟩ : ∃ ys, undosL W H z r = ys := ⟨_, rfl⟩
  rw [hxs] at CJ SJ hlx MX
  rw [hys] at CU SU hly MY
  clear hxs hys ho hN16 hpr HCO
  obtain ⟨n, hn⟩ : ∃ n, xs.length = n := ⟨_, rfl⟩
  obtain ⟨m, hm⟩ : ∃ m, ys.length = m := ⟨_, rfl⟩
  have HN := Lib.hid hn
  have HM := Lib.hid hm
  rw [hn] at hlx
  rw [hm] at hly
  clear hn hm
  go_wp2_with fail
  have hb2 : Below w.heap.size w (w1.alloc (.cells #[.int .i64 W, .int .i64 H, .int .i64 z] 25)) := hb1.alloc hb1.size _
  have B0 := Lib.hid (box_newT 25 W H z w1)
  generalize w1.alloc (.cells #[.int .i64 W, .int .i64 H, .int .i64 (z : Int)] 25) = w2 at *
  obtain ⟨c0, c1, c2, hlt, hbw⟩ := B0.out
  generalize w1.heap.size = q at *
  go_wp2_with fail
  refine (CJ.out _).mono ?_
  rintro e w3 ⟨v, rfl, hh, hb3⟩
  rw [HN.out] at hh
  have B3 := Lib.hid (B0.out.later hb3)
  have HB3 := Lib.hid (hb2.trans (hb3.mono hb2.size))
  obtain ⟨ga, gc, rfl⟩ := lines_form hh
  have HX3 := Lib.hid hh
  clear hh B0 hb1 hb2 hb3 c0 c1 c2 hlt hbw CJ
  obtain ⟨c0, c1, c2, hlt, hbw⟩ := B3.out
  go_wp2_with fail
  refine (CU.out _).mono ?_
  rintro e w4 ⟨v, rfl, hh, hb4⟩
  rw [HM.out] at hh
  have B4 := Lib.hid (B3.out.later hb4)
  have HB4 := Lib.hid (HB3.out.trans (hb4.mono HB3.out.size))
  have HX4 := Lib.hid (own_below HX3.out hb4)
  obtain ⟨gb, gd, rfl⟩ := lines_form hh
  have HY4 := Lib.hid hh
  clear hh B3 HB3 HX3 hb4 c0 c1 c2 hlt hbw CU
  generalize w2.heap.size = q2 at *
  generalize w3.heap.size = q3 at *
  go_wp2_with fail
  go_loopw [7] (fun i wr => ∃ k : Nat, k ≤ n ∧ i = .int .i64 k ∧ Hid (Below w4.heap.size w4 wr)) (fun i _ => n - (intOf i).toNat)
  case atStart => exact ⟨0, by omega, rfl, Below.refl _ _⟩
  case round =>
    obtain ⟨k, hk, rfl, hw⟩ := hrel
    have B5 := Lib.hid (B4.out.later hw.out)
    by_cases hkn : k < n
    · obtain ⟨⟨f, o, t⟩, hl⟩ : ∃ l, xs[k]? = some l := ⟨_, List.getElem?_eq_getElem (by rw [HN.out]; exact hkn)⟩
      have k0 : (0 : Int) ≤ (k : Int) := by omega
      have k1 : (k : Int) < (n : Int) := by omega
      have hj := MX.out _ (List.mem_of_getElem? hl)
      obtain ⟨x, c, F1, F2, F3, F4, F5, F6, hc49, hxb⟩ := jump_facts hj
      have hx63 : (x : Int) ≤ 9223372036854775807 := by omega
      have K1 := Lib.hid (fun w => implDo W H z r f o t hr63 w)
      have K2 := Lib.hid (fun w => implBack W H z x f o t hx63 w)
      have K3 := Lib.hid (fun w => specPegs W H z x hx63 w)
      have K4 := Lib.hid (fun w => specPegs W H z r hr63 w)
      have K5 := Lib.hid (fun w => implCan W H z r f o t hr63 w)
      have K6 := Lib.hid (fun w => implCanU W H z x f o t hx63 w)
      have K7 := Lib.hid (fun w => implCanU W H z r f o t hr63 w)
      rw [F1] at K1
      rw [F3] at K2
      rw [F5] at K3
      obtain ⟨c1, hc1⟩ : ∃ c1, c + 1 = c1 := ⟨_, rfl⟩
      rw [F6, hc1] at K4
      have hwc : IntKind.i64.wrap ((c1 : Int) - 1) = (c : Int) := by rw [show (c1 : Int) - 1 = c by omega]; exact IntWalk.i64_in _ (by omega)
      clear hc1
      rw [hj] at K5
      rw [F2] at K6
      rw [F4] at K7
      clear hj F1 F2 F3 F4 F5 F6
      obtain ⟨g, rfl⟩ : ∃ g, ga = some ⟨g, 0, none⟩ := by
        rcases Go.Joins.ownsRow_forms HX4.out with ⟨h, h0⟩ | ⟨g, cap, h⟩
        · omega
        · injection h with h1 h2 h3; exact ⟨g, h1⟩
      have HX5 := Lib.hid (own_below HX4.out hw.out)
      have CE : Hid (∀ w' : World, w'.ownsRow q2 31 3 (.slice (some ⟨g, 0, none⟩) n gc) n (lv xs) → w'.cell? ⟨g, k * 3, none⟩ = some (.int .i64 f) ∧ w'.cell? ⟨g, k * 3 + 1, none⟩ = some (.int .i64 o) ∧ w'.cell? ⟨g, k * 3 + 2, none⟩ = some (.int .i64 t)) := fun w' hh => line_cells hh HN.out hl
      clear hl
      go_wp2_with fail
      refine wp_region_script (by kernel_rfl) (by kernel_rfl) ?_
      refine Script.load (i := 0) (v := ?_) rfl (by kernel_rfl) (by kernel_rfl) (fun _ _ _ h => h) (by kernel_rfl) ?_ ?_
      rotate_left
      · (intro wS hSw; obtain ⟨c0, c1, c2, -, -⟩ := B5.out.later (After.trans (After.drew (After.refl _)) hSw); obtain ⟨l0, l1, l2⟩ := CE.out _ (own_below HX5.out (After.trans (After.drew (After.refl _)) hSw)); go_simp; try with_reducible rfl)
      try simp only [Act.put, List.getElem_toArray, List.getElem_cons_succ, List.getElem_cons_zero, List.setIfInBounds_toArray, List.set_cons_zero, List.set_cons_succ]
      refine Script.load (i := 1) (v := ?_) rfl (by kernel_rfl) (by kernel_rfl) (fun _ _ _ h => h) (by kernel_rfl) ?_ ?_
      rotate_left
      · (intro wS hSw; obtain ⟨c0, c1, c2, -, -⟩ := B5.out.later (After.trans (After.drew (After.refl _)) hSw); obtain ⟨l0, l1, l2⟩ := CE.out _ (own_below HX5.out (After.trans (After.drew (After.refl _)) hSw)); go_simp; try with_reducible rfl)
      try simp only [Act.put, List.getElem_toArray, List.getElem_cons_succ, List.getElem_cons_zero, List.setIfInBounds_toArray, List.set_cons_zero, List.set_cons_succ]
      refine Script.load (i := 2) (v := ?_) rfl (by kernel_rfl) (by kernel_rfl) (fun _ _ _ h => h) (by kernel_rfl) ?_ ?_
      rotate_left
      · (intro wS hSw; obtain ⟨c0, c1, c2, -, -⟩ := B5.out.later (After.trans (After.drew (After.refl _)) hSw); obtain ⟨l0, l1, l2⟩ := CE.out _ (own_below HX5.out (After.trans (After.drew (After.refl _)) hSw)); go_simp; try with_reducible rfl)
      try simp only [Act.put, List.getElem_toArray, List.getElem_cons_succ, List.getElem_cons_zero, List.setIfInBounds_toArray, List.set_cons_zero, List.set_cons_succ]
      refine Script.load (i := 3) (v := ?_) rfl (by kernel_rfl) (by kernel_rfl) (fun _ _ _ h => h) (by kernel_rfl) ?_ ?_
      rotate_left
      · (intro wS hSw; obtain ⟨c0, c1, c2, -, -⟩ := B5.out.later (After.trans (After.drew (After.refl _)) hSw); obtain ⟨l0, l1, l2⟩ := CE.out _ (own_below HX5.out (After.trans (After.drew (After.refl _)) hSw)); go_simp; try with_reducible rfl)
      try simp only [Act.put, List.getElem_toArray, List.getElem_cons_succ, List.getElem_cons_zero, List.setIfInBounds_toArray, List.set_cons_zero, List.set_cons_succ]
      refine Script.load (i := 4) (v := ?_) rfl (by kernel_rfl) (by kernel_rfl) (fun _ _ _ h => h) (by kernel_rfl) ?_ ?_
      rotate_left
      · (intro wS hSw; obtain ⟨c0, c1, c2, -, -⟩ := B5.out.later (After.trans (After.drew (After.refl _)) hSw); obtain ⟨l0, l1, l2⟩ := CE.out _ (own_below HX5.out (After.trans (After.drew (After.refl _)) hSw)); go_simp; try with_reducible rfl)
      try simp only [Act.put, List.getElem_toArray, List.getElem_cons_succ, List.getElem_cons_zero, List.setIfInBounds_toArray, List.set_cons_zero, List.set_cons_succ]
      refine Script.load (i := 5) (v := ?_) rfl (by kernel_rfl) (by kernel_rfl) (fun _ _ _ h => h) (by kernel_rfl) ?_ ?_
      rotate_left
      · (intro wS hSw; obtain ⟨c0, c1, c2, -, -⟩ := B5.out.later (After.trans (After.drew (After.refl _)) hSw); obtain ⟨l0, l1, l2⟩ := CE.out _ (own_below HX5.out (After.trans (After.drew (After.refl _)) hSw)); go_simp; try with_reducible rfl)
      try simp only [Act.put, List.getElem_toArray, List.getElem_cons_succ, List.getElem_cons_zero, List.setIfInBounds_toArray, List.set_cons_zero, List.set_cons_succ]
      refine Script.call (i := 6) (v := ?_) rfl (by kernel_rfl) (by kernel_rfl) (fun _ _ _ h => h) (by kernel_rfl) ?_ ?_
      rotate_left
      · (intro wS hSw K hK; obtain ⟨c0, c1, c2, -, -⟩ := B5.out.later (After.trans (After.drew (After.refl _)) hSw); obtain ⟨l0, l1, l2⟩ := CE.out _ (own_below HX5.out (After.trans (After.drew (After.refl _)) hSw)); go_simp; go_at_call 36; refine (K1.out _).mono ?_; rintro e wc ⟨rfl, hbc⟩; exact hK.out _ hbc)
      try simp only [Act.put, List.getElem_toArray, List.getElem_cons_succ, List.getElem_cons_zero, List.setIfInBounds_toArray, List.set_cons_zero, List.set_cons_succ]
      refine Script.load (i := 7) (v := ?_) rfl (by kernel_rfl) (by kernel_rfl) (fun _ _ _ h => h) (by kernel_rfl) ?_ ?_
      rotate_left
      · (intro wS hSw; obtain ⟨c0, c1, c2, -, -⟩ := B5.out.later (After.trans (After.drew (After.refl _)) hSw); obtain ⟨l0, l1, l2⟩ := CE.out _ (own_below HX5.out (After.trans (After.drew (After.refl _)) hSw)); go_simp; try with_reducible rfl)
      try simp only [Act.put, List.getElem_toArray, List.getElem_cons_succ, List.getElem_cons_zero, List.setIfInBounds_toArray, List.set_cons_zero, List.set_cons_succ]
      refine Script.load (i := 8) (v := ?_) rfl (by kernel_rfl) (by kernel_rfl) (fun _ _ _ h => h) (by kernel_rfl) ?_ ?_
      rotate_left
      · (intro wS hSw; obtain ⟨c0, c1, c2, -, -⟩ := B5.out.later (After.trans (After.drew (After.refl _)) hSw); obtain ⟨l0, l1, l2⟩ := CE.out _ (own_below HX5.out (After.trans (After.drew (After.refl _)) hSw)); go_simp; try with_reducible rfl)
      try simp only [Act.put, List.getElem_toArray, List.getElem_cons_succ, List.getElem_cons_zero, List.setIfInBounds_toArray, List.set_cons_zero, List.set_cons_succ]
      refine Script.load (i := 9) (v := ?_) rfl (by kernel_rfl) (by kernel_rfl) (fun _ _ _ h => h) (by kernel_rfl) ?_ ?_
      rotate_left
      · (intro wS hSw; obtain ⟨c0, c1, c2, -, -⟩ := B5.out.later (After.trans (After.drew (After.refl _)) hSw); obtain ⟨l0, l1, l2⟩ := CE.out _ (own_below HX5.out (After.trans (After.drew (After.refl _)) hSw)); go_simp; try with_reducible rfl)
      try simp only [Act.put, List.getElem_toArray, List.getElem_cons_succ, List.getElem_cons_zero, List.setIfInBounds_toArray, List.set_cons_zero, List.set_cons_succ]
      refine Script.load (i := 10) (v := ?_) rfl (by kernel_rfl) (by kernel_rfl) (fun _ _ _ h => h) (by kernel_rfl) ?_ ?_
      rotate_left
      · (intro wS hSw; obtain ⟨c0, c1, c2, -, -⟩ := B5.out.later (After.trans (After.drew (After.refl _)) hSw); obtain ⟨l0, l1, l2⟩ := CE.out _ (own_below HX5.out (After.trans (After.drew (After.refl _)) hSw)); go_simp; try with_reducible rfl)
      try simp only [Act.put, List.getElem_toArray, List.getElem_cons_succ, List.getElem_cons_zero, List.setIfInBounds_toArray, List.set_cons_zero, List.set_cons_succ]
      refine Script.load (i := 11) (v := ?_) rfl (by kernel_rfl) (by kernel_rfl) (fun _ _ _ h => h) (by kernel_rfl) ?_ ?_
      rotate_left
      · (intro wS hSw; obtain ⟨c0, c1, c2, -, -⟩ := B5.out.later (After.trans (After.drew (After.refl _)) hSw); obtain ⟨l0, l1, l2⟩ := CE.out _ (own_below HX5.out (After.trans (After.drew (After.refl _)) hSw)); go_simp; try with_reducible rfl)
      try simp only [Act.put, List.getElem_toArray, List.getElem_cons_succ, List.getElem_cons_zero, List.setIfInBounds_toArray, List.set_cons_zero, List.set_cons_succ]
      refine Script.done (by kernel_rfl) ?_
      intro wD hD hG
      have hb6 := After.trans (After.drew (After.refl _)) hD
      have B6 := Lib.hid (B5.out.later hb6)
      have HX6 := Lib.hid (own_below HX5.out hb6)
      have hw6 := Lib.hid (hw.out.trans (hb6.mono hw.out.size))
      clear hD hG hb6 B5 HX5 hw
      go_wp2_with fail
      refine wp_region_script (by kernel_rfl) (by kernel_rfl) ?_
      refine Script.load (i := 0) (v := ?_) rfl (by kernel_rfl) (by kernel_rfl) (fun _ _ _ h => h) (by kernel_rfl) ?_ ?_
      rotate_left
      · (intro wS hSw; obtain ⟨c0, c1, c2, -, -⟩ := B6.out.later (After.trans (After.drew (After.refl _)) hSw); obtain ⟨l0, l1, l2⟩ := CE.out _ (own_below HX6.out (After.trans (After.drew (After.refl _)) hSw)); go_simp; try with_reducible rfl)
      try simp only [Act.put, List.getElem_toArray, List.getElem_cons_succ, List.getElem_cons_zero, List.setIfInBounds_toArray, List.set_cons_zero, List.set_cons_succ]
      refine Script.load (i := 1) (v := ?_) rfl (by kernel_rfl) (by kernel_rfl) (fun _ _ _ h => h) (by kernel_rfl) ?_ ?_
      rotate_left
      · (intro wS hSw; obtain ⟨c0, c1, c2, -, -⟩ := B6.out.later (After.trans (After.drew (After.refl _)) hSw); obtain ⟨l0, l1, l2⟩ := CE.out _ (own_below HX6.out (After.trans (After.drew (After.refl _)) hSw)); go_simp; try with_reducible rfl)
      try simp only [Act.put, List.getElem_toArray, List.getElem_cons_succ, List.getElem_cons_zero, List.setIfInBounds_toArray, List.set_cons_zero, List.set_cons_succ]
      refine Script.load (i := 2) (v := ?_) rfl (by kernel_rfl) (by kernel_rfl) (fun _ _ _ h => h) (by kernel_rfl) ?_ ?_
      rotate_left
      · (intro wS hSw; obtain ⟨c0, c1, c2, -, -⟩ := B6.out.later (After.trans (After.drew (After.refl _)) hSw); obtain ⟨l0, l1, l2⟩ := CE.out _ (own_below HX6.out (After.trans (After.drew (After.refl _)) hSw)); go_simp; try with_reducible rfl)
      try simp only [Act.put, List.getElem_toArray, List.getElem_cons_succ, List.getElem_cons_zero, List.setIfInBounds_toArray, List.set_cons_zero, List.set_cons_succ]
      refine Script.load (i := 3) (v := ?_) rfl (by kernel_rfl) (by kernel_rfl) (fun _ _ _ h => h) (by kernel_rfl) ?_ ?_
      rotate_left
      · (intro wS hSw; obtain ⟨c0, c1, c2, -, -⟩ := B6.out.later (After.trans (After.drew (After.refl _)) hSw); obtain ⟨l0, l1, l2⟩ := CE.out _ (own_below HX6.out (After.trans (After.drew (After.refl _)) hSw)); go_simp; try with_reducible rfl)
      try simp only [Act.put, List.getElem_toArray, List.getElem_cons_succ, List.getElem_cons_zero, List.setIfInBounds_toArray, List.set_cons_zero, List.set_cons_succ]
      refine Script.load (i := 4) (v := ?_) rfl (by kernel_rfl) (by kernel_rfl) (fun _ _ _ h => h) (by kernel_rfl) ?_ ?_
      rotate_left
      · (intro wS hSw; obtain ⟨c0, c1, c2, -, -⟩ := B6.out.later (After.trans (After.drew (After.refl _)) hSw); obtain ⟨l0, l1, l2⟩ := CE.out _ (own_below HX6.out (After.trans (After.drew (After.refl _)) hSw)); go_simp; try with_reducible rfl)
      try simp only [Act.put, List.getElem_toArray, List.getElem_cons_succ, List.getElem_cons_zero, List.setIfInBounds_toArray, List.set_cons_zero, List.set_cons_succ]
      refine Script.load (i := 5) (v := ?_) rfl (by kernel_rfl) (by kernel_rfl) (fun _ _ _ h => h) (by kernel_rfl) ?_ ?_
      rotate_left
      · (intro wS hSw; obtain ⟨c0, c1, c2, -, -⟩ := B6.out.later (After.trans (After.drew (After.refl _)) hSw); obtain ⟨l0, l1, l2⟩ := CE.out _ (own_below HX6.out (After.trans (After.drew (After.refl _)) hSw)); go_simp; try with_reducible rfl)
      try simp only [Act.put, List.getElem_toArray, List.getElem_cons_succ, List.getElem_cons_zero, List.setIfInBounds_toArray, List.set_cons_zero, List.set_cons_succ]
      refine Script.call (i := 6) (v := ?_) rfl (by kernel_rfl) (by kernel_rfl) (fun _ _ _ h => h) (by kernel_rfl) ?_ ?_
      rotate_left
      · (intro wS hSw K hK; obtain ⟨c0, c1, c2, -, -⟩ := B6.out.later (After.trans (After.drew (After.refl _)) hSw); obtain ⟨l0, l1, l2⟩ := CE.out _ (own_below HX6.out (After.trans (After.drew (After.refl _)) hSw)); go_simp; go_at_call 37; refine (K2.out _).mono ?_; rintro e wc ⟨rfl, hbc⟩; exact hK.out _ hbc)
      try simp only [Act.put, List.getElem_toArray, List.getElem_cons_succ, List.getElem_cons_zero, List.setIfInBounds_toArray, List.set_cons_zero, List.set_cons_succ]
      refine Script.load (i := 7) (v := ?_) rfl (by kernel_rfl) (by kernel_rfl) (fun _ _ _ h => h) (by kernel_rfl) ?_ ?_
      rotate_left
      · (intro wS hSw; obtain ⟨c0, c1, c2, -, -⟩ := B6.out.later (After.trans (After.drew (After.refl _)) hSw); obtain ⟨l0, l1, l2⟩ := CE.out _ (own_below HX6.out (After.trans (After.drew (After.refl _)) hSw)); go_simp; try with_reducible rfl)
      try simp only [Act.put, List.getElem_toArray, List.getElem_cons_succ, List.getElem_cons_zero, List.setIfInBounds_toArray, List.set_cons_zero, List.set_cons_succ]
      refine Script.load (i := 8) (v := ?_) rfl (by kernel_rfl) (by kernel_rfl) (fun _ _ _ h => h) (by kernel_rfl) ?_ ?_
      rotate_left
      · (intro wS hSw; obtain ⟨c0, c1, c2, -, -⟩ := B6.out.later (After.trans (After.drew (After.refl _)) hSw); obtain ⟨l0, l1, l2⟩ := CE.out _ (own_below HX6.out (After.trans (After.drew (After.refl _)) hSw)); go_simp; try with_reducible rfl)
      try simp only [Act.put, List.getElem_toArray, List.getElem_cons_succ, List.getElem_cons_zero, List.setIfInBounds_toArray, List.set_cons_zero, List.set_cons_succ]
      refine Script.load (i := 9) (v := ?_) rfl (by kernel_rfl) (by kernel_rfl) (fun _ _ _ h => h) (by kernel_rfl) ?_ ?_
      rotate_left
      · (intro wS hSw; obtain ⟨c0, c1, c2, -, -⟩ := B6.out.later (After.trans (After.drew (After.refl _)) hSw); obtain ⟨l0, l1, l2⟩ := CE.out _ (own_below HX6.out (After.trans (After.drew (After.refl _)) hSw)); go_simp; try with_reducible rfl)
      try simp only [Act.put, List.getElem_toArray, List.getElem_cons_succ, List.getElem_cons_zero, List.setIfInBounds_toArray, List.set_cons_zero, List.set_cons_succ]
      refine Script.load (i := 10) (v := ?_) rfl (by kernel_rfl) (by kernel_rfl) (fun _ _ _ h => h) (by kernel_rfl) ?_ ?_
      rotate_left
      · (intro wS hSw; obtain ⟨c0, c1, c2, -, -⟩ := B6.out.later (After.trans (After.drew (After.refl _)) hSw); obtain ⟨l0, l1, l2⟩ := CE.out _ (own_below HX6.out (After.trans (After.drew (After.refl _)) hSw)); go_simp; try with_reducible rfl)
      try simp only [Act.put, List.getElem_toArray, List.getElem_cons_succ, List.getElem_cons_zero, List.setIfInBounds_toArray, List.set_cons_zero, List.set_cons_succ]
      refine Script.load (i := 11) (v := ?_) rfl (by kernel_rfl) (by kernel_rfl) (fun _ _ _ h => h) (by kernel_rfl) ?_ ?_
      rotate_left
      · (intro wS hSw; obtain ⟨c0, c1, c2, -, -⟩ := B6.out.later (After.trans (After.drew (After.refl _)) hSw); obtain ⟨l0, l1, l2⟩ := CE.out _ (own_below HX6.out (After.trans (After.drew (After.refl _)) hSw)); go_simp; try with_reducible rfl)
      try simp only [Act.put, List.getElem_toArray, List.getElem_cons_succ, List.getElem_cons_zero, List.setIfInBounds_toArray, List.set_cons_zero, List.set_cons_succ]
      refine Script.done (by kernel_rfl) ?_
      intro wD hD hG
      have hb7 := After.trans (After.drew (After.refl _)) hD
      have B7 := Lib.hid (B6.out.later hb7)
      have HX7 := Lib.hid (own_below HX6.out hb7)
      have hw7 := Lib.hid (hw6.out.trans (hb7.mono hw6.out.size))
      clear hD hG hb7 B6 HX6 hw6
      go_wp2_with fail
      refine wp_region_script (by kernel_rfl) (by kernel_rfl) ?_
      refine Script.load (i := 0) (v := ?_) rfl (by kernel_rfl) (by kernel_rfl) (fun _ _ _ h => h) (by kernel_rfl) ?_ ?_
      rotate_left
      · (intro wS hSw; obtain ⟨c0, c1, c2, -, -⟩ := B7.out.later (After.trans (After.drew (After.refl _)) hSw); obtain ⟨l0, l1, l2⟩ := CE.out _ (own_below HX7.out (After.trans (After.drew (After.refl _)) hSw)); go_simp; try with_reducible rfl)
      try simp only [Act.put, List.getElem_toArray, List.getElem_cons_succ, List.getElem_cons_zero, List.setIfInBounds_toArray, List.set_cons_zero, List.set_cons_succ]
      refine Script.load (i := 1) (v := ?_) rfl (by kernel_rfl) (by kernel_rfl) (fun _ _ _ h => h) (by kernel_rfl) ?_ ?_
      rotate_left
      · (intro wS hSw; obtain ⟨c0, c1, c2, -, -⟩ := B7.out.later (After.trans (After.drew (After.refl _)) hSw); obtain ⟨l0, l1, l2⟩ := CE.out _ (own_below HX7.out (After.trans (After.drew (After.refl _)) hSw)); go_simp; try with_reducible rfl)
      try simp only [Act.put, List.getElem_toArray, List.getElem_cons_succ, List.getElem_cons_zero, List.setIfInBounds_toArray, List.set_cons_zero, List.set_cons_succ]
      refine Script.load (i := 2) (v := ?_) rfl (by kernel_rfl) (by kernel_rfl) (fun _ _ _ h => h) (by kernel_rfl) ?_ ?_
      rotate_left
      · (intro wS hSw; obtain ⟨c0, c1, c2, -, -⟩ := B7.out.later (After.trans (After.drew (After.refl _)) hSw); obtain ⟨l0, l1, l2⟩ := CE.out _ (own_below HX7.out (After.trans (After.drew (After.refl _)) hSw)); go_simp; try with_reducible rfl)
      try simp only [Act.put, List.getElem_toArray, List.getElem_cons_succ, List.getElem_cons_zero, List.setIfInBounds_toArray, List.set_cons_zero, List.set_cons_succ]
      refine Script.load (i := 3) (v := ?_) rfl (by kernel_rfl) (by kernel_rfl) (fun _ _ _ h => h) (by kernel_rfl) ?_ ?_
      rotate_left
      · (intro wS hSw; obtain ⟨c0, c1, c2, -, -⟩ := B7.out.later (After.trans (After.drew (After.refl _)) hSw); obtain ⟨l0, l1, l2⟩ := CE.out _ (own_below HX7.out (After.trans (After.drew (After.refl _)) hSw)); go_simp; try with_reducible rfl)
      try simp only [Act.put, List.getElem_toArray, List.getElem_cons_succ, List.getElem_cons_zero, List.setIfInBounds_toArray, List.set_cons_zero, List.set_cons_succ]
      refine Script.load (i := 4) (v := ?_) rfl (by kernel_rfl) (by kernel_rfl) (fun _ _ _ h => h) (by kernel_rfl) ?_ ?_
      rotate_left
      · (intro wS hSw; obtain ⟨c0, c1, c2, -, -⟩ := B7.out.later (After.trans (After.drew (After.refl _)) hSw); obtain ⟨l0, l1, l2⟩ := CE.out _ (own_below HX7.out (After.trans (After.drew (After.refl _)) hSw)); go_simp; try with_reducible rfl)
      try simp only [Act.put, List.getElem_toArray, List.getElem_cons_succ, List.getElem_cons_zero, List.setIfInBounds_toArray, List.set_cons_zero, List.set_cons_succ]
      refine Script.load (i := 5) (v := ?_) rfl (by kernel_rfl) (by kernel_rfl) (fun _ _ _ h => h) (by kernel_rfl) ?_ ?_
      rotate_left
      · (intro wS hSw; obtain ⟨c0, c1, c2, -, -⟩ := B7.out.later (After.trans (After.drew (After.refl _)) hSw); obtain ⟨l0, l1, l2⟩ := CE.out _ (own_below HX7.out (After.trans (After.drew (After.refl _)) hSw)); go_simp; try with_reducible rfl)
      try simp only [Act.put, List.getElem_toArray, List.getElem_cons_succ, List.getElem_cons_zero, List.setIfInBounds_toArray, List.set_cons_zero, List.set_cons_succ]
      refine Script.load (i := 6) (v := ?_) rfl (by kernel_rfl) (by kernel_rfl) (fun _ _ _ h => h) (by kernel_rfl) ?_ ?_
      rotate_left
      · (intro wS hSw; obtain ⟨c0, c1, c2, -, -⟩ := B7.out.later (After.trans (After.drew (After.refl _)) hSw); obtain ⟨l0, l1, l2⟩ := CE.out _ (own_below HX7.out (After.trans (After.drew (After.refl _)) hSw)); go_simp; try with_reducible rfl)
      try simp only [Act.put, List.getElem_toArray, List.getElem_cons_succ, List.getElem_cons_zero, List.setIfInBounds_toArray, List.set_cons_zero, List.set_cons_succ]
      refine Script.load (i := 7) (v := ?_) rfl (by kernel_rfl) (by kernel_rfl) (fun _ _ _ h => h) (by kernel_rfl) ?_ ?_
      rotate_left
      · (intro wS hSw; obtain ⟨c0, c1, c2, -, -⟩ := B7.out.later (After.trans (After.drew (After.refl _)) hSw); obtain ⟨l0, l1, l2⟩ := CE.out _ (own_below HX7.out (After.trans (After.drew (After.refl _)) hSw)); go_simp; try with_reducible rfl)
      try simp only [Act.put, List.getElem_toArray, List.getElem_cons_succ, List.getElem_cons_zero, List.setIfInBounds_toArray, List.set_cons_zero, List.set_cons_succ]
      refine Script.load (i := 8) (v := ?_) rfl (by kernel_rfl) (by kernel_rfl) (fun _ _ _ h => h) (by kernel_rfl) ?_ ?_
      rotate_left
      · (intro wS hSw; obtain ⟨c0, c1, c2, -, -⟩ := B7.out.later (After.trans (After.drew (After.refl _)) hSw); obtain ⟨l0, l1, l2⟩ := CE.out _ (own_below HX7.out (After.trans (After.drew (After.refl _)) hSw)); go_simp; try with_reducible rfl)
      try simp only [Act.put, List.getElem_toArray, List.getElem_cons_succ, List.getElem_cons_zero, List.setIfInBounds_toArray, List.set_cons_zero, List.set_cons_succ]
      refine Script.load (i := 9) (v := ?_) rfl (by kernel_rfl) (by kernel_rfl) (fun _ _ _ h => h) (by kernel_rfl) ?_ ?_
      rotate_left
      · (intro wS hSw; obtain ⟨c0, c1, c2, -, -⟩ := B7.out.later (After.trans (After.drew (After.refl _)) hSw); obtain ⟨l0, l1, l2⟩ := CE.out _ (own_below HX7.out (After.trans (After.drew (After.refl _)) hSw)); go_simp; try with_reducible rfl)
      try simp only [Act.put, List.getElem_toArray, List.getElem_cons_succ, List.getElem_cons_zero, List.setIfInBounds_toArray, List.set_cons_zero, List.set_cons_succ]
      refine Script.load (i := 10) (v := ?_) rfl (by kernel_rfl) (by kernel_rfl) (fun _ _ _ h => h) (by kernel_rfl) ?_ ?_
      rotate_left
      · (intro wS hSw; obtain ⟨c0, c1, c2, -, -⟩ := B7.out.later (After.trans (After.drew (After.refl _)) hSw); obtain ⟨l0, l1, l2⟩ := CE.out _ (own_below HX7.out (After.trans (After.drew (After.refl _)) hSw)); go_simp; try with_reducible rfl)
      try simp only [Act.put, List.getElem_toArray, List.getElem_cons_succ, List.getElem_cons_zero, List.setIfInBounds_toArray, List.set_cons_zero, List.set_cons_succ]
      refine Script.load (i := 11) (v := ?_) rfl (by kernel_rfl) (by kernel_rfl) (fun _ _ _ h => h) (by kernel_rfl) ?_ ?_
      rotate_left
      · (intro wS hSw; obtain ⟨c0, c1, c2, -, -⟩ := B7.out.later (After.trans (After.drew (After.refl _)) hSw); obtain ⟨l0, l1, l2⟩ := CE.out _ (own_below HX7.out (After.trans (After.drew (After.refl _)) hSw)); go_simp; try with_reducible rfl)
      try simp only [Act.put, List.getElem_toArray, List.getElem_cons_succ, List.getElem_cons_zero, List.setIfInBounds_toArray, List.set_cons_zero, List.set_cons_succ]
      refine Script.load (i := 12) (v := ?_) rfl (by kernel_rfl) (by kernel_rfl) (fun _ _ _ h => h) (by kernel_rfl) ?_ ?_
      rotate_left
      · (intro wS hSw; obtain ⟨c0, c1, c2, -, -⟩ := B7.out.later (After.trans (After.drew (After.refl _)) hSw); obtain ⟨l0, l1, l2⟩ := CE.out _ (own_below HX7.out (After.trans (After.drew (After.refl _)) hSw)); go_simp; try with_reducible rfl)
      try simp only [Act.put, List.getElem_toArray, List.getElem_cons_succ, List.getElem_cons_zero, List.setIfInBounds_toArray, List.set_cons_zero, List.set_cons_succ]
      refine Script.load (i := 13) (v := ?_) rfl (by kernel_rfl) (by kernel_rfl) (fun _ _ _ h => h) (by kernel_rfl) ?_ ?_
      rotate_left
      · (intro wS hSw; obtain ⟨c0, c1, c2, -, -⟩ := B7.out.later (After.trans (After.drew (After.refl _)) hSw); obtain ⟨l0, l1, l2⟩ := CE.out _ (own_below HX7.out (After.trans (After.drew (After.refl _)) hSw)); go_simp; try with_reducible rfl)
      try simp only [Act.put, List.getElem_toArray, List.getElem_cons_succ, List.getElem_cons_zero, List.setIfInBounds_toArray, List.set_cons_zero, List.set_cons_succ]
      refine Script.call (i := 14) (v := ?_) rfl (by kernel_rfl) (by kernel_rfl) (fun _ _ _ h => h) (by kernel_rfl) ?_ ?_
      rotate_left
      · (intro wS hSw K hK; obtain ⟨c0, c1, c2, -, -⟩ := B7.out.later (After.trans (After.drew (After.refl _)) hSw); obtain ⟨l0, l1, l2⟩ := CE.out _ (own_below HX7.out (After.trans (After.drew (After.refl _)) hSw)); go_simp; go_at_call 38; refine (K3.out _).mono ?_; rintro e wc ⟨rfl, hbc⟩; exact hK.out _ hbc)
      try simp only [Act.put, List.getElem_toArray, List.getElem_cons_succ, List.getElem_cons_zero, List.setIfInBounds_toArray, List.set_cons_zero, List.set_cons_succ]
      refine Script.load (i := 15) (v := ?_) rfl (by kernel_rfl) (by kernel_rfl) (fun _ _ _ h => h) (by kernel_rfl) ?_ ?_
      rotate_left
      · (intro wS hSw; obtain ⟨c0, c1, c2, -, -⟩ := B7.out.later (After.trans (After.drew (After.refl _)) hSw); obtain ⟨l0, l1, l2⟩ := CE.out _ (own_below HX7.out (After.trans (After.drew (After.refl _)) hSw)); go_simp; try with_reducible rfl)
      try simp only [Act.put, List.getElem_toArray, List.getElem_cons_succ, List.getElem_cons_zero, List.setIfInBounds_toArray, List.set_cons_zero, List.set_cons_succ]
      refine Script.load (i := 16) (v := ?_) rfl (by kernel_rfl) (by kernel_rfl) (fun _ _ _ h => h) (by kernel_rfl) ?_ ?_
      rotate_left
      · (intro wS hSw; obtain ⟨c0, c1, c2, -, -⟩ := B7.out.later (After.trans (After.drew (After.refl _)) hSw); obtain ⟨l0, l1, l2⟩ := CE.out _ (own_below HX7.out (After.trans (After.drew (After.refl _)) hSw)); go_simp; try with_reducible rfl)
      try simp only [Act.put, List.getElem_toArray, List.getElem_cons_succ, List.getElem_cons_zero, List.setIfInBounds_toArray, List.set_cons_zero, List.set_cons_succ]
      refine Script.call (i := 17) (v := ?_) rfl (by kernel_rfl) (by kernel_rfl) (fun _ _ _ h => h) (by kernel_rfl) ?_ ?_
      rotate_left
      · (intro wS hSw K hK; obtain ⟨c0, c1, c2, -, -⟩ := B7.out.later (After.trans (After.drew (After.refl _)) hSw); obtain ⟨l0, l1, l2⟩ := CE.out _ (own_below HX7.out (After.trans (After.drew (After.refl _)) hSw)); go_simp; go_at_call 38; refine (K4.out _).mono ?_; rintro e wc ⟨rfl, hbc⟩; exact hK.out _ hbc)
      try simp only [Act.put, List.getElem_toArray, List.getElem_cons_succ, List.getElem_cons_zero, List.setIfInBounds_toArray, List.set_cons_zero, List.set_cons_succ]
      refine Script.load (i := 18) (v := ?_) rfl (by kernel_rfl) (by kernel_rfl) (fun _ _ _ h => h) (by kernel_rfl) ?_ ?_
      rotate_left
      · (intro wS hSw; obtain ⟨c0, c1, c2, -, -⟩ := B7.out.later (After.trans (After.drew (After.refl _)) hSw); obtain ⟨l0, l1, l2⟩ := CE.out _ (own_below HX7.out (After.trans (After.drew (After.refl _)) hSw)); go_simp; try with_reducible rfl)
      try simp only [Act.put, List.getElem_toArray, List.getElem_cons_succ, List.getElem_cons_zero, List.setIfInBounds_toArray, List.set_cons_zero, List.set_cons_succ]
      refine Script.load (i := 19) (v := ?_) rfl (by kernel_rfl) (by kernel_rfl) (fun _ _ _ h => h) (by kernel_rfl) ?_ ?_
      rotate_left
      · (intro wS hSw; obtain ⟨c0, c1, c2, -, -⟩ := B7.out.later (After.trans (After.drew (After.refl _)) hSw); obtain ⟨l0, l1, l2⟩ := CE.out _ (own_below HX7.out (After.trans (After.drew (After.refl _)) hSw)); go_simp; try with_reducible rfl)
      try simp only [Act.put, List.getElem_toArray, List.getElem_cons_succ, List.getElem_cons_zero, List.setIfInBounds_toArray, List.set_cons_zero, List.set_cons_succ]
      refine Script.load (i := 20) (v := ?_) rfl (by kernel_rfl) (by kernel_rfl) (fun _ _ _ h => h) (by kernel_rfl) ?_ ?_
      rotate_left
      · (intro wS hSw; obtain ⟨c0, c1, c2, -, -⟩ := B7.out.later (After.trans (After.drew (After.refl _)) hSw); obtain ⟨l0, l1, l2⟩ := CE.out _ (own_below HX7.out (After.trans (After.drew (After.refl _)) hSw)); go_simp; try with_reducible rfl)
      try simp only [Act.put, List.getElem_toArray, List.getElem_cons_succ, List.getElem_cons_zero, List.setIfInBounds_toArray, List.set_cons_zero, List.set_cons_succ]
      refine Script.load (i := 21) (v := ?_) rfl (by kernel_rfl) (by kernel_rfl) (fun _ _ _ h => h) (by kernel_rfl) ?_ ?_
      rotate_left
      · (intro wS hSw; obtain ⟨c0, c1, c2, -, -⟩ := B7.out.later (After.trans (After.drew (After.refl _)) hSw); obtain ⟨l0, l1, l2⟩ := CE.out _ (own_below HX7.out (After.trans (After.drew (After.refl _)) hSw)); go_simp; try with_reducible rfl)
      try simp only [Act.put, List.getElem_toArray, List.getElem_cons_succ, List.getElem_cons_zero, List.setIfInBounds_toArray, List.set_cons_zero, List.set_cons_succ]
      refine Script.load (i := 22) (v := ?_) rfl (by kernel_rfl) (by kernel_rfl) (fun _ _ _ h => h) (by kernel_rfl) ?_ ?_
      rotate_left
      · (intro wS hSw; obtain ⟨c0, c1, c2, -, -⟩ := B7.out.later (After.trans (After.drew (After.refl _)) hSw); obtain ⟨l0, l1, l2⟩ := CE.out _ (own_below HX7.out (After.trans (After.drew (After.refl _)) hSw)); go_simp; try with_reducible rfl)
      try simp only [Act.put, List.getElem_toArray, List.getElem_cons_succ, List.getElem_cons_zero, List.setIfInBounds_toArray, List.set_cons_zero, List.set_cons_succ]
      refine Script.load (i := 23) (v := ?_) rfl (by kernel_rfl) (by kernel_rfl) (fun _ _ _ h => h) (by kernel_rfl) ?_ ?_
      rotate_left
      · (intro wS hSw; obtain ⟨c0, c1, c2, -, -⟩ := B7.out.later (After.trans (After.drew (After.refl _)) hSw); obtain ⟨l0, l1, l2⟩ := CE.out _ (own_below HX7.out (After.trans (After.drew (After.refl _)) hSw)); go_simp; try with_reducible rfl)
      try simp only [Act.put, List.getElem_toArray, List.getElem_cons_succ, List.getElem_cons_zero, List.setIfInBounds_toArray, List.set_cons_zero, List.set_cons_succ]
      refine Script.load (i := 24) (v := ?_) rfl (by kernel_rfl) (by kernel_rfl) (fun _ _ _ h => h) (by kernel_rfl) ?_ ?_
      rotate_left
      · (intro wS hSw; obtain ⟨c0, c1, c2, -, -⟩ := B7.out.later (After.trans (After.drew (After.refl _)) hSw); obtain ⟨l0, l1, l2⟩ := CE.out _ (own_below HX7.out (After.trans (After.drew (After.refl _)) hSw)); go_simp; try with_reducible rfl)
      try simp only [Act.put, List.getElem_toArray, List.getElem_cons_succ, List.getElem_cons_zero, List.setIfInBounds_toArray, List.set_cons_zero, List.set_cons_succ]
      refine Script.load (i := 25) (v := ?_) rfl (by kernel_rfl) (by kernel_rfl) (fun _ _ _ h => h) (by kernel_rfl) ?_ ?_
      rotate_left
      · (intro wS hSw; obtain ⟨c0, c1, c2, -, -⟩ := B7.out.later (After.trans (After.drew (After.refl _)) hSw); obtain ⟨l0, l1, l2⟩ := CE.out _ (own_below HX7.out (After.trans (After.drew (After.refl _)) hSw)); go_simp; try with_reducible rfl)
      try simp only [Act.put, List.getElem_toArray, List.getElem_cons_succ, List.getElem_cons_zero, List.setIfInBounds_toArray, List.set_cons_zero, List.set_cons_succ]
      refine Script.load (i := 26) (v := ?_) rfl (by kernel_rfl) (by kernel_rfl) (fun _ _ _ h => h) (by kernel_rfl) ?_ ?_
      rotate_left
      · (intro wS hSw; obtain ⟨c0, c1, c2, -, -⟩ := B7.out.later (After.trans (After.drew (After.refl _)) hSw); obtain ⟨l0, l1, l2⟩ := CE.out _ (own_below HX7.out (After.trans (After.drew (After.refl _)) hSw)); go_simp; try with_reducible rfl)
      try simp only [Act.put, List.getElem_toArray, List.getElem_cons_succ, List.getElem_cons_zero, List.setIfInBounds_toArray, List.set_cons_zero, List.set_cons_succ]
      refine Script.load (i := 27) (v := ?_) rfl (by kernel_rfl) (by kernel_rfl) (fun _ _ _ h => h) (by kernel_rfl) ?_ ?_
      rotate_left
      · (intro wS hSw; obtain ⟨c0, c1, c2, -, -⟩ := B7.out.later (After.trans (After.drew (After.refl _)) hSw); obtain ⟨l0, l1, l2⟩ := CE.out _ (own_below HX7.out (After.trans (After.drew (After.refl _)) hSw)); go_simp; try with_reducible rfl)
      try simp only [Act.put, List.getElem_toArray, List.getElem_cons_succ, List.getElem_cons_zero, List.setIfInBounds_toArray, List.set_cons_zero, List.set_cons_succ]
      refine Script.call (i := 28) (v := ?_) rfl (by kernel_rfl) (by kernel_rfl) (fun _ _ _ h => h) (by kernel_rfl) ?_ ?_
      rotate_left
      · (intro wS hSw K hK; obtain ⟨c0, c1, c2, -, -⟩ := B7.out.later (After.trans (After.drew (After.refl _)) hSw); obtain ⟨l0, l1, l2⟩ := CE.out _ (own_below HX7.out (After.trans (After.drew (After.refl _)) hSw)); go_simp; go_at_call 39; refine (K5.out _).mono ?_; rintro e wc ⟨rfl, hbc⟩; exact hK.out _ hbc)
      try simp only [Act.put, List.getElem_toArray, List.getElem_cons_succ, List.getElem_cons_zero, List.setIfInBounds_toArray, List.set_cons_zero, List.set_cons_succ]
      refine Script.load (i := 29) (v := ?_) rfl (by kernel_rfl) (by kernel_rfl) (fun _ _ _ h => h) (by kernel_rfl) ?_ ?_
      rotate_left
      · (intro wS hSw; obtain ⟨c0, c1, c2, -, -⟩ := B7.out.later (After.trans (After.drew (After.refl _)) hSw); obtain ⟨l0, l1, l2⟩ := CE.out _ (own_below HX7.out (After.trans (After.drew (After.refl _)) hSw)); go_simp; try with_reducible rfl)
      try simp only [Act.put, List.getElem_toArray, List.getElem_cons_succ, List.getElem_cons_zero, List.setIfInBounds_toArray, List.set_cons_zero, List.set_cons_succ]
      refine Script.load (i := 30) (v := ?_) rfl (by kernel_rfl) (by kernel_rfl) (fun _ _ _ h => h) (by kernel_rfl) ?_ ?_
      rotate_left
      · (intro wS hSw; obtain ⟨c0, c1, c2, -, -⟩ := B7.out.later (After.trans (After.drew (After.refl _)) hSw); obtain ⟨l0, l1, l2⟩ := CE.out _ (own_below HX7.out (After.trans (After.drew (After.refl _)) hSw)); go_simp; try with_reducible rfl)
      try simp only [Act.put, List.getElem_toArray, List.getElem_cons_succ, List.getElem_cons_zero, List.setIfInBounds_toArray, List.set_cons_zero, List.set_cons_succ]
      refine Script.load (i := 31) (v := ?_) rfl (by kernel_rfl) (by kernel_rfl) (fun _ _ _ h => h) (by kernel_rfl) ?_ ?_
      rotate_left
      · (intro wS hSw; obtain ⟨c0, c1, c2, -, -⟩ := B7.out.later (After.trans (After.drew (After.refl _)) hSw); obtain ⟨l0, l1, l2⟩ := CE.out _ (own_below HX7.out (After.trans (After.drew (After.refl _)) hSw)); go_simp; try with_reducible rfl)
      try simp only [Act.put, List.getElem_toArray, List.getElem_cons_succ, List.getElem_cons_zero, List.setIfInBounds_toArray, List.set_cons_zero, List.set_cons_succ]
      refine Script.load (i := 32) (v := ?_) rfl (by kernel_rfl) (by kernel_rfl) (fun _ _ _ h => h) (by kernel_rfl) ?_ ?_
      rotate_left
      · (intro wS hSw; obtain ⟨c0, c1, c2, -, -⟩ := B7.out.later (After.trans (After.drew (After.refl _)) hSw); obtain ⟨l0, l1, l2⟩ := CE.out _ (own_below HX7.out (After.trans (After.drew (After.refl _)) hSw)); go_simp; try with_reducible rfl)
      try simp only [Act.put, List.getElem_toArray, List.getElem_cons_succ, List.getElem_cons_zero, List.setIfInBounds_toArray, List.set_cons_zero, List.set_cons_succ]
      refine Script.load (i := 33) (v := ?_) rfl (by kernel_rfl) (by kernel_rfl) (fun _ _ _ h => h) (by kernel_rfl) ?_ ?_
      rotate_left
      · (intro wS hSw; obtain ⟨c0, c1, c2, -, -⟩ := B7.out.later (After.trans (After.drew (After.refl _)) hSw); obtain ⟨l0, l1, l2⟩ := CE.out _ (own_below HX7.out (After.trans (After.drew (After.refl _)) hSw)); go_simp; try with_reducible rfl)
      try simp only [Act.put, List.getElem_toArray, List.getElem_cons_succ, List.getElem_cons_zero, List.setIfInBounds_toArray, List.set_cons_zero, List.set_cons_succ]
      refine Script.load (i := 34) (v := ?_) rfl (by kernel_rfl) (by kernel_rfl) (fun _ _ _ h => h) (by kernel_rfl) ?_ ?_
      rotate_left
      · (intro wS hSw; obtain ⟨c0, c1, c2, -, -⟩ := B7.out.later (After.trans (After.drew (After.refl _)) hSw); obtain ⟨l0, l1, l2⟩ := CE.out _ (own_below HX7.out (After.trans (After.drew (After.refl _)) hSw)); go_simp; try with_reducible rfl)
      try simp only [Act.put, List.getElem_toArray, List.getElem_cons_succ, List.getElem_cons_zero, List.setIfInBounds_toArray, List.set_cons_zero, List.set_cons_succ]
      refine Script.load (i := 35) (v := ?_) rfl (by kernel_rfl) (by kernel_rfl) (fun _ _ _ h => h) (by kernel_rfl) ?_ ?_
      rotate_left
      · (intro wS hSw; obtain ⟨c0, c1, c2, -, -⟩ := B7.out.later (After.trans (After.drew (After.refl _)) hSw); obtain ⟨l0, l1, l2⟩ := CE.out _ (own_below HX7.out (After.trans (After.drew (After.refl _)) hSw)); go_simp; try with_reducible rfl)
      try simp only [Act.put, List.getElem_toArray, List.getElem_cons_succ, List.getElem_cons_zero, List.setIfInBounds_toArray, List.set_cons_zero, List.set_cons_succ]
      refine Script.load (i := 36) (v := ?_) rfl (by kernel_rfl) (by kernel_rfl) (fun _ _ _ h => h) (by kernel_rfl) ?_ ?_
      rotate_left
      · (intro wS hSw; obtain ⟨c0, c1, c2, -, -⟩ := B7.out.later (After.trans (After.drew (After.refl _)) hSw); obtain ⟨l0, l1, l2⟩ := CE.out _ (own_below HX7.out (After.trans (After.drew (After.refl _)) hSw)); go_simp; try with_reducible rfl)
      try simp only [Act.put, List.getElem_toArray, List.getElem_cons_succ, List.getElem_cons_zero, List.setIfInBounds_toArray, List.set_cons_zero, List.set_cons_succ]
      refine Script.load (i := 37) (v := ?_) rfl (by kernel_rfl) (by kernel_rfl) (fun _ _ _ h => h) (by kernel_rfl) ?_ ?_
      rotate_left
      · (intro wS hSw; obtain ⟨c0, c1, c2, -, -⟩ := B7.out.later (After.trans (After.drew (After.refl _)) hSw); obtain ⟨l0, l1, l2⟩ := CE.out _ (own_below HX7.out (After.trans (After.drew (After.refl _)) hSw)); go_simp; try with_reducible rfl)
      try simp only [Act.put, List.getElem_toArray, List.getElem_cons_succ, List.getElem_cons_zero, List.setIfInBounds_toArray, List.set_cons_zero, List.set_cons_succ]
      refine Script.call (i := 38) (v := ?_) rfl (by kernel_rfl) (by kernel_rfl) (fun _ _ _ h => h) (by kernel_rfl) ?_ ?_
      rotate_left
      · (intro wS hSw K hK; obtain ⟨c0, c1, c2, -, -⟩ := B7.out.later (After.trans (After.drew (After.refl _)) hSw); obtain ⟨l0, l1, l2⟩ := CE.out _ (own_below HX7.out (After.trans (After.drew (After.refl _)) hSw)); go_simp; go_at_call 40; refine (K6.out _).mono ?_; rintro e wc ⟨rfl, hbc⟩; exact hK.out _ hbc)
      try simp only [Act.put, List.getElem_toArray, List.getElem_cons_succ, List.getElem_cons_zero, List.setIfInBounds_toArray, List.set_cons_zero, List.set_cons_succ]
      refine Script.load (i := 39) (v := ?_) rfl (by kernel_rfl) (by kernel_rfl) (fun _ _ _ h => h) (by kernel_rfl) ?_ ?_
      rotate_left
      · (intro wS hSw; obtain ⟨c0, c1, c2, -, -⟩ := B7.out.later (After.trans (After.drew (After.refl _)) hSw); obtain ⟨l0, l1, l2⟩ := CE.out _ (own_below HX7.out (After.trans (After.drew (After.refl _)) hSw)); go_simp; try with_reducible rfl)
      try simp only [Act.put, List.getElem_toArray, List.getElem_cons_succ, List.getElem_cons_zero, List.setIfInBounds_toArray, List.set_cons_zero, List.set_cons_succ]
      refine Script.load (i := 40) (v := ?_) rfl (by kernel_rfl) (by kernel_rfl) (fun _ _ _ h => h) (by kernel_rfl) ?_ ?_
      rotate_left
      · (intro wS hSw; obtain ⟨c0, c1, c2, -, -⟩ := B7.out.later (After.trans (After.drew (After.refl _)) hSw); obtain ⟨l0, l1, l2⟩ := CE.out _ (own_below HX7.out (After.trans (After.drew (After.refl _)) hSw)); go_simp; try with_reducible rfl)
      try simp only [Act.put, List.getElem_toArray, List.getElem_cons_succ, List.getElem_cons_zero, List.setIfInBounds_toArray, List.set_cons_zero, List.set_cons_succ]
      refine Script.load (i := 41) (v := ?_) rfl (by kernel_rfl) (by kernel_rfl) (fun _ _ _ h => h) (by kernel_rfl) ?_ ?_
      rotate_left
      · (intro wS hSw; obtain ⟨c0, c1, c2, -, -⟩ := B7.out.later (After.trans (After.drew (After.refl _)) hSw); obtain ⟨l0, l1, l2⟩ := CE.out _ (own_below HX7.out (After.trans (After.drew (After.refl _)) hSw)); go_simp; try with_reducible rfl)
      try simp only [Act.put, List.getElem_toArray, List.getElem_cons_succ, List.getElem_cons_zero, List.setIfInBounds_toArray, List.set_cons_zero, List.set_cons_succ]
      refine Script.load (i := 42) (v := ?_) rfl (by kernel_rfl) (by kernel_rfl) (fun _ _ _ h => h) (by kernel_rfl) ?_ ?_
      rotate_left
      · (intro wS hSw; obtain ⟨c0, c1, c2, -, -⟩ := B7.out.later (After.trans (After.drew (After.refl _)) hSw); obtain ⟨l0, l1, l2⟩ := CE.out _ (own_below HX7.out (After.trans (After.drew (After.refl _)) hSw)); go_simp; try with_reducible rfl)
      try simp only [Act.put, List.getElem_toArray, List.getElem_cons_succ, List.getElem_cons_zero, List.setIfInBounds_toArray, List.set_cons_zero, List.set_cons_succ]
      refine Script.load (i := 43) (v := ?_) rfl (by kernel_rfl) (by kernel_rfl) (fun _ _ _ h => h) (by kernel_rfl) ?_ ?_
      rotate_left
      · (intro wS hSw; obtain ⟨c0, c1, c2, -, -⟩ := B7.out.later (After.trans (After.drew (After.refl _)) hSw); obtain ⟨l0, l1, l2⟩ := CE.out _ (own_below HX7.out (After.trans (After.drew (After.refl _)) hSw)); go_simp; try with_reducible rfl)
      try simp only [Act.put, List.getElem_toArray, List.getElem_cons_succ, List.getElem_cons_zero, List.setIfInBounds_toArray, List.set_cons_zero, List.set_cons_succ]
      refine Script.load (i := 44) (v := ?_) rfl (by kernel_rfl) (by kernel_rfl) (fun _ _ _ h => h) (by kernel_rfl) ?_ ?_
      rotate_left
      · (intro wS hSw; obtain ⟨c0, c1, c2, -, -⟩ := B7.out.later (After.trans (After.drew (After.refl _)) hSw); obtain ⟨l0, l1, l2⟩ := CE.out _ (own_below HX7.out (After.trans (After.drew (After.refl _)) hSw)); go_simp; try with_reducible rfl)
      try simp only [Act.put, List.getElem_toArray, List.getElem_cons_succ, List.getElem_cons_zero, List.setIfInBounds_toArray, List.set_cons_zero, List.set_cons_succ]
      refine Script.load (i := 45) (v := ?_) rfl (by kernel_rfl) (by kernel_rfl) (fun _ _ _ h => h) (by kernel_rfl) ?_ ?_
      rotate_left
      · (intro wS hSw; obtain ⟨c0, c1, c2, -, -⟩ := B7.out.later (After.trans (After.drew (After.refl _)) hSw); obtain ⟨l0, l1, l2⟩ := CE.out _ (own_below HX7.out (After.trans (After.drew (After.refl _)) hSw)); go_simp; try with_reducible rfl)
      try simp only [Act.put, List.getElem_toArray, List.getElem_cons_succ, List.getElem_cons_zero, List.setIfInBounds_toArray, List.set_cons_zero, List.set_cons_succ]
      refine Script.load (i := 46) (v := ?_) rfl (by kernel_rfl) (by kernel_rfl) (fun _ _ _ h => h) (by kernel_rfl) ?_ ?_
      rotate_left
      · (intro wS hSw; obtain ⟨c0, c1, c2, -, -⟩ := B7.out.later (After.trans (After.drew (After.refl _)) hSw); obtain ⟨l0, l1, l2⟩ := CE.out _ (own_below HX7.out (After.trans (After.drew (After.refl _)) hSw)); go_simp; try with_reducible rfl)
      try simp only [Act.put, List.getElem_toArray, List.getElem_cons_succ, List.getElem_cons_zero, List.setIfInBounds_toArray, List.set_cons_zero, List.set_cons_succ]
      refine Script.load (i := 47) (v := ?_) rfl (by kernel_rfl) (by kernel_rfl) (fun _ _ _ h => h) (by kernel_rfl) ?_ ?_
      rotate_left
      · (intro wS hSw; obtain ⟨c0, c1, c2, -, -⟩ := B7.out.later (After.trans (After.drew (After.refl _)) hSw); obtain ⟨l0, l1, l2⟩ := CE.out _ (own_below HX7.out (After.trans (After.drew (After.refl _)) hSw)); go_simp; try with_reducible rfl)
      try simp only [Act.put, List.getElem_toArray, List.getElem_cons_succ, List.getElem_cons_zero, List.setIfInBounds_toArray, List.set_cons_zero, List.set_cons_succ]
      refine Script.call (i := 48) (v := ?_) rfl (by kernel_rfl) (by kernel_rfl) (fun _ _ _ h => h) (by kernel_rfl) ?_ ?_
      rotate_left
      · (intro wS hSw K hK; obtain ⟨c0, c1, c2, -, -⟩ := B7.out.later (After.trans (After.drew (After.refl _)) hSw); obtain ⟨l0, l1, l2⟩ := CE.out _ (own_below HX7.out (After.trans (After.drew (After.refl _)) hSw)); go_simp; go_at_call 40; refine (K7.out _).mono ?_; rintro e wc ⟨rfl, hbc⟩; exact hK.out _ hbc)
      try simp only [Act.put, List.getElem_toArray, List.getElem_cons_succ, List.getElem_cons_zero, List.setIfInBounds_toArray, List.set_cons_zero, List.set_cons_succ]
      refine Script.load (i := 49) (v := ?_) rfl (by kernel_rfl) (by kernel_rfl) (fun _ _ _ h => h) (by kernel_rfl) ?_ ?_
      rotate_left
      · (intro wS hSw; obtain ⟨c0, c1, c2, -, -⟩ := B7.out.later (After.trans (After.drew (After.refl _)) hSw); obtain ⟨l0, l1, l2⟩ := CE.out _ (own_below HX7.out (After.trans (After.drew (After.refl _)) hSw)); go_simp; try with_reducible rfl)
      try simp only [Act.put, List.getElem_toArray, List.getElem_cons_succ, List.getElem_cons_zero, List.setIfInBounds_toArray, List.set_cons_zero, List.set_cons_succ]
      refine Script.done (by kernel_rfl) ?_
      intro wD hD hG
      have hb8 := After.trans (After.drew (After.refl _)) hD
      have hw8 := Lib.hid (hw7.out.trans (hb8.mono hw7.out.size))
      clear hD hG hb8 B7 HX7 hw7
      go_wp2_with fail
      go_roundw
      case rel => exact ⟨k + 1, by omega, by go_num, hw8⟩
      case measure => simp [intOf]; omega
    · obtain rfl : k = n := by omega
      have HX5 := Lib.hid (own_below HX4.out hw.out)
      have HY5 := Lib.hid (own_below HY4.out hw.out)
      have HB5 := Lib.hid (HB4.out.trans (hw.out.mono HB4.out.size))
      clear B4 HX4 HY4 HB4 hw
      go_wp2_with fail
      go_loopw [12] (fun i wr' => ∃ k : Nat, k ≤ m ∧ i = .int .i64 k ∧ Hid (Below wr.heap.size wr wr')) (fun i _ => m - (intOf i).toNat)
      case atStart => exact ⟨0, by omega, rfl, Below.refl _ _⟩
      case round =>
        obtain ⟨j, hj, rfl, hw⟩ := hrel
        have B6 := Lib.hid (B5.out.later hw.out)
        by_cases hjm : j < m
        · obtain ⟨⟨f, o, t⟩, hl⟩ : ∃ l, ys[j]? = some l := ⟨_, List.getElem?_eq_getElem (by rw [HM.out]; exact hjm)⟩
          have k0 : (0 : Int) ≤ (j : Int) := by omega
          have k1 : (j : Int) < (m : Int) := by omega
          obtain ⟨x, F1, F2, hxb⟩ := undo_facts (MY.out _ (List.mem_of_getElem? hl))
          have hx63 : (x : Int) ≤ 9223372036854775807 := by omega
          have K1 := Lib.hid (fun w => implBack W H z r f o t hr63 w)
          have K2 := Lib.hid (fun w => implDo W H z x f o t hx63 w)
          rw [F1] at K1
          rw [F2] at K2
          clear F1 F2
          obtain ⟨g, rfl⟩ : ∃ g, gb = some ⟨g, 0, none⟩ := by
            rcases Go.Joins.ownsRow_forms HY5.out with ⟨h, h0⟩ | ⟨g, cap, h⟩
            · omega
            · injection h with h1 h2 h3; exact ⟨g, h1⟩
          have HY6 := Lib.hid (own_below HY5.out hw.out)
          have CE : Hid (∀ w' : World, w'.ownsRow q3 31 3 (.slice (some ⟨g, 0, none⟩) m gd) m (lv ys) → w'.cell? ⟨g, j * 3, none⟩ = some (.int .i64 f) ∧ w'.cell? ⟨g, j * 3 + 1, none⟩ = some (.int .i64 o) ∧ w'.cell? ⟨g, j * 3 + 2, none⟩ = some (.int .i64 t)) := fun w' hh => line_cells hh HM.out hl
          clear hl
          go_wp2_with fail
          refine wp_region_script (by kernel_rfl) (by kernel_rfl) ?_
          refine Script.load (i := 0) (v := ?_) rfl (by kernel_rfl) (by kernel_rfl) (fun _ _ _ h => h) (by kernel_rfl) ?_ ?_
          rotate_left
          · (intro wS hSw; obtain ⟨c0, c1, c2, -, -⟩ := B6.out.later (After.trans (After.drew (After.refl _)) hSw); obtain ⟨l0, l1, l2⟩ := CE.out _ (own_below HY6.out (After.trans (After.drew (After.refl _)) hSw)); go_simp; try with_reducible rfl)
          try simp only [Act.put, List.getElem_toArray, List.getElem_cons_succ, List.getElem_cons_zero, List.setIfInBounds_toArray, List.set_cons_zero, List.set_cons_succ]
          refine Script.load (i := 1) (v := ?_) rfl (by kernel_rfl) (by kernel_rfl) (fun _ _ _ h => h) (by kernel_rfl) ?_ ?_
          rotate_left
          · (intro wS hSw; obtain ⟨c0, c1, c2, -, -⟩ := B6.out.later (After.trans (After.drew (After.refl _)) hSw); obtain ⟨l0, l1, l2⟩ := CE.out _ (own_below HY6.out (After.trans (After.drew (After.refl _)) hSw)); go_simp; try with_reducible rfl)
          try simp only [Act.put, List.getElem_toArray, List.getElem_cons_succ, List.getElem_cons_zero, List.setIfInBounds_toArray, List.set_cons_zero, List.set_cons_succ]
          refine Script.load (i := 2) (v := ?_) rfl (by kernel_rfl) (by kernel_rfl) (fun _ _ _ h => h) (by kernel_rfl) ?_ ?_
          rotate_left
          · (intro wS hSw; obtain ⟨c0, c1, c2, -, -⟩ := B6.out.later (After.trans (After.drew (After.refl _)) hSw); obtain ⟨l0, l1, l2⟩ := CE.out _ (own_below HY6.out (After.trans (After.drew (After.refl _)) hSw)); go_simp; try with_reducible rfl)
          try simp only [Act.put, List.getElem_toArray, List.getElem_cons_succ, List.getElem_cons_zero, List.setIfInBounds_toArray, List.set_cons_zero, List.set_cons_succ]
          refine Script.load (i := 3) (v := ?_) rfl (by kernel_rfl) (by kernel_rfl) (fun _ _ _ h => h) (by kernel_rfl) ?_ ?_
          rotate_left
          · (intro wS hSw; obtain ⟨c0, c1, c2, -, -⟩ := B6.out.later (After.trans (After.drew (After.refl _)) hSw); obtain ⟨l0, l1, l2⟩ := CE.out _ (own_below HY6.out (After.trans (After.drew (After.refl _)) hSw)); go_simp; try with_reducible rfl)
          try simp only [Act.put, List.getElem_toArray, List.getElem_cons_succ, List.getElem_cons_zero, List.setIfInBounds_toArray, List.set_cons_zero, List.set_cons_succ]
          refine Script.load (i := 4) (v := ?_) rfl (by kernel_rfl) (by kernel_rfl) (fun _ _ _ h => h) (by kernel_rfl) ?_ ?_
          rotate_left
          · (intro wS hSw; obtain ⟨c0, c1, c2, -, -⟩ := B6.out.later (After.trans (After.drew (After.refl _)) hSw); obtain ⟨l0, l1, l2⟩ := CE.out _ (own_below HY6.out (After.trans (After.drew (After.refl _)) hSw)); go_simp; try with_reducible rfl)
          try simp only [Act.put, List.getElem_toArray, List.getElem_cons_succ, List.getElem_cons_zero, List.setIfInBounds_toArray, List.set_cons_zero, List.set_cons_succ]
          refine Script.load (i := 5) (v := ?_) rfl (by kernel_rfl) (by kernel_rfl) (fun _ _ _ h => h) (by kernel_rfl) ?_ ?_
          rotate_left
          · (intro wS hSw; obtain ⟨c0, c1, c2, -, -⟩ := B6.out.later (After.trans (After.drew (After.refl _)) hSw); obtain ⟨l0, l1, l2⟩ := CE.out _ (own_below HY6.out (After.trans (After.drew (After.refl _)) hSw)); go_simp; try with_reducible rfl)
          try simp only [Act.put, List.getElem_toArray, List.getElem_cons_succ, List.getElem_cons_zero, List.setIfInBounds_toArray, List.set_cons_zero, List.set_cons_succ]
          refine Script.call (i := 6) (v := ?_) rfl (by kernel_rfl) (by kernel_rfl) (fun _ _ _ h => h) (by kernel_rfl) ?_ ?_
          rotate_left
          · (intro wS hSw K hK; obtain ⟨c0, c1, c2, -, -⟩ := B6.out.later (After.trans (After.drew (After.refl _)) hSw); obtain ⟨l0, l1, l2⟩ := CE.out _ (own_below HY6.out (After.trans (After.drew (After.refl _)) hSw)); go_simp; go_at_call 37; refine (K1.out _).mono ?_; rintro e wc ⟨rfl, hbc⟩; exact hK.out _ hbc)
          try simp only [Act.put, List.getElem_toArray, List.getElem_cons_succ, List.getElem_cons_zero, List.setIfInBounds_toArray, List.set_cons_zero, List.set_cons_succ]
          refine Script.load (i := 7) (v := ?_) rfl (by kernel_rfl) (by kernel_rfl) (fun _ _ _ h => h) (by kernel_rfl) ?_ ?_
          rotate_left
          · (intro wS hSw; obtain ⟨c0, c1, c2, -, -⟩ := B6.out.later (After.trans (After.drew (After.refl _)) hSw); obtain ⟨l0, l1, l2⟩ := CE.out _ (own_below HY6.out (After.trans (After.drew (After.refl _)) hSw)); go_simp; try with_reducible rfl)
          try simp only [Act.put, List.getElem_toArray, List.getElem_cons_succ, List.getElem_cons_zero, List.setIfInBounds_toArray, List.set_cons_zero, List.set_cons_succ]
          refine Script.load (i := 8) (v := ?_) rfl (by kernel_rfl) (by kernel_rfl) (fun _ _ _ h => h) (by kernel_rfl) ?_ ?_
          rotate_left
          · (intro wS hSw; obtain ⟨c0, c1, c2, -, -⟩ := B6.out.later (After.trans (After.drew (After.refl _)) hSw); obtain ⟨l0, l1, l2⟩ := CE.out _ (own_below HY6.out (After.trans (After.drew (After.refl _)) hSw)); go_simp; try with_reducible rfl)
          try simp only [Act.put, List.getElem_toArray, List.getElem_cons_succ, List.getElem_cons_zero, List.setIfInBounds_toArray, List.set_cons_zero, List.set_cons_succ]
          refine Script.load (i := 9) (v := ?_) rfl (by kernel_rfl) (by kernel_rfl) (fun _ _ _ h => h) (by kernel_rfl) ?_ ?_
          rotate_left
          · (intro wS hSw; obtain ⟨c0, c1, c2, -, -⟩ := B6.out.later (After.trans (After.drew (After.refl _)) hSw); obtain ⟨l0, l1, l2⟩ := CE.out _ (own_below HY6.out (After.trans (After.drew (After.refl _)) hSw)); go_simp; try with_reducible rfl)
          try simp only [Act.put, List.getElem_toArray, List.getElem_cons_succ, List.getElem_cons_zero, List.setIfInBounds_toArray, List.set_cons_zero, List.set_cons_succ]
          refine Script.load (i := 10) (v := ?_) rfl (by kernel_rfl) (by kernel_rfl) (fun _ _ _ h => h) (by kernel_rfl) ?_ ?_
          rotate_left
          · (intro wS hSw; obtain ⟨c0, c1, c2, -, -⟩ := B6.out.later (After.trans (After.drew (After.refl _)) hSw); obtain ⟨l0, l1, l2⟩ := CE.out _ (own_below HY6.out (After.trans (After.drew (After.refl _)) hSw)); go_simp; try with_reducible rfl)
          try simp only [Act.put, List.getElem_toArray, List.getElem_cons_succ, List.getElem_cons_zero, List.setIfInBounds_toArray, List.set_cons_zero, List.set_cons_succ]
          refine Script.load (i := 11) (v := ?_) rfl (by kernel_rfl) (by kernel_rfl) (fun _ _ _ h => h) (by kernel_rfl) ?_ ?_
          rotate_left
          · (intro wS hSw; obtain ⟨c0, c1, c2, -, -⟩ := B6.out.later (After.trans (After.drew (After.refl _)) hSw); obtain ⟨l0, l1, l2⟩ := CE.out _ (own_below HY6.out (After.trans (After.drew (After.refl _)) hSw)); go_simp; try with_reducible rfl)
          try simp only [Act.put, List.getElem_toArray, List.getElem_cons_succ, List.getElem_cons_zero, List.setIfInBounds_toArray, List.set_cons_zero, List.set_cons_succ]
          refine Script.done (by kernel_rfl) ?_
          intro wD hD hG
          have hb7 := After.trans (After.drew (After.refl _)) hD
          have B7 := Lib.hid (B6.out.later hb7)
          have HY7 := Lib.hid (own_below HY6.out hb7)
          have hw7 := Lib.hid (hw.out.trans (hb7.mono hw.out.size))
          clear hD hG hb7 B6 HY6 hw
          go_wp2_with fail
          refine wp_region_script (by kernel_rfl) (by kernel_rfl) ?_
          refine Script.load (i := 0) (v := ?_) rfl (by kernel_rfl) (by kernel_rfl) (fun _ _ _ h => h) (by kernel_rfl) ?_ ?_
          rotate_left
          · (intro wS hSw; obtain ⟨c0, c1, c2, -, -⟩ := B7.out.later (After.trans (After.drew (After.refl _)) hSw); obtain ⟨l0, l1, l2⟩ := CE.out _ (own_below HY7.out (After.trans (After.drew (After.refl _)) hSw)); go_simp; try with_reducible rfl)
          try simp only [Act.put, List.getElem_toArray, List.getElem_cons_succ, List.getElem_cons_zero, List.setIfInBounds_toArray, List.set_cons_zero, List.set_cons_succ]
          refine Script.load (i := 1) (v := ?_) rfl (by kernel_rfl) (by kernel_rfl) (fun _ _ _ h => h) (by kernel_rfl) ?_ ?_
          rotate_left
          · (intro wS hSw; obtain ⟨c0, c1, c2, -, -⟩ := B7.out.later (After.trans (After.drew (After.refl _)) hSw); obtain ⟨l0, l1, l2⟩ := CE.out _ (own_below HY7.out (After.trans (After.drew (After.refl _)) hSw)); go_simp; try with_reducible rfl)
          try simp only [Act.put, List.getElem_toArray, List.getElem_cons_succ, List.getElem_cons_zero, List.setIfInBounds_toArray, List.set_cons_zero, List.set_cons_succ]
          refine Script.load (i := 2) (v := ?_) rfl (by kernel_rfl) (by kernel_rfl) (fun _ _ _ h => h) (by kernel_rfl) ?_ ?_
          rotate_left
          · (intro wS hSw; obtain ⟨c0, c1, c2, -, -⟩ := B7.out.later (After.trans (After.drew (After.refl _)) hSw); obtain ⟨l0, l1, l2⟩ := CE.out _ (own_below HY7.out (After.trans (After.drew (After.refl _)) hSw)); go_simp; try with_reducible rfl)
          try simp only [Act.put, List.getElem_toArray, List.getElem_cons_succ, List.getElem_cons_zero, List.setIfInBounds_toArray, List.set_cons_zero, List.set_cons_succ]
          refine Script.load (i := 3) (v := ?_) rfl (by kernel_rfl) (by kernel_rfl) (fun _ _ _ h => h) (by kernel_rfl) ?_ ?_
          rotate_left
          · (intro wS hSw; obtain ⟨c0, c1, c2, -, -⟩ := B7.out.later (After.trans (After.drew (After.refl _)) hSw); obtain ⟨l0, l1, l2⟩ := CE.out _ (own_below HY7.out (After.trans (After.drew (After.refl _)) hSw)); go_simp; try with_reducible rfl)
          try simp only [Act.put, List.getElem_toArray, List.getElem_cons_succ, List.getElem_cons_zero, List.setIfInBounds_toArray, List.set_cons_zero, List.set_cons_succ]
          refine Script.load (i := 4) (v := ?_) rfl (by kernel_rfl) (by kernel_rfl) (fun _ _ _ h => h) (by kernel_rfl) ?_ ?_
          rotate_left
          · (intro wS hSw; obtain ⟨c0, c1, c2, -, -⟩ := B7.out.later (After.trans (After.drew (After.refl _)) hSw); obtain ⟨l0, l1, l2⟩ := CE.out _ (own_below HY7.out (After.trans (After.drew (After.refl _)) hSw)); go_simp; try with_reducible rfl)
          try simp only [Act.put, List.getElem_toArray, List.getElem_cons_succ, List.getElem_cons_zero, List.setIfInBounds_toArray, List.set_cons_zero, List.set_cons_succ]
          refine Script.load (i := 5) (v := ?_) rfl (by kernel_rfl) (by kernel_rfl) (fun _ _ _ h => h) (by kernel_rfl) ?_ ?_
          rotate_left
          · (intro wS hSw; obtain ⟨c0, c1, c2, -, -⟩ := B7.out.later (After.trans (After.drew (After.refl _)) hSw); obtain ⟨l0, l1, l2⟩ := CE.out _ (own_below HY7.out (After.trans (After.drew (After.refl _)) hSw)); go_simp; try with_reducible rfl)
          try simp only [Act.put, List.getElem_toArray, List.getElem_cons_succ, List.getElem_cons_zero, List.setIfInBounds_toArray, List.set_cons_zero, List.set_cons_succ]
          refine Script.call (i := 6) (v := ?_) rfl (by kernel_rfl) (by kernel_rfl) (fun _ _ _ h => h) (by kernel_rfl) ?_ ?_
          rotate_left
          · (intro wS hSw K hK; obtain ⟨c0, c1, c2, -, -⟩ := B7.out.later (After.trans (After.drew (After.refl _)) hSw); obtain ⟨l0, l1, l2⟩ := CE.out _ (own_below HY7.out (After.trans (After.drew (After.refl _)) hSw)); go_simp; go_at_call 36; refine (K2.out _).mono ?_; rintro e wc ⟨rfl, hbc⟩; exact hK.out _ hbc)
          try simp only [Act.put, List.getElem_toArray, List.getElem_cons_succ, List.getElem_cons_zero, List.setIfInBounds_toArray, List.set_cons_zero, List.set_cons_succ]
          refine Script.load (i := 7) (v := ?_) rfl (by kernel_rfl) (by kernel_rfl) (fun _ _ _ h => h) (by kernel_rfl) ?_ ?_
          rotate_left
          · (intro wS hSw; obtain ⟨c0, c1, c2, -, -⟩ := B7.out.later (After.trans (After.drew (After.refl _)) hSw); obtain ⟨l0, l1, l2⟩ := CE.out _ (own_below HY7.out (After.trans (After.drew (After.refl _)) hSw)); go_simp; try with_reducible rfl)
          try simp only [Act.put, List.getElem_toArray, List.getElem_cons_succ, List.getElem_cons_zero, List.setIfInBounds_toArray, List.set_cons_zero, List.set_cons_succ]
          refine Script.load (i := 8) (v := ?_) rfl (by kernel_rfl) (by kernel_rfl) (fun _ _ _ h => h) (by kernel_rfl) ?_ ?_
          rotate_left
          · (intro wS hSw; obtain ⟨c0, c1, c2, -, -⟩ := B7.out.later (After.trans (After.drew (After.refl _)) hSw); obtain ⟨l0, l1, l2⟩ := CE.out _ (own_below HY7.out (After.trans (After.drew (After.refl _)) hSw)); go_simp; try with_reducible rfl)
          try simp only [Act.put, List.getElem_toArray, List.getElem_cons_succ, List.getElem_cons_zero, List.setIfInBounds_toArray, List.set_cons_zero, List.set_cons_succ]
          refine Script.load (i := 9) (v := ?_) rfl (by kernel_rfl) (by kernel_rfl) (fun _ _ _ h => h) (by kernel_rfl) ?_ ?_
          rotate_left
          · (intro wS hSw; obtain ⟨c0, c1, c2, -, -⟩ := B7.out.later (After.trans (After.drew (After.refl _)) hSw); obtain ⟨l0, l1, l2⟩ := CE.out _ (own_below HY7.out (After.trans (After.drew (After.refl _)) hSw)); go_simp; try with_reducible rfl)
          try simp only [Act.put, List.getElem_toArray, List.getElem_cons_succ, List.getElem_cons_zero, List.setIfInBounds_toArray, List.set_cons_zero, List.set_cons_succ]
          refine Script.load (i := 10) (v := ?_) rfl (by kernel_rfl) (by kernel_rfl) (fun _ _ _ h => h) (by kernel_rfl) ?_ ?_
          rotate_left
          · (intro wS hSw; obtain ⟨c0, c1, c2, -, -⟩ := B7.out.later (After.trans (After.drew (After.refl _)) hSw); obtain ⟨l0, l1, l2⟩ := CE.out _ (own_below HY7.out (After.trans (After.drew (After.refl _)) hSw)); go_simp; try with_reducible rfl)
          try simp only [Act.put, List.getElem_toArray, List.getElem_cons_succ, List.getElem_cons_zero, List.setIfInBounds_toArray, List.set_cons_zero, List.set_cons_succ]
          refine Script.load (i := 11) (v := ?_) rfl (by kernel_rfl) (by kernel_rfl) (fun _ _ _ h => h) (by kernel_rfl) ?_ ?_
          rotate_left
          · (intro wS hSw; obtain ⟨c0, c1, c2, -, -⟩ := B7.out.later (After.trans (After.drew (After.refl _)) hSw); obtain ⟨l0, l1, l2⟩ := CE.out _ (own_below HY7.out (After.trans (After.drew (After.refl _)) hSw)); go_simp; try with_reducible rfl)
          try simp only [Act.put, List.getElem_toArray, List.getElem_cons_succ, List.getElem_cons_zero, List.setIfInBounds_toArray, List.set_cons_zero, List.set_cons_succ]
          refine Script.done (by kernel_rfl) ?_
          intro wD hD hG
          have hb8 := After.trans (After.drew (After.refl _)) hD
          have hw8 := Lib.hid (hw7.out.trans (hb8.mono hw7.out.size))
          clear hD hG hb8 B7 HY7 hw7
          go_wp2_with fail
          go_roundw
          case rel => exact ⟨j + 1, by omega, by go_num, hw8⟩
          case measure => simp [intOf]; omega
        · obtain rfl : j = m := by omega
          have HB6 := Lib.hid (HB5.out.trans (hw.out.mono HB5.out.size))
          clear B5 HX5 HY5 HB5 hw
          obtain ⟨c0, c1, c2, hlt, -⟩ := B6.out
          go_wp2_with fail
          refine (SJ.out _).mono ?_
          rintro e w5 ⟨v, rfl, hh, hb⟩
          rw [HN.out] at hh
          obtain ⟨g1, d1, rfl⟩ := lines_form hh
          have B7 := Lib.hid (B6.out.later hb)
          have HB7 := Lib.hid (HB6.out.trans (hb.mono HB6.out.size))
          clear c0 c1 c2 hlt hh hb B6 HB6
          obtain ⟨c0, c1, c2, hlt, -⟩ := B7.out
          go_wp2_with fail
          refine (SU.out _).mono ?_
          rintro e w6 ⟨v, rfl, hh, hb⟩
          rw [HM.out] at hh
          obtain ⟨g2, d2, rfl⟩ := lines_form hh
          have HB8 := Lib.hid (HB7.out.trans (hb.mono HB7.out.size))
          clear c0 c1 c2 hlt hh hb B7 HB7
          go_wp2_with fail
          refine (implRect 3 1 _).mono ?_
          rintro e w7 ⟨rfl, hb⟩
          have HB9 := Lib.hid (HB8.out.trans (hb.mono HB8.out.size))
          rw [rect31]
          unfold bd
          clear hb HB8
          go_wp2_with fail
          refine (implJumps 3 1 7 3 (by decide) _).mono ?_
          rintro e w8 ⟨v, rfl, hh, hb⟩
          rw [row_one] at hh
          obtain ⟨g3, d3, rfl⟩ := lines_form hh
          have HF := Lib.hid (HB9.out.trans (hb.mono HB9.out.size))
          clear hb hh HB9
          go_wp2_with fail
          go_ret
          exact ⟨rfl, HF.out⟩
set_option maxRecDepth 100000 in
theorem walk_far {a0 : Option Addr} {len cap : Nat} (w : World) (h : 1048576 < len) :
    Calls Try.prog 5 #[.slice a0 len cap] w fun e w' => e = .returned (.bool true) ∧ Below w.heap.size w w' := by
  go_enter Try.func5, Try.ntmps5
  go_wp2_with fail
  refine (big_yes _ h).mono ?_
  rintro e w' ⟨rfl, rfl⟩
  go_wp2_with fail
  go_ret
  exact ⟨rfl, Below.refl _ _⟩
theorem walk (a0 : Option Addr) (len0 cap0 : Nat) (z0 : List Int) (w : World) (w0 : IsRow .u8 w a0 len0 cap0 z0) :
    Calls Try.prog 5 #[.slice a0 len0 cap0] w fun e w' => e = .returned (.bool true) ∧ Below w.heap.size w w' := by
  by_cases h2 : len0 ≤ 1048576
  · exact walk_in w (code_of w0 h2)
  · exact walk_far w (by omega)
set_option maxRecDepth 100000 in
theorem lifted (os : Os) (started : os.Started) (H : Type) (enc : TypeId × Value → H) :
    ReturnsInHanded {} Try.checked os 5 .any (Rows.fnJumpsSpec.pre6 enc Try.prog Try.f5 Rows.fnJumpsRow.domain false) (Rows.fnJumpsSpec.post enc Try.prog Try.f5 false true false false) := by
  refine returnsInHanded_of_change (C := Try.checked) own started (by kernel_rfl) Try.func5
    (ChangeSpec.witness6 (enc := enc) (C := Try.checked) false ⟨#[], #[.slice none 0 0], []⟩ 8 (by kernel_rfl) (by kernel_rfl) (by kernel_rfl) (by kernel_rfl)) ?_
  intro W base args ds gs before hval0 hW hcnd _
  have hval : ∀ (j : Nat) t v, Try.f5.params[j]? = some t → args[j]? = some v → Value.okWide Try.prog W .any base t v := hval0
  have hW' := hW
  obtain ⟨p, q, hA0, hV, rfl, hfz, hnd⟩ := hW
  have hA : DataW.TrodAll enc Try.prog W 0 (fun _ => true) true Try.f5.params.toList args.toList ds p := hA0
  rw [Try.params5] at hA hval
  obtain ⟨v0, vs0, d0, ds0, p0, q0, hargs, rfl, rfl, h0, r0⟩ := trodAll_cons hA
  obtain ⟨rfl, rfl, rfl⟩ := trodAll_nil r0
  obtain rfl : args = #[v0] := by cases args; simp_all
  obtain ⟨rfl, rfl⟩ := trodVars_none hV
  obtain ⟨a0, len0, cap0, rfl⟩ := okWide_slice Try.underlying22 (hval 0 22 v0 rfl rfl)
  have k0 := h0
  have lt0 : ∀ x ∈ p0, x.block < W.heap.size := by obtain ⟨m, hm⟩ := k0; exact DataW.trod_lt m _ _ _ hm
  obtain ⟨z0, w0⟩ : ∃ zs, IsRow .u8 W a0 len0 cap0 zs := by
    obtain ⟨fuel, hf⟩ := h0
    rcases open_ints Try.underlying22 Try.underlying5 (by kernel_rfl) hf with ⟨hcs, _⟩ | ⟨x, l, c, zs, hcs, _, hl, hm, hz, _, hcell, hwz⟩
    · simp [Value.cells] at hcs
      obtain ⟨rfl, rfl, rfl⟩ := hcs
      exact ⟨[], .inl ⟨rfl, rfl, rfl, rfl⟩⟩
    · simp [Value.cells] at hcs
      obtain ⟨rfl, rfl, rfl⟩ := hcs
      exact ⟨zs, .inr ⟨_, rfl, hl, hm, by simpa using hz, hcell, hwz⟩⟩
  clear hA0 hval0
  refine (walk a0 len0 cap0 z0 W w0).mono fun e W' ⟨he, bel⟩ => ?_
  subst he
  exact ⟨_, rfl, _, _, _, [], _, [], hW', trodAll_mk1 (shut_bool Try.underlying4 _), (trodAll_cons_mk (Below.trod laidOut (by kernel_rfl) (of_decide_eq_true (by kernel_rfl)) k0 bel lt0) trodAll_mk0), rfl, bel.frame _, fun h => by cases h⟩

theorem over : Rows.fnJumpsRow.holds Try.pinned (OpenSpec.ofChange Rows.fnJumpsSpec) :=
  OpenClaim.holds_of_wide 5 Try.f5 rfl rfl rfl rfl rfl rfl rfl ⟨rfl, rfl, rfl, rfl, rfl⟩ rfl rfl rfl rfl rfl (by kernel_rfl) Try.func5 (by kernel_rfl)
    (of_decide_eq_true (by kernel_rfl)) (by unfold Func.isWrapper; first | (rw [if_pos (by decide +kernel)]; kernel_rfl) | (rw [if_neg (by decide +kernel)]; exact ⟨rfl, rfl⟩))
    (fun os started H enc _ => lifted os started H enc)

theorem proved : Rows.FnJumpsSaid := over
end Go.Proofs.Ytpdhdogllejdbaa.fnJumps
