/- The law FnKeys returns true for every code: a drawn game keeps the key of its position, each of its jumps turns each of the six elements of the class, the final holes of a position lie three apart in rows and columns, the empty position's number is 0, and a game's last peg stands in a final hole. -/
import Derived.Test.YtpdhdogllejdbaaRows
import Derived.WalkKit
import Derived.WalkSpells
import Derived.ProofKit
import Derived.OpenShut
import Derived.ShutString
import Derived.ChangeOld
import Derived.Below
import Derived.Lib.Hide
import Derived.Lib.SmallJoins
import Derived.ChangeArms
import Derived.Test.YtpdhdogllejdbaaDrawGame
import Derived.Test.YtpdhdogllejdbaaGames
import Derived.Test.YtpdhdogllejdbaaClasses
namespace Go.Proofs.Ytpdhdogllejdbaa.fnKeys
open Go.ChangeShapes Go.WideShapes Go.ChangeAt Go.RowKit
open Go.ChangeMaps (open_string shut_string)
set_option linter.unusedVariables false
set_option linter.unusedSimpArgs false
theorem own : ownKnob Try.prog.godebug = none := by kernel_rfl
theorem laidOut : laidOutB Try.prog = true := by kernel_rfl
/-- What the walk is told of a slice of integers that came in. -/
def IsRow (k : IntKind) (w : World) (a : Option Addr) (len cap : Nat) (zs : List Int) : Prop :=
  (a = none ∧ len = 0 ∧ cap = 0 ∧ zs = []) ∨
  ∃ x, a = some x ∧ len ≤ cap ∧ cap ≤ maxLen ∧ zs.length = cap ∧ (∀ i, i < zs.length → w.cell? (x.add i) = some (.int k (zs.getD i 0))) ∧ ∀ n ∈ zs, (Lit.int k n).wf = true
theorem class_at {W H Z P : Int} (h : posB W H Z P = true) {j : Nat} (hj : j < 6) : (classB W H Z P)[j]? = some (cB W P j).toNat := by
  unfold classB; rw [if_pos h]; exact clsL_get _ _ hj
theorem class_len {W H Z P : Int} (h : posB W H Z P = true) : (classB W H Z P).length = 6 := by rw [classB_six h]; rfl
theorem key_len {W H Z P : Int} (h : posB W H Z P = true) : (keyB W H Z P).length = 4 := by rw [keyB_four h]; rfl
theorem odd_mod (n : Nat) : ((n : Int).tmod 2 == 1) = decide (n % 2 = 1) := by
  rw [Int.tmod_eq_emod_of_nonneg (by omega), Bool.eq_iff_iff, beq_iff_eq, decide_eq_true_eq]; omega
theorem turned (a o : Bool) : (((a.toNat : Nat) : Int) != (((a ^^ o).toNat : Nat) : Int)) = o := by cases a <;> cases o <;> rfl
/-- Two places three apart, in the walk's words. -/
theorem apart_facts {a u u0 : Nat} (ha : 0 < a) (hu : u < 49) (hu0 : u0 < 49) (h1 : (u % a) % 3 = (u0 % a) % 3) (h2 : (u / a) % 3 = (u0 / a) % 3) :
    ∃ (x x0 y y0 : Nat) (d e : Int), ((u : Int)).tmod a = (x : Int) ∧ ((u0 : Int)).tmod a = (x0 : Int) ∧ ((u : Int)).tdiv a = (y : Int) ∧ ((u0 : Int)).tdiv a = (y0 : Int) ∧
      IntKind.i64.wrap (y : Int) = (y : Int) ∧ IntKind.i64.wrap (y0 : Int) = (y0 : Int) ∧ wrap64 (y : Int) = (y : Int) ∧ wrap64 (y0 : Int) = (y0 : Int) ∧
      IntKind.i64.wrap ((x : Int) - (x0 : Int)) = d ∧ IntKind.i64.wrap ((y : Int) - (y0 : Int)) = e ∧ d.tmod 3 = 0 ∧ e.tmod 3 = 0 := by
  have k1 := Nat.mod_le u a
  have k2 := Nat.mod_le u0 a
  have k3 := Nat.div_le_self u a
  have k4 := Nat.div_le_self u0 a
  refine ⟨u % a, u0 % a, u / a, u0 / a, ((u % a : Nat) : Int) - ((u0 % a : Nat) : Int), ((u / a : Nat) : Int) - ((u0 / a : Nat) : Int), ?_, ?_, ?_, ?_, ?_, ?_, ?_, ?_, ?_, ?_, ?_, ?_⟩
  · rw [Int.tmod_eq_emod_of_nonneg (by omega)]; simp
  · rw [Int.tmod_eq_emod_of_nonneg (by omega)]; simp
  · rw [Int.tdiv_eq_ediv_of_nonneg (by omega)]; simp
  · rw [Int.tdiv_eq_ediv_of_nonneg (by omega)]; simp
  all_goals
    generalize u % a = x at *
    generalize u0 % a = x0 at *
    generalize u / a = y at *
    generalize u0 / a = y0 at *
  · rw [IntKind.wrap_i64]; omega
  · rw [IntKind.wrap_i64]; omega
  · unfold wrap64; omega
  · unfold wrap64; omega
  · rw [IntKind.wrap_i64]; omega
  · rw [IntKind.wrap_i64]; omega
  · exact Int.tmod_eq_zero_of_dvd (by omega)
  · exact Int.tmod_eq_zero_of_dvd (by omega)
set_option maxHeartbeats 8000000 in
set_option maxRecDepth 100000 in
theorem walk_in {a0 : Option Addr} {len cap : Nat} (w : World) (hcode : CodeAt w a0 len) :
    Calls Try.prog 7 #[.slice a0 len cap] w fun e w' => e = .returned (.bool true) ∧ Below w.heap.size w w' := by
  have HCO := Lib.hid hcode
  clear hcode
  go_enter Try.func7, Try.ntmps7
  go_wp2_with fail
  refine (big_no _ HCO.out.1).mono ?_
  rintro e w' ⟨rfl, rfl⟩
  go_wp2_with fail
  refine (drawGame w HCO.out).mono ?_
  rintro e w1 ⟨W, H, N, z, r, n, xs, q0, v, ho, hN16, hpr, hn, hn11, hrun, rfl, hx1, hb1⟩
  unfold bd
  have hw1 := ho.w1
  obtain ⟨a, rfl⟩ := Int.eq_ofNat_of_zero_le (show 0 ≤ W by omega)
  have ha : 0 < a := by omega
  have hrb := hpr.big ho
  have hpos := pos_of ho hpr
  have hr63 : (r : Int) ≤ 9223372036854775807 := by omega
  obtain ⟨hposq, hback⟩ := run_back hpos hrun
  obtain ⟨q, hq, hqb⟩ := run_nat (P := (r : Int)) ⟨r, rfl, hrb⟩ hrun xs.length (Nat.le_refl _)
  rw [List.take_length, ← run_end hrun] at hq
  subst hq
  have hq63 : (q : Int) ≤ 9223372036854775807 := by omega
  have hplay : playB a H z r xs = ((q : Int), true) := allB_yes hpos (by omega) hrun
  have hkey := run_key hpos hposq hrun
  have hnum := run_num hpos hposq hrun
  have hsame := same_of hpos hposq hkey.symm
  have hpq : Part q z := by
    obtain ⟨N', z', p', e1, e2, -, h3⟩ := pos_yes hposq
    obtain rfl : z = z' := by omega
    obtain rfl : q = p' := by omega
    exact h3
  obtain ⟨cq, hcq, -⟩ := count_nat hposq
  have hlast : cq = 1 → 0 < (finalB a H z r).length := fun h => final_last ho hpos hpq hkey (by rw [hcq, h]; rfl)
  have K1 := Lib.hid (fun (B gc : Nat) (ga : Option Addr) w (hh : w.ownsRow B 31 3 (.slice ga n gc) n (lv xs)) => specPlay a H z r hr63 xs hn (by omega) w hh)
  rw [hplay] at K1
  have K2 := Lib.hid (fun w => implClassOf a H z r hr63 w)
  have K3 := Lib.hid (fun w => implClassOf a H z q hq63 w)
  have K4 := Lib.hid (fun w => implKeyOf a H z r hr63 w)
  have K5 := Lib.hid (fun w => implKeyOf a H z q hq63 w)
  rw [hkey] at K5
  have K6 := Lib.hid (fun w => implFinal a H z r hr63 w)
  have K7 := Lib.hid (fun w => implSame a H z r q hr63 hq63 w)
  rw [hsame] at K7
  have K8 := Lib.hid (fun w => implKeyNumber a H z r hr63 w)
  have K9 := Lib.hid (fun w => implKeyNumber a H z q hq63 w)
  rw [hnum] at K9
  have KZ := Lib.hid (fun w => implKeyNumber a H z 0 (by omega) w)
  rw [num_zero ho] at KZ
  have KP := Lib.hid (fun w => specPegs a H z q hq63 w)
  rw [hcq] at KP
  obtain ⟨o, hodd⟩ : ∃ o, decide (n % 2 = 1) = o := ⟨_, rfl⟩
  have EO := odd_mod n
  rw [hodd] at EO
  have CC : Hid (∀ j, j < 6 → ∃ u v : Nat, (classB a H z r)[j]? = some u ∧ (classB a H z q)[j]? = some v ∧ ((u : Int) != (v : Int)) = o) := fun j hj => by
    refine ⟨_, _, class_at hpos hj, class_at hposq hj, ?_⟩
    rw [run_par hrun hj, hn, hodd]; exact turned _ _
  have FF : Hid (∀ i, 0 < i → i < (finalB a H z r).length → ∃ u u0 : Nat, (finalB a H z r)[i]? = some u ∧ (finalB a H z r)[0]? = some u0 ∧ u < 49 ∧ u0 < 49 ∧ (u % a) % 3 = (u0 % a) % 3 ∧ (u / a) % 3 = (u0 / a) % 3) := fun i h0 hi => by
    have m1 := List.getElem_mem hi
    have m0 := List.getElem_mem (show 0 < (finalB a H z r).length by omega)
    obtain ⟨h1, h2, h3⟩ := final_apart ho m1 m0
    exact ⟨_, _, List.getElem?_eq_getElem hi, List.getElem?_eq_getElem _, h1, (final_apart ho m0 m1).1, h2, h3⟩
  have LC := Lib.hid (class_len hpos)
  have LD := Lib.hid (class_len hposq)
  have LK := Lib.hid (key_len hpos)
  have LF : (finalB a H z r).length ≤ 49 := Nat.le_trans (List.length_filter_le _ _) (holesL_le _ _ _)
  generalize classB a H z r = CL at *
  generalize classB a H z q = DL at *
  generalize keyB a H z r = KL at *
  generalize finalB a H z r = FL at *
  generalize numB a H z r = kn at *
  obtain ⟨m, hm⟩ : ∃ m, FL.length = m := ⟨_, rfl⟩
  have HM := Lib.hid hm
  rw [hm] at FF LF hlast
  clear ho hpr hN16 hrun hback hpos hposq hplay hsame hkey hnum hpq hodd HCO hcq hrb hm hqb hw1
  have B0 := Lib.hid (box_newT 25 a H z w1)
  have X0 := Lib.hid (own_below hx1 ((Below.refl _ _).alloc (Nat.le_refl _) (.cells #[.int .i64 (a : Int), .int .i64 H, .int .i64 (z : Int)] 25)))
  obtain ⟨ga, gc, rfl⟩ := lines_form hx1
  clear hx1
  have hsz : w.heap.size ≤ w1.heap.size := hb1.size
  have HB1 := Lib.hid hb1
  clear hb1
  obtain ⟨c0, c1, c2, hlt, hbw⟩ := B0.out
  go_wp2_with fail
  clear c0 c1 c2 hlt hbw
  generalize w1.alloc (.cells #[.int .i64 (a : Int), .int .i64 H, .int .i64 (z : Int)] 25) = w2 at *
  refine (K1.out _ _ _ _ X0.out).mono ?_
  rintro e w3 ⟨rfl, hb⟩
  have B1 := Lib.hid (B0.out.later hb)
  clear hb B0 X0
  obtain ⟨c0, c1, c2, hlt, hbw⟩ := B1.out
  go_wp2_with fail
  refine (K2.out _).mono ?_
  rintro e w4 ⟨v, rfl, hh, hb⟩
  have B2 := Lib.hid (B1.out.later hb)
  rw [LC.out] at hh
  obtain ⟨cg, cc, rfl⟩ := some_form hh (by decide)
  have RC := Lib.hid hh
  clear hh hb c0 c1 c2 hlt hbw B1
  obtain ⟨c0, c1, c2, hlt, hbw⟩ := B2.out
  go_wp2_with fail
  refine (K3.out _).mono ?_
  rintro e w5 ⟨v, rfl, hh, hb⟩
  have B3 := Lib.hid (B2.out.later hb)
  have RC3 := Lib.hid (own_below RC.out hb)
  rw [LD.out] at hh
  obtain ⟨dg, dc, rfl⟩ := some_form hh (by decide)
  have RD3 := Lib.hid hh
  clear hh hb c0 c1 c2 hlt hbw B2 RC
  obtain ⟨c0, c1, c2, hlt, hbw⟩ := B3.out
  go_wp2_with fail
  refine (K4.out _).mono ?_
  rintro e w6 ⟨v, rfl, hh, hb⟩
  have B4 := Lib.hid (B3.out.later hb)
  have RC4 := Lib.hid (own_below RC3.out hb)
  have RD4 := Lib.hid (own_below RD3.out hb)
  rw [LK.out] at hh
  obtain ⟨kg, kc, rfl⟩ := some_form hh (by decide)
  have RK4 := Lib.hid hh
  clear hh hb c0 c1 c2 hlt hbw B3 RC3 RD3
  obtain ⟨c0, c1, c2, hlt, hbw⟩ := B4.out
  go_wp2_with fail
  refine (K6.out _).mono ?_
  rintro e w7 ⟨v, rfl, hh, hb⟩
  have B5 := Lib.hid (B4.out.later hb)
  have RC5 := Lib.hid (own_below RC4.out hb)
  have RD5 := Lib.hid (own_below RD4.out hb)
  have RK5 := Lib.hid (own_below RK4.out hb)
  rw [HM.out] at hh
  obtain ⟨fg, fc, rfl⟩ := ints_form hh
  have RF5 := Lib.hid hh
  clear hh hb c0 c1 c2 hlt hbw B4 RC4 RD4 RK4
  generalize w1.heap.size = sz1 at *
  generalize w3.heap.size = sz3 at *
  generalize w4.heap.size = sz4 at *
  generalize w5.heap.size = sz5 at *
  generalize w6.heap.size = sz6 at *
  go_wp2_with fail
  refine wp_region_script (by kernel_rfl) (by kernel_rfl) ?_
  refine Script.load (i := 0) (v := ?_) rfl (by kernel_rfl) (by kernel_rfl) (fun _ _ _ h => h) (by kernel_rfl) ?_ ?_
  rotate_left
  · (intro wS hSw; obtain ⟨c0, c1, c2, -, -⟩ := B5.out.later (After.trans (After.drew (After.refl _)) hSw); go_simp; try with_reducible rfl)
  try simp only [Act.put, List.getElem_toArray, List.getElem_cons_succ, List.getElem_cons_zero, List.setIfInBounds_toArray, List.set_cons_zero, List.set_cons_succ]
  refine Script.load (i := 1) (v := ?_) rfl (by kernel_rfl) (by kernel_rfl) (fun _ _ _ h => h) (by kernel_rfl) ?_ ?_
  rotate_left
  · (intro wS hSw; obtain ⟨c0, c1, c2, -, -⟩ := B5.out.later (After.trans (After.drew (After.refl _)) hSw); go_simp; try with_reducible rfl)
  try simp only [Act.put, List.getElem_toArray, List.getElem_cons_succ, List.getElem_cons_zero, List.setIfInBounds_toArray, List.set_cons_zero, List.set_cons_succ]
  refine Script.load (i := 2) (v := ?_) rfl (by kernel_rfl) (by kernel_rfl) (fun _ _ _ h => h) (by kernel_rfl) ?_ ?_
  rotate_left
  · (intro wS hSw; obtain ⟨c0, c1, c2, -, -⟩ := B5.out.later (After.trans (After.drew (After.refl _)) hSw); go_simp; try with_reducible rfl)
  try simp only [Act.put, List.getElem_toArray, List.getElem_cons_succ, List.getElem_cons_zero, List.setIfInBounds_toArray, List.set_cons_zero, List.set_cons_succ]
  refine Script.load (i := 3) (v := ?_) rfl (by kernel_rfl) (by kernel_rfl) (fun _ _ _ h => h) (by kernel_rfl) ?_ ?_
  rotate_left
  · (intro wS hSw; obtain ⟨c0, c1, c2, -, -⟩ := B5.out.later (After.trans (After.drew (After.refl _)) hSw); go_simp; try with_reducible rfl)
  try simp only [Act.put, List.getElem_toArray, List.getElem_cons_succ, List.getElem_cons_zero, List.setIfInBounds_toArray, List.set_cons_zero, List.set_cons_succ]
  refine Script.load (i := 4) (v := ?_) rfl (by kernel_rfl) (by kernel_rfl) (fun _ _ _ h => h) (by kernel_rfl) ?_ ?_
  rotate_left
  · (intro wS hSw; obtain ⟨c0, c1, c2, -, -⟩ := B5.out.later (After.trans (After.drew (After.refl _)) hSw); go_simp; try with_reducible rfl)
  try simp only [Act.put, List.getElem_toArray, List.getElem_cons_succ, List.getElem_cons_zero, List.setIfInBounds_toArray, List.set_cons_zero, List.set_cons_succ]
  refine Script.load (i := 5) (v := ?_) rfl (by kernel_rfl) (by kernel_rfl) (fun _ _ _ h => h) (by kernel_rfl) ?_ ?_
  rotate_left
  · (intro wS hSw; obtain ⟨c0, c1, c2, -, -⟩ := B5.out.later (After.trans (After.drew (After.refl _)) hSw); go_simp; try with_reducible rfl)
  try simp only [Act.put, List.getElem_toArray, List.getElem_cons_succ, List.getElem_cons_zero, List.setIfInBounds_toArray, List.set_cons_zero, List.set_cons_succ]
  refine Script.load (i := 6) (v := ?_) rfl (by kernel_rfl) (by kernel_rfl) (fun _ _ _ h => h) (by kernel_rfl) ?_ ?_
  rotate_left
  · (intro wS hSw; obtain ⟨c0, c1, c2, -, -⟩ := B5.out.later (After.trans (After.drew (After.refl _)) hSw); go_simp; try with_reducible rfl)
  try simp only [Act.put, List.getElem_toArray, List.getElem_cons_succ, List.getElem_cons_zero, List.setIfInBounds_toArray, List.set_cons_zero, List.set_cons_succ]
  refine Script.load (i := 7) (v := ?_) rfl (by kernel_rfl) (by kernel_rfl) (fun _ _ _ h => h) (by kernel_rfl) ?_ ?_
  rotate_left
  · (intro wS hSw; obtain ⟨c0, c1, c2, -, -⟩ := B5.out.later (After.trans (After.drew (After.refl _)) hSw); go_simp; try with_reducible rfl)
  try simp only [Act.put, List.getElem_toArray, List.getElem_cons_succ, List.getElem_cons_zero, List.setIfInBounds_toArray, List.set_cons_zero, List.set_cons_succ]
  refine Script.load (i := 8) (v := ?_) rfl (by kernel_rfl) (by kernel_rfl) (fun _ _ _ h => h) (by kernel_rfl) ?_ ?_
  rotate_left
  · (intro wS hSw; obtain ⟨c0, c1, c2, -, -⟩ := B5.out.later (After.trans (After.drew (After.refl _)) hSw); go_simp; try with_reducible rfl)
  try simp only [Act.put, List.getElem_toArray, List.getElem_cons_succ, List.getElem_cons_zero, List.setIfInBounds_toArray, List.set_cons_zero, List.set_cons_succ]
  refine Script.load (i := 9) (v := ?_) rfl (by kernel_rfl) (by kernel_rfl) (fun _ _ _ h => h) (by kernel_rfl) ?_ ?_
  rotate_left
  · (intro wS hSw; obtain ⟨c0, c1, c2, -, -⟩ := B5.out.later (After.trans (After.drew (After.refl _)) hSw); go_simp; try with_reducible rfl)
  try simp only [Act.put, List.getElem_toArray, List.getElem_cons_succ, List.getElem_cons_zero, List.setIfInBounds_toArray, List.set_cons_zero, List.set_cons_succ]
  refine Script.load (i := 10) (v := ?_) rfl (by kernel_rfl) (by kernel_rfl) (fun _ _ _ h => h) (by kernel_rfl) ?_ ?_
  rotate_left
  · (intro wS hSw; obtain ⟨c0, c1, c2, -, -⟩ := B5.out.later (After.trans (After.drew (After.refl _)) hSw); go_simp; try with_reducible rfl)
  try simp only [Act.put, List.getElem_toArray, List.getElem_cons_succ, List.getElem_cons_zero, List.setIfInBounds_toArray, List.set_cons_zero, List.set_cons_succ]
  refine Script.load (i := 11) (v := ?_) rfl (by kernel_rfl) (by kernel_rfl) (fun _ _ _ h => h) (by kernel_rfl) ?_ ?_
  rotate_left
  · (intro wS hSw; obtain ⟨c0, c1, c2, -, -⟩ := B5.out.later (After.trans (After.drew (After.refl _)) hSw); go_simp; try with_reducible rfl)
  try simp only [Act.put, List.getElem_toArray, List.getElem_cons_succ, List.getElem_cons_zero, List.setIfInBounds_toArray, List.set_cons_zero, List.set_cons_succ]
  refine Script.load (i := 12) (v := ?_) rfl (by kernel_rfl) (by kernel_rfl) (fun _ _ _ h => h) (by kernel_rfl) ?_ ?_
  rotate_left
  · (intro wS hSw; obtain ⟨c0, c1, c2, -, -⟩ := B5.out.later (After.trans (After.drew (After.refl _)) hSw); go_simp; try with_reducible rfl)
  try simp only [Act.put, List.getElem_toArray, List.getElem_cons_succ, List.getElem_cons_zero, List.setIfInBounds_toArray, List.set_cons_zero, List.set_cons_succ]
  refine Script.load (i := 13) (v := ?_) rfl (by kernel_rfl) (by kernel_rfl) (fun _ _ _ h => h) (by kernel_rfl) ?_ ?_
  rotate_left
  · (intro wS hSw; obtain ⟨c0, c1, c2, -, -⟩ := B5.out.later (After.trans (After.drew (After.refl _)) hSw); go_simp; try with_reducible rfl)
  try simp only [Act.put, List.getElem_toArray, List.getElem_cons_succ, List.getElem_cons_zero, List.setIfInBounds_toArray, List.set_cons_zero, List.set_cons_succ]
  refine Script.load (i := 14) (v := ?_) rfl (by kernel_rfl) (by kernel_rfl) (fun _ _ _ h => h) (by kernel_rfl) ?_ ?_
  rotate_left
  · (intro wS hSw; obtain ⟨c0, c1, c2, -, -⟩ := B5.out.later (After.trans (After.drew (After.refl _)) hSw); go_simp; try with_reducible rfl)
  try simp only [Act.put, List.getElem_toArray, List.getElem_cons_succ, List.getElem_cons_zero, List.setIfInBounds_toArray, List.set_cons_zero, List.set_cons_succ]
  refine Script.load (i := 15) (v := ?_) rfl (by kernel_rfl) (by kernel_rfl) (fun _ _ _ h => h) (by kernel_rfl) ?_ ?_
  rotate_left
  · (intro wS hSw; obtain ⟨c0, c1, c2, -, -⟩ := B5.out.later (After.trans (After.drew (After.refl _)) hSw); go_simp; try with_reducible rfl)
  try simp only [Act.put, List.getElem_toArray, List.getElem_cons_succ, List.getElem_cons_zero, List.setIfInBounds_toArray, List.set_cons_zero, List.set_cons_succ]
  refine Script.load (i := 16) (v := ?_) rfl (by kernel_rfl) (by kernel_rfl) (fun _ _ _ h => h) (by kernel_rfl) ?_ ?_
  rotate_left
  · (intro wS hSw; obtain ⟨c0, c1, c2, -, -⟩ := B5.out.later (After.trans (After.drew (After.refl _)) hSw); go_simp; try with_reducible rfl)
  try simp only [Act.put, List.getElem_toArray, List.getElem_cons_succ, List.getElem_cons_zero, List.setIfInBounds_toArray, List.set_cons_zero, List.set_cons_succ]
  refine Script.one (i := 17) rfl (by kernel_rfl) (by kernel_rfl) ?_
  intro wO hO K hK; have hSw := hO; obtain ⟨c0, c1, c2, -, -⟩ := B5.out.later (After.trans (After.drew (After.refl _)) hSw); go_simp
  clear hSw
  go_at_call 51; refine (K5.out _).mono ?_; rintro e wc ⟨vk, rfl, hk, hbc⟩; rw [LK.out] at hk; obtain ⟨hg, hc, rfl⟩ := some_form hk (by decide)
  refine hK.out _ _ hbc ?_
  clear hK K
  try simp only [Act.put, List.getElem_toArray, List.getElem_cons_succ, List.getElem_cons_zero, List.setIfInBounds_toArray, List.set_cons_zero, List.set_cons_succ]
  clear c0 c1 c2
  refine Script.call (i := 18) (v := ?_) rfl (by kernel_rfl) (by kernel_rfl) (fun _ _ _ h => h) (by kernel_rfl) ?_ ?_
  rotate_left
  · (intro wS hSw K hK; obtain ⟨c0, c1, c2, -, -⟩ := B5.out.later (After.trans (After.drew (After.refl _)) (After.trans hO (After.trans hbc hSw))); go_simp; go_at_call 53; refine (sameN _ _ KL _ LK.out (by decide) (own_below RK5.out (After.trans (After.drew (After.refl _)) (After.trans hO (After.trans hbc hSw)))) (own_below hk hSw)).mono ?_; rintro e wd ⟨rfl, qq, rfl⟩; have hbc := drewN_belowI wS qq; exact hK.out _ hbc)
  try simp only [Act.put, List.getElem_toArray, List.getElem_cons_succ, List.getElem_cons_zero, List.setIfInBounds_toArray, List.set_cons_zero, List.set_cons_succ]
  refine Script.load (i := 19) (v := ?_) rfl (by kernel_rfl) (by kernel_rfl) (fun _ _ _ h => h) (by kernel_rfl) ?_ ?_
  rotate_left
  · (intro wS hSw; obtain ⟨c0, c1, c2, -, -⟩ := B5.out.later (After.trans (After.drew (After.refl _)) (After.trans hO (After.trans hbc hSw))); go_simp; try with_reducible rfl)
  try simp only [Act.put, List.getElem_toArray, List.getElem_cons_succ, List.getElem_cons_zero, List.setIfInBounds_toArray, List.set_cons_zero, List.set_cons_succ]
  refine Script.load (i := 20) (v := ?_) rfl (by kernel_rfl) (by kernel_rfl) (fun _ _ _ h => h) (by kernel_rfl) ?_ ?_
  rotate_left
  · (intro wS hSw; obtain ⟨c0, c1, c2, -, -⟩ := B5.out.later (After.trans (After.drew (After.refl _)) (After.trans hO (After.trans hbc hSw))); go_simp; try with_reducible rfl)
  try simp only [Act.put, List.getElem_toArray, List.getElem_cons_succ, List.getElem_cons_zero, List.setIfInBounds_toArray, List.set_cons_zero, List.set_cons_succ]
  refine Script.load (i := 21) (v := ?_) rfl (by kernel_rfl) (by kernel_rfl) (fun _ _ _ h => h) (by kernel_rfl) ?_ ?_
  rotate_left
  · (intro wS hSw; obtain ⟨c0, c1, c2, -, -⟩ := B5.out.later (After.trans (After.drew (After.refl _)) (After.trans hO (After.trans hbc hSw))); go_simp; try with_reducible rfl)
  try simp only [Act.put, List.getElem_toArray, List.getElem_cons_succ, List.getElem_cons_zero, List.setIfInBounds_toArray, List.set_cons_zero, List.set_cons_succ]
  refine Script.load (i := 22) (v := ?_) rfl (by kernel_rfl) (by kernel_rfl) (fun _ _ _ h => h) (by kernel_rfl) ?_ ?_
  rotate_left
  · (intro wS hSw; obtain ⟨c0, c1, c2, -, -⟩ := B5.out.later (After.trans (After.drew (After.refl _)) (After.trans hO (After.trans hbc hSw))); go_simp; try with_reducible rfl)
  try simp only [Act.put, List.getElem_toArray, List.getElem_cons_succ, List.getElem_cons_zero, List.setIfInBounds_toArray, List.set_cons_zero, List.set_cons_succ]
  refine Script.load (i := 23) (v := ?_) rfl (by kernel_rfl) (by kernel_rfl) (fun _ _ _ h => h) (by kernel_rfl) ?_ ?_
  rotate_left
  · (intro wS hSw; obtain ⟨c0, c1, c2, -, -⟩ := B5.out.later (After.trans (After.drew (After.refl _)) (After.trans hO (After.trans hbc hSw))); go_simp; try with_reducible rfl)
  try simp only [Act.put, List.getElem_toArray, List.getElem_cons_succ, List.getElem_cons_zero, List.setIfInBounds_toArray, List.set_cons_zero, List.set_cons_succ]
  refine Script.load (i := 24) (v := ?_) rfl (by kernel_rfl) (by kernel_rfl) (fun _ _ _ h => h) (by kernel_rfl) ?_ ?_
  rotate_left
  · (intro wS hSw; obtain ⟨c0, c1, c2, -, -⟩ := B5.out.later (After.trans (After.drew (After.refl _)) (After.trans hO (After.trans hbc hSw))); go_simp; try with_reducible rfl)
  try simp only [Act.put, List.getElem_toArray, List.getElem_cons_succ, List.getElem_cons_zero, List.setIfInBounds_toArray, List.set_cons_zero, List.set_cons_succ]
  refine Script.call (i := 25) (v := ?_) rfl (by kernel_rfl) (by kernel_rfl) (fun _ _ _ h => h) (by kernel_rfl) ?_ ?_
  rotate_left
  · (intro wS hSw K hK; obtain ⟨c0, c1, c2, -, -⟩ := B5.out.later (After.trans (After.drew (After.refl _)) (After.trans hO (After.trans hbc hSw))); go_simp; go_at_call 54; refine (K7.out _).mono ?_; rintro e wd ⟨rfl, hbc⟩; exact hK.out _ hbc)
  try simp only [Act.put, List.getElem_toArray, List.getElem_cons_succ, List.getElem_cons_zero, List.setIfInBounds_toArray, List.set_cons_zero, List.set_cons_succ]
  refine Script.load (i := 26) (v := ?_) rfl (by kernel_rfl) (by kernel_rfl) (fun _ _ _ h => h) (by kernel_rfl) ?_ ?_
  rotate_left
  · (intro wS hSw; obtain ⟨c0, c1, c2, -, -⟩ := B5.out.later (After.trans (After.drew (After.refl _)) (After.trans hO (After.trans hbc hSw))); go_simp; try with_reducible rfl)
  try simp only [Act.put, List.getElem_toArray, List.getElem_cons_succ, List.getElem_cons_zero, List.setIfInBounds_toArray, List.set_cons_zero, List.set_cons_succ]
  refine Script.load (i := 27) (v := ?_) rfl (by kernel_rfl) (by kernel_rfl) (fun _ _ _ h => h) (by kernel_rfl) ?_ ?_
  rotate_left
  · (intro wS hSw; obtain ⟨c0, c1, c2, -, -⟩ := B5.out.later (After.trans (After.drew (After.refl _)) (After.trans hO (After.trans hbc hSw))); go_simp; try with_reducible rfl)
  try simp only [Act.put, List.getElem_toArray, List.getElem_cons_succ, List.getElem_cons_zero, List.setIfInBounds_toArray, List.set_cons_zero, List.set_cons_succ]
  refine Script.load (i := 28) (v := ?_) rfl (by kernel_rfl) (by kernel_rfl) (fun _ _ _ h => h) (by kernel_rfl) ?_ ?_
  rotate_left
  · (intro wS hSw; obtain ⟨c0, c1, c2, -, -⟩ := B5.out.later (After.trans (After.drew (After.refl _)) (After.trans hO (After.trans hbc hSw))); go_simp; try with_reducible rfl)
  try simp only [Act.put, List.getElem_toArray, List.getElem_cons_succ, List.getElem_cons_zero, List.setIfInBounds_toArray, List.set_cons_zero, List.set_cons_succ]
  refine Script.load (i := 29) (v := ?_) rfl (by kernel_rfl) (by kernel_rfl) (fun _ _ _ h => h) (by kernel_rfl) ?_ ?_
  rotate_left
  · (intro wS hSw; obtain ⟨c0, c1, c2, -, -⟩ := B5.out.later (After.trans (After.drew (After.refl _)) (After.trans hO (After.trans hbc hSw))); go_simp; try with_reducible rfl)
  try simp only [Act.put, List.getElem_toArray, List.getElem_cons_succ, List.getElem_cons_zero, List.setIfInBounds_toArray, List.set_cons_zero, List.set_cons_succ]
  refine Script.load (i := 30) (v := ?_) rfl (by kernel_rfl) (by kernel_rfl) (fun _ _ _ h => h) (by kernel_rfl) ?_ ?_
  rotate_left
  · (intro wS hSw; obtain ⟨c0, c1, c2, -, -⟩ := B5.out.later (After.trans (After.drew (After.refl _)) (After.trans hO (After.trans hbc hSw))); go_simp; try with_reducible rfl)
  try simp only [Act.put, List.getElem_toArray, List.getElem_cons_succ, List.getElem_cons_zero, List.setIfInBounds_toArray, List.set_cons_zero, List.set_cons_succ]
  refine Script.call (i := 31) (v := ?_) rfl (by kernel_rfl) (by kernel_rfl) (fun _ _ _ h => h) (by kernel_rfl) ?_ ?_
  rotate_left
  · (intro wS hSw K hK; obtain ⟨c0, c1, c2, -, -⟩ := B5.out.later (After.trans (After.drew (After.refl _)) (After.trans hO (After.trans hbc hSw))); go_simp; go_at_call 55; refine (K8.out _).mono ?_; rintro e wd ⟨rfl, hbc⟩; exact hK.out _ hbc)
  try simp only [Act.put, List.getElem_toArray, List.getElem_cons_succ, List.getElem_cons_zero, List.setIfInBounds_toArray, List.set_cons_zero, List.set_cons_succ]
  refine Script.load (i := 32) (v := ?_) rfl (by kernel_rfl) (by kernel_rfl) (fun _ _ _ h => h) (by kernel_rfl) ?_ ?_
  rotate_left
  · (intro wS hSw; obtain ⟨c0, c1, c2, -, -⟩ := B5.out.later (After.trans (After.drew (After.refl _)) (After.trans hO (After.trans hbc hSw))); go_simp; try with_reducible rfl)
  try simp only [Act.put, List.getElem_toArray, List.getElem_cons_succ, List.getElem_cons_zero, List.setIfInBounds_toArray, List.set_cons_zero, List.set_cons_succ]
  refine Script.load (i := 33) (v := ?_) rfl (by kernel_rfl) (by kernel_rfl) (fun _ _ _ h => h) (by kernel_rfl) ?_ ?_
  rotate_left
  · (intro wS hSw; obtain ⟨c0, c1, c2, -, -⟩ := B5.out.later (After.trans (After.drew (After.refl _)) (After.trans hO (After.trans hbc hSw))); go_simp; try with_reducible rfl)
  try simp only [Act.put, List.getElem_toArray, List.getElem_cons_succ, List.getElem_cons_zero, List.setIfInBounds_toArray, List.set_cons_zero, List.set_cons_succ]
  refine Script.call (i := 34) (v := ?_) rfl (by kernel_rfl) (by kernel_rfl) (fun _ _ _ h => h) (by kernel_rfl) ?_ ?_
  rotate_left
  · (intro wS hSw K hK; obtain ⟨c0, c1, c2, -, -⟩ := B5.out.later (After.trans (After.drew (After.refl _)) (After.trans hO (After.trans hbc hSw))); go_simp; go_at_call 55; refine (K9.out _).mono ?_; rintro e wd ⟨rfl, hbc⟩; exact hK.out _ hbc)
  try simp only [Act.put, List.getElem_toArray, List.getElem_cons_succ, List.getElem_cons_zero, List.setIfInBounds_toArray, List.set_cons_zero, List.set_cons_succ]
  refine Script.load (i := 35) (v := ?_) rfl (by kernel_rfl) (by kernel_rfl) (fun _ _ _ h => h) (by kernel_rfl) ?_ ?_
  rotate_left
  · (intro wS hSw; obtain ⟨c0, c1, c2, -, -⟩ := B5.out.later (After.trans (After.drew (After.refl _)) (After.trans hO (After.trans hbc hSw))); go_simp; try with_reducible rfl)
  try simp only [Act.put, List.getElem_toArray, List.getElem_cons_succ, List.getElem_cons_zero, List.setIfInBounds_toArray, List.set_cons_zero, List.set_cons_succ]
  refine Script.load (i := 36) (v := ?_) rfl (by kernel_rfl) (by kernel_rfl) (fun _ _ _ h => h) (by kernel_rfl) ?_ ?_
  rotate_left
  · (intro wS hSw; obtain ⟨c0, c1, c2, -, -⟩ := B5.out.later (After.trans (After.drew (After.refl _)) (After.trans hO (After.trans hbc hSw))); go_simp; try with_reducible rfl)
  try simp only [Act.put, List.getElem_toArray, List.getElem_cons_succ, List.getElem_cons_zero, List.setIfInBounds_toArray, List.set_cons_zero, List.set_cons_succ]
  refine Script.done (by kernel_rfl) ?_
  intro wD hD hG
  have hb6 := After.trans (After.drew (After.refl _)) (After.trans hO (After.trans hbc hD))
  have B6 := Lib.hid (B5.out.later hb6)
  have RC6 := Lib.hid (own_below RC5.out hb6)
  have RD6 := Lib.hid (own_below RD5.out hb6)
  have RF6 := Lib.hid (own_below RF5.out hb6)
  clear hb6 hD hG hO hbc hk B5 RC5 RD5 RK5 RF5 K1 K2 K3 K4 K5 K6 K7 K8 K9
  generalize wD = w8 at *
  go_wp2_with fail
  go_loopw [12] (fun i wr => ∃ k : Nat, k ≤ 6 ∧ i = .int .i64 k ∧ Hid (Below w8.heap.size w8 wr)) (fun i _ => 6 - (intOf i).toNat)
  case atStart => exact ⟨0, by omega, rfl, Below.refl _ _⟩
  case round =>
    obtain ⟨k, hk6, rfl, hw⟩ := hrel
    by_cases hlt : k < 6
    · have k0 : (0 : Int) ≤ (k : Int) := by omega
      have k1 : (k : Int) < 6 := by omega
      obtain ⟨u, v, hu, hv, huv⟩ := CC.out k hlt
      have CE : Hid (∀ w' : World, After wr w' → w'.cell? ⟨cg, k, none⟩ = some (.int .i64 (u : Int)) ∧ w'.cell? ⟨dg, k, none⟩ = some (.int .i64 (v : Int))) := fun w' hh =>
        ⟨own_cell (own_below (own_below RC6.out hw.out) hh) k hlt _ (by simp [Ints, hu]), own_cell (own_below (own_below RD6.out hw.out) hh) k hlt _ (by simp [Ints, hv])⟩
      clear hu hv CC RC6 RD6 RF6 FF
      go_wp2_with fail
      refine wp_region_script (by kernel_rfl) (by kernel_rfl) ?_
      refine Script.load (i := 0) (v := ?_) rfl (by kernel_rfl) (by kernel_rfl) (fun _ _ _ h => h) (by kernel_rfl) ?_ ?_
      rotate_left
      · (intro wS hSw; obtain ⟨l0, l1⟩ := CE.out _ (After.trans (After.drew (After.refl _)) hSw); go_simp; try with_reducible rfl)
      try simp only [Act.put, List.getElem_toArray, List.getElem_cons_succ, List.getElem_cons_zero, List.setIfInBounds_toArray, List.set_cons_zero, List.set_cons_succ]
      refine Script.load (i := 1) (v := ?_) rfl (by kernel_rfl) (by kernel_rfl) (fun _ _ _ h => h) (by kernel_rfl) ?_ ?_
      rotate_left
      · (intro wS hSw; obtain ⟨l0, l1⟩ := CE.out _ (After.trans (After.drew (After.refl _)) hSw); go_simp; try with_reducible rfl)
      try simp only [Act.put, List.getElem_toArray, List.getElem_cons_succ, List.getElem_cons_zero, List.setIfInBounds_toArray, List.set_cons_zero, List.set_cons_succ]
      refine Script.load (i := 2) (v := ?_) rfl (by kernel_rfl) (by kernel_rfl) (fun _ _ _ h => h) (by kernel_rfl) ?_ ?_
      rotate_left
      · (intro wS hSw; obtain ⟨l0, l1⟩ := CE.out _ (After.trans (After.drew (After.refl _)) hSw); go_simp; try with_reducible rfl)
      try simp only [Act.put, List.getElem_toArray, List.getElem_cons_succ, List.getElem_cons_zero, List.setIfInBounds_toArray, List.set_cons_zero, List.set_cons_succ]
      refine Script.load (i := 3) (v := ?_) rfl (by kernel_rfl) (by kernel_rfl) (fun _ _ _ h => h) (by kernel_rfl) ?_ ?_
      rotate_left
      · (intro wS hSw; obtain ⟨l0, l1⟩ := CE.out _ (After.trans (After.drew (After.refl _)) hSw); go_simp; try with_reducible rfl)
      try simp only [Act.put, List.getElem_toArray, List.getElem_cons_succ, List.getElem_cons_zero, List.setIfInBounds_toArray, List.set_cons_zero, List.set_cons_succ]
      refine Script.load (i := 4) (v := ?_) rfl (by kernel_rfl) (by kernel_rfl) (fun _ _ _ h => h) (by kernel_rfl) ?_ ?_
      rotate_left
      · (intro wS hSw; obtain ⟨l0, l1⟩ := CE.out _ (After.trans (After.drew (After.refl _)) hSw); go_simp; try with_reducible rfl)
      try simp only [Act.put, List.getElem_toArray, List.getElem_cons_succ, List.getElem_cons_zero, List.setIfInBounds_toArray, List.set_cons_zero, List.set_cons_succ]
      refine Script.load (i := 5) (v := ?_) rfl (by kernel_rfl) (by kernel_rfl) (fun _ _ _ h => h) (by kernel_rfl) ?_ ?_
      rotate_left
      · (intro wS hSw; obtain ⟨l0, l1⟩ := CE.out _ (After.trans (After.drew (After.refl _)) hSw); go_simp; try with_reducible rfl)
      try simp only [Act.put, List.getElem_toArray, List.getElem_cons_succ, List.getElem_cons_zero, List.setIfInBounds_toArray, List.set_cons_zero, List.set_cons_succ]
      refine Script.load (i := 6) (v := ?_) rfl (by kernel_rfl) (by kernel_rfl) (fun _ _ _ h => h) (by kernel_rfl) ?_ ?_
      rotate_left
      · (intro wS hSw; obtain ⟨l0, l1⟩ := CE.out _ (After.trans (After.drew (After.refl _)) hSw); go_simp; try with_reducible rfl)
      try simp only [Act.put, List.getElem_toArray, List.getElem_cons_succ, List.getElem_cons_zero, List.setIfInBounds_toArray, List.set_cons_zero, List.set_cons_succ]
      refine Script.load (i := 7) (v := ?_) rfl (by kernel_rfl) (by kernel_rfl) (fun _ _ _ h => h) (by kernel_rfl) ?_ ?_
      rotate_left
      · (intro wS hSw; obtain ⟨l0, l1⟩ := CE.out _ (After.trans (After.drew (After.refl _)) hSw); go_simp; try with_reducible rfl)
      try simp only [Act.put, List.getElem_toArray, List.getElem_cons_succ, List.getElem_cons_zero, List.setIfInBounds_toArray, List.set_cons_zero, List.set_cons_succ]
      refine Script.load (i := 8) (v := ?_) rfl (by kernel_rfl) (by kernel_rfl) (fun _ _ _ h => h) (by kernel_rfl) ?_ ?_
      rotate_left
      · (intro wS hSw; obtain ⟨l0, l1⟩ := CE.out _ (After.trans (After.drew (After.refl _)) hSw); go_simp; try with_reducible rfl)
      try simp only [Act.put, List.getElem_toArray, List.getElem_cons_succ, List.getElem_cons_zero, List.setIfInBounds_toArray, List.set_cons_zero, List.set_cons_succ]
      refine Script.load (i := 9) (v := ?_) rfl (by kernel_rfl) (by kernel_rfl) (fun _ _ _ h => h) (by kernel_rfl) ?_ ?_
      rotate_left
      · (intro wS hSw; obtain ⟨l0, l1⟩ := CE.out _ (After.trans (After.drew (After.refl _)) hSw); go_simp; try with_reducible rfl)
      try simp only [Act.put, List.getElem_toArray, List.getElem_cons_succ, List.getElem_cons_zero, List.setIfInBounds_toArray, List.set_cons_zero, List.set_cons_succ]
      refine Script.load (i := 10) (v := ?_) rfl (by kernel_rfl) (by kernel_rfl) (fun _ _ _ h => h) (by kernel_rfl) ?_ ?_
      rotate_left
      · (intro wS hSw; obtain ⟨l0, l1⟩ := CE.out _ (After.trans (After.drew (After.refl _)) hSw); go_simp; try with_reducible rfl)
      try simp only [Act.put, List.getElem_toArray, List.getElem_cons_succ, List.getElem_cons_zero, List.setIfInBounds_toArray, List.set_cons_zero, List.set_cons_succ]
      refine Script.load (i := 11) (v := ?_) rfl (by kernel_rfl) (by kernel_rfl) (fun _ _ _ h => h) (by kernel_rfl) ?_ ?_
      rotate_left
      · (intro wS hSw; obtain ⟨l0, l1⟩ := CE.out _ (After.trans (After.drew (After.refl _)) hSw); go_simp; try with_reducible rfl)
      try simp only [Act.put, List.getElem_toArray, List.getElem_cons_succ, List.getElem_cons_zero, List.setIfInBounds_toArray, List.set_cons_zero, List.set_cons_succ]
      refine Script.load (i := 12) (v := ?_) rfl (by kernel_rfl) (by kernel_rfl) (fun _ _ _ h => h) (by kernel_rfl) ?_ ?_
      rotate_left
      · (intro wS hSw; obtain ⟨l0, l1⟩ := CE.out _ (After.trans (After.drew (After.refl _)) hSw); go_simp; try with_reducible rfl)
      try simp only [Act.put, List.getElem_toArray, List.getElem_cons_succ, List.getElem_cons_zero, List.setIfInBounds_toArray, List.set_cons_zero, List.set_cons_succ]
      refine Script.load (i := 13) (v := ?_) rfl (by kernel_rfl) (by kernel_rfl) (fun _ _ _ h => h) (by kernel_rfl) ?_ ?_
      rotate_left
      · (intro wS hSw; obtain ⟨l0, l1⟩ := CE.out _ (After.trans (After.drew (After.refl _)) hSw); go_simp; try with_reducible rfl)
      try simp only [Act.put, List.getElem_toArray, List.getElem_cons_succ, List.getElem_cons_zero, List.setIfInBounds_toArray, List.set_cons_zero, List.set_cons_succ]
      refine Script.done (by kernel_rfl) ?_
      intro wD hD hG
      have hb7 := After.trans (After.drew (After.refl _)) hD
      have hw7 := Lib.hid (hw.out.trans (hb7.mono hw.out.size))
      clear hD hG hb7 hw
      go_wp2_with fail
      go_roundw
      case rel => exact ⟨k + 1, by omega, by go_num, hw7⟩
      case measure => simp [intOf]; omega
    · obtain rfl : k = 6 := by omega
      have B7 := Lib.hid (B6.out.later hw.out)
      have RF7 := Lib.hid (own_below RF6.out hw.out)
      clear CC RC6 RD6 RF6 B6 hw EO
      generalize wr = w9 at *
      go_wp2_with fail
      go_loopw [13] (fun i wr => ∃ k : Nat, 1 ≤ k ∧ (k ≤ m ∨ k = 1) ∧ i = .int .i64 k ∧ Hid (Below w9.heap.size w9 wr)) (fun i _ => m - (intOf i).toNat)
      case atStart => exact ⟨1, by omega, .inr rfl, rfl, Below.refl _ _⟩
      case round =>
        obtain ⟨k, hk1, hkm, rfl, hw⟩ := hrel
        by_cases hlt : k < m
        · have k0 : (0 : Int) ≤ (k : Int) := by omega
          have k1 : (k : Int) < (m : Int) := by omega
          have m0 : (0 : Int) < (m : Int) := by omega
          have m0' : 0 < m := by omega
          obtain ⟨g, rfl⟩ : ∃ g, fg = some ⟨g, 0, none⟩ := by
            rcases Go.Joins.ownsRow_forms RF7.out with ⟨h, h0⟩ | ⟨g, cap, h⟩
            · omega
            · injection h with h1 h2 h3; exact ⟨g, h1⟩
          obtain ⟨u, u0, hu, hu0, h49, h490, e1, e2⟩ := FF.out k hk1 hlt
          obtain ⟨x, x0, y, y0, d, e, p1, p2, p3, p4, p5, p6, p7, p8, p9, p10, p11, p12⟩ := apart_facts ha h49 h490 e1 e2
          have pa : ¬ a = 0 := by omega
          have CE : Hid (∀ w' : World, After wr w' → w'.cell? ⟨g, k, none⟩ = some (.int .i64 (u : Int)) ∧ w'.cell? ⟨g, 0, none⟩ = some (.int .i64 (u0 : Int))) := fun w' hh =>
            ⟨own_cell (own_below (own_below RF7.out hw.out) hh) k hlt _ (by simp [Ints, hu]), own_cell (own_below (own_below RF7.out hw.out) hh) 0 (by omega) _ (by simp [Ints, hu0])⟩
          have B8 := Lib.hid (B7.out.later hw.out)
          clear hu hu0 FF h49 h490 e1 e2 RF7
          go_wp2_with fail
          refine wp_region_script (by kernel_rfl) (by kernel_rfl) ?_
          refine Script.load (i := 0) (v := ?_) rfl (by kernel_rfl) (by kernel_rfl) (fun _ _ _ h => h) (by kernel_rfl) ?_ ?_
          rotate_left
          · (intro wS hSw; obtain ⟨l0, l1⟩ := CE.out _ (After.trans (After.drew (After.refl _)) hSw); obtain ⟨c0, c1, c2, -, -⟩ := B8.out.later (After.trans (After.drew (After.refl _)) hSw); go_simp; try with_reducible rfl)
          try simp only [Act.put, List.getElem_toArray, List.getElem_cons_succ, List.getElem_cons_zero, List.setIfInBounds_toArray, List.set_cons_zero, List.set_cons_succ]
          refine Script.load (i := 1) (v := ?_) rfl (by kernel_rfl) (by kernel_rfl) (fun _ _ _ h => h) (by kernel_rfl) ?_ ?_
          rotate_left
          · (intro wS hSw; obtain ⟨l0, l1⟩ := CE.out _ (After.trans (After.drew (After.refl _)) hSw); obtain ⟨c0, c1, c2, -, -⟩ := B8.out.later (After.trans (After.drew (After.refl _)) hSw); go_simp; try with_reducible rfl)
          try simp only [Act.put, List.getElem_toArray, List.getElem_cons_succ, List.getElem_cons_zero, List.setIfInBounds_toArray, List.set_cons_zero, List.set_cons_succ]
          refine Script.load (i := 2) (v := ?_) rfl (by kernel_rfl) (by kernel_rfl) (fun _ _ _ h => h) (by kernel_rfl) ?_ ?_
          rotate_left
          · (intro wS hSw; obtain ⟨l0, l1⟩ := CE.out _ (After.trans (After.drew (After.refl _)) hSw); obtain ⟨c0, c1, c2, -, -⟩ := B8.out.later (After.trans (After.drew (After.refl _)) hSw); go_simp; try with_reducible rfl)
          try simp only [Act.put, List.getElem_toArray, List.getElem_cons_succ, List.getElem_cons_zero, List.setIfInBounds_toArray, List.set_cons_zero, List.set_cons_succ]
          refine Script.load (i := 3) (v := ?_) rfl (by kernel_rfl) (by kernel_rfl) (fun _ _ _ h => h) (by kernel_rfl) ?_ ?_
          rotate_left
          · (intro wS hSw; obtain ⟨l0, l1⟩ := CE.out _ (After.trans (After.drew (After.refl _)) hSw); obtain ⟨c0, c1, c2, -, -⟩ := B8.out.later (After.trans (After.drew (After.refl _)) hSw); go_simp; try with_reducible rfl)
          try simp only [Act.put, List.getElem_toArray, List.getElem_cons_succ, List.getElem_cons_zero, List.setIfInBounds_toArray, List.set_cons_zero, List.set_cons_succ]
          refine Script.load (i := 4) (v := ?_) rfl (by kernel_rfl) (by kernel_rfl) (fun _ _ _ h => h) (by kernel_rfl) ?_ ?_
          rotate_left
          · (intro wS hSw; obtain ⟨l0, l1⟩ := CE.out _ (After.trans (After.drew (After.refl _)) hSw); obtain ⟨c0, c1, c2, -, -⟩ := B8.out.later (After.trans (After.drew (After.refl _)) hSw); go_simp; try with_reducible rfl)
          try simp only [Act.put, List.getElem_toArray, List.getElem_cons_succ, List.getElem_cons_zero, List.setIfInBounds_toArray, List.set_cons_zero, List.set_cons_succ]
          refine Script.load (i := 5) (v := ?_) rfl (by kernel_rfl) (by kernel_rfl) (fun _ _ _ h => h) (by kernel_rfl) ?_ ?_
          rotate_left
          · (intro wS hSw; obtain ⟨l0, l1⟩ := CE.out _ (After.trans (After.drew (After.refl _)) hSw); obtain ⟨c0, c1, c2, -, -⟩ := B8.out.later (After.trans (After.drew (After.refl _)) hSw); go_simp; try with_reducible rfl)
          try simp only [Act.put, List.getElem_toArray, List.getElem_cons_succ, List.getElem_cons_zero, List.setIfInBounds_toArray, List.set_cons_zero, List.set_cons_succ]
          refine Script.load (i := 6) (v := ?_) rfl (by kernel_rfl) (by kernel_rfl) (fun _ _ _ h => h) (by kernel_rfl) ?_ ?_
          rotate_left
          · (intro wS hSw; obtain ⟨l0, l1⟩ := CE.out _ (After.trans (After.drew (After.refl _)) hSw); obtain ⟨c0, c1, c2, -, -⟩ := B8.out.later (After.trans (After.drew (After.refl _)) hSw); go_simp; try with_reducible rfl)
          try simp only [Act.put, List.getElem_toArray, List.getElem_cons_succ, List.getElem_cons_zero, List.setIfInBounds_toArray, List.set_cons_zero, List.set_cons_succ]
          refine Script.load (i := 7) (v := ?_) rfl (by kernel_rfl) (by kernel_rfl) (fun _ _ _ h => h) (by kernel_rfl) ?_ ?_
          rotate_left
          · (intro wS hSw; obtain ⟨l0, l1⟩ := CE.out _ (After.trans (After.drew (After.refl _)) hSw); obtain ⟨c0, c1, c2, -, -⟩ := B8.out.later (After.trans (After.drew (After.refl _)) hSw); go_simp; try with_reducible rfl)
          try simp only [Act.put, List.getElem_toArray, List.getElem_cons_succ, List.getElem_cons_zero, List.setIfInBounds_toArray, List.set_cons_zero, List.set_cons_succ]
          refine Script.load (i := 8) (v := ?_) rfl (by kernel_rfl) (by kernel_rfl) (fun _ _ _ h => h) (by kernel_rfl) ?_ ?_
          rotate_left
          · (intro wS hSw; obtain ⟨l0, l1⟩ := CE.out _ (After.trans (After.drew (After.refl _)) hSw); obtain ⟨c0, c1, c2, -, -⟩ := B8.out.later (After.trans (After.drew (After.refl _)) hSw); go_simp; try with_reducible rfl)
          try simp only [Act.put, List.getElem_toArray, List.getElem_cons_succ, List.getElem_cons_zero, List.setIfInBounds_toArray, List.set_cons_zero, List.set_cons_succ]
          refine Script.load (i := 9) (v := ?_) rfl (by kernel_rfl) (by kernel_rfl) (fun _ _ _ h => h) (by kernel_rfl) ?_ ?_
          rotate_left
          · (intro wS hSw; obtain ⟨l0, l1⟩ := CE.out _ (After.trans (After.drew (After.refl _)) hSw); obtain ⟨c0, c1, c2, -, -⟩ := B8.out.later (After.trans (After.drew (After.refl _)) hSw); go_simp; try with_reducible rfl)
          try simp only [Act.put, List.getElem_toArray, List.getElem_cons_succ, List.getElem_cons_zero, List.setIfInBounds_toArray, List.set_cons_zero, List.set_cons_succ]
          refine Script.load (i := 10) (v := ?_) rfl (by kernel_rfl) (by kernel_rfl) (fun _ _ _ h => h) (by kernel_rfl) ?_ ?_
          rotate_left
          · (intro wS hSw; obtain ⟨l0, l1⟩ := CE.out _ (After.trans (After.drew (After.refl _)) hSw); obtain ⟨c0, c1, c2, -, -⟩ := B8.out.later (After.trans (After.drew (After.refl _)) hSw); go_simp; try with_reducible rfl)
          try simp only [Act.put, List.getElem_toArray, List.getElem_cons_succ, List.getElem_cons_zero, List.setIfInBounds_toArray, List.set_cons_zero, List.set_cons_succ]
          refine Script.load (i := 11) (v := ?_) rfl (by kernel_rfl) (by kernel_rfl) (fun _ _ _ h => h) (by kernel_rfl) ?_ ?_
          rotate_left
          · (intro wS hSw; obtain ⟨l0, l1⟩ := CE.out _ (After.trans (After.drew (After.refl _)) hSw); obtain ⟨c0, c1, c2, -, -⟩ := B8.out.later (After.trans (After.drew (After.refl _)) hSw); go_simp; try with_reducible rfl)
          try simp only [Act.put, List.getElem_toArray, List.getElem_cons_succ, List.getElem_cons_zero, List.setIfInBounds_toArray, List.set_cons_zero, List.set_cons_succ]
          refine Script.load (i := 12) (v := ?_) rfl (by kernel_rfl) (by kernel_rfl) (fun _ _ _ h => h) (by kernel_rfl) ?_ ?_
          rotate_left
          · (intro wS hSw; obtain ⟨l0, l1⟩ := CE.out _ (After.trans (After.drew (After.refl _)) hSw); obtain ⟨c0, c1, c2, -, -⟩ := B8.out.later (After.trans (After.drew (After.refl _)) hSw); go_simp; try with_reducible rfl)
          try simp only [Act.put, List.getElem_toArray, List.getElem_cons_succ, List.getElem_cons_zero, List.setIfInBounds_toArray, List.set_cons_zero, List.set_cons_succ]
          refine Script.load (i := 13) (v := ?_) rfl (by kernel_rfl) (by kernel_rfl) (fun _ _ _ h => h) (by kernel_rfl) ?_ ?_
          rotate_left
          · (intro wS hSw; obtain ⟨l0, l1⟩ := CE.out _ (After.trans (After.drew (After.refl _)) hSw); obtain ⟨c0, c1, c2, -, -⟩ := B8.out.later (After.trans (After.drew (After.refl _)) hSw); go_simp; try with_reducible rfl)
          try simp only [Act.put, List.getElem_toArray, List.getElem_cons_succ, List.getElem_cons_zero, List.setIfInBounds_toArray, List.set_cons_zero, List.set_cons_succ]
          refine Script.load (i := 14) (v := ?_) rfl (by kernel_rfl) (by kernel_rfl) (fun _ _ _ h => h) (by kernel_rfl) ?_ ?_
          rotate_left
          · (intro wS hSw; obtain ⟨l0, l1⟩ := CE.out _ (After.trans (After.drew (After.refl _)) hSw); obtain ⟨c0, c1, c2, -, -⟩ := B8.out.later (After.trans (After.drew (After.refl _)) hSw); go_simp; try with_reducible rfl)
          try simp only [Act.put, List.getElem_toArray, List.getElem_cons_succ, List.getElem_cons_zero, List.setIfInBounds_toArray, List.set_cons_zero, List.set_cons_succ]
          refine Script.done (by kernel_rfl) ?_
          intro wD hD hG
          have hb7 := After.trans (After.drew (After.refl _)) hD
          have hw7 := Lib.hid (hw.out.trans (hb7.mono hw.out.size))
          have B9 := Lib.hid (B8.out.later hb7)
          have CE2 : Hid (∀ w' : World, After wD w' → w'.cell? ⟨g, k, none⟩ = some (.int .i64 (u : Int)) ∧ w'.cell? ⟨g, 0, none⟩ = some (.int .i64 (u0 : Int))) := fun w' hh => CE.out w' (After.trans hb7 hh)
          clear hD hG hb7 hw B8 CE
          generalize wD = wE at *
          go_wp2_with fail
          refine wp_region_script (by kernel_rfl) (by kernel_rfl) ?_
          refine Script.load (i := 0) (v := ?_) rfl (by kernel_rfl) (by kernel_rfl) (fun _ _ _ h => h) (by kernel_rfl) ?_ ?_
          rotate_left
          · (intro wS hSw; obtain ⟨l0, l1⟩ := CE2.out _ (After.trans (After.drew (After.refl _)) hSw); obtain ⟨c0, c1, c2, -, -⟩ := B9.out.later (After.trans (After.drew (After.refl _)) hSw); go_simp; try with_reducible rfl)
          try simp only [Act.put, List.getElem_toArray, List.getElem_cons_succ, List.getElem_cons_zero, List.setIfInBounds_toArray, List.set_cons_zero, List.set_cons_succ]
          refine Script.load (i := 1) (v := ?_) rfl (by kernel_rfl) (by kernel_rfl) (fun _ _ _ h => h) (by kernel_rfl) ?_ ?_
          rotate_left
          · (intro wS hSw; obtain ⟨l0, l1⟩ := CE2.out _ (After.trans (After.drew (After.refl _)) hSw); obtain ⟨c0, c1, c2, -, -⟩ := B9.out.later (After.trans (After.drew (After.refl _)) hSw); go_simp; try with_reducible rfl)
          try simp only [Act.put, List.getElem_toArray, List.getElem_cons_succ, List.getElem_cons_zero, List.setIfInBounds_toArray, List.set_cons_zero, List.set_cons_succ]
          refine Script.load (i := 2) (v := ?_) rfl (by kernel_rfl) (by kernel_rfl) (fun _ _ _ h => h) (by kernel_rfl) ?_ ?_
          rotate_left
          · (intro wS hSw; obtain ⟨l0, l1⟩ := CE2.out _ (After.trans (After.drew (After.refl _)) hSw); obtain ⟨c0, c1, c2, -, -⟩ := B9.out.later (After.trans (After.drew (After.refl _)) hSw); go_simp; try with_reducible rfl)
          try simp only [Act.put, List.getElem_toArray, List.getElem_cons_succ, List.getElem_cons_zero, List.setIfInBounds_toArray, List.set_cons_zero, List.set_cons_succ]
          refine Script.load (i := 3) (v := ?_) rfl (by kernel_rfl) (by kernel_rfl) (fun _ _ _ h => h) (by kernel_rfl) ?_ ?_
          rotate_left
          · (intro wS hSw; obtain ⟨l0, l1⟩ := CE2.out _ (After.trans (After.drew (After.refl _)) hSw); obtain ⟨c0, c1, c2, -, -⟩ := B9.out.later (After.trans (After.drew (After.refl _)) hSw); go_simp; try with_reducible rfl)
          try simp only [Act.put, List.getElem_toArray, List.getElem_cons_succ, List.getElem_cons_zero, List.setIfInBounds_toArray, List.set_cons_zero, List.set_cons_succ]
          refine Script.load (i := 4) (v := ?_) rfl (by kernel_rfl) (by kernel_rfl) (fun _ _ _ h => h) (by kernel_rfl) ?_ ?_
          rotate_left
          · (intro wS hSw; obtain ⟨l0, l1⟩ := CE2.out _ (After.trans (After.drew (After.refl _)) hSw); obtain ⟨c0, c1, c2, -, -⟩ := B9.out.later (After.trans (After.drew (After.refl _)) hSw); go_simp; try with_reducible rfl)
          try simp only [Act.put, List.getElem_toArray, List.getElem_cons_succ, List.getElem_cons_zero, List.setIfInBounds_toArray, List.set_cons_zero, List.set_cons_succ]
          refine Script.load (i := 5) (v := ?_) rfl (by kernel_rfl) (by kernel_rfl) (fun _ _ _ h => h) (by kernel_rfl) ?_ ?_
          rotate_left
          · (intro wS hSw; obtain ⟨l0, l1⟩ := CE2.out _ (After.trans (After.drew (After.refl _)) hSw); obtain ⟨c0, c1, c2, -, -⟩ := B9.out.later (After.trans (After.drew (After.refl _)) hSw); go_simp; try with_reducible rfl)
          try simp only [Act.put, List.getElem_toArray, List.getElem_cons_succ, List.getElem_cons_zero, List.setIfInBounds_toArray, List.set_cons_zero, List.set_cons_succ]
          refine Script.load (i := 6) (v := ?_) rfl (by kernel_rfl) (by kernel_rfl) (fun _ _ _ h => h) (by kernel_rfl) ?_ ?_
          rotate_left
          · (intro wS hSw; obtain ⟨l0, l1⟩ := CE2.out _ (After.trans (After.drew (After.refl _)) hSw); obtain ⟨c0, c1, c2, -, -⟩ := B9.out.later (After.trans (After.drew (After.refl _)) hSw); go_simp; try with_reducible rfl)
          try simp only [Act.put, List.getElem_toArray, List.getElem_cons_succ, List.getElem_cons_zero, List.setIfInBounds_toArray, List.set_cons_zero, List.set_cons_succ]
          refine Script.load (i := 7) (v := ?_) rfl (by kernel_rfl) (by kernel_rfl) (fun _ _ _ h => h) (by kernel_rfl) ?_ ?_
          rotate_left
          · (intro wS hSw; obtain ⟨l0, l1⟩ := CE2.out _ (After.trans (After.drew (After.refl _)) hSw); obtain ⟨c0, c1, c2, -, -⟩ := B9.out.later (After.trans (After.drew (After.refl _)) hSw); go_simp; try with_reducible rfl)
          try simp only [Act.put, List.getElem_toArray, List.getElem_cons_succ, List.getElem_cons_zero, List.setIfInBounds_toArray, List.set_cons_zero, List.set_cons_succ]
          refine Script.load (i := 8) (v := ?_) rfl (by kernel_rfl) (by kernel_rfl) (fun _ _ _ h => h) (by kernel_rfl) ?_ ?_
          rotate_left
          · (intro wS hSw; obtain ⟨l0, l1⟩ := CE2.out _ (After.trans (After.drew (After.refl _)) hSw); obtain ⟨c0, c1, c2, -, -⟩ := B9.out.later (After.trans (After.drew (After.refl _)) hSw); go_simp; try with_reducible rfl)
          try simp only [Act.put, List.getElem_toArray, List.getElem_cons_succ, List.getElem_cons_zero, List.setIfInBounds_toArray, List.set_cons_zero, List.set_cons_succ]
          refine Script.load (i := 9) (v := ?_) rfl (by kernel_rfl) (by kernel_rfl) (fun _ _ _ h => h) (by kernel_rfl) ?_ ?_
          rotate_left
          · (intro wS hSw; obtain ⟨l0, l1⟩ := CE2.out _ (After.trans (After.drew (After.refl _)) hSw); obtain ⟨c0, c1, c2, -, -⟩ := B9.out.later (After.trans (After.drew (After.refl _)) hSw); go_simp; try with_reducible rfl)
          try simp only [Act.put, List.getElem_toArray, List.getElem_cons_succ, List.getElem_cons_zero, List.setIfInBounds_toArray, List.set_cons_zero, List.set_cons_succ]
          refine Script.load (i := 10) (v := ?_) rfl (by kernel_rfl) (by kernel_rfl) (fun _ _ _ h => h) (by kernel_rfl) ?_ ?_
          rotate_left
          · (intro wS hSw; obtain ⟨l0, l1⟩ := CE2.out _ (After.trans (After.drew (After.refl _)) hSw); obtain ⟨c0, c1, c2, -, -⟩ := B9.out.later (After.trans (After.drew (After.refl _)) hSw); go_simp; try with_reducible rfl)
          try simp only [Act.put, List.getElem_toArray, List.getElem_cons_succ, List.getElem_cons_zero, List.setIfInBounds_toArray, List.set_cons_zero, List.set_cons_succ]
          refine Script.load (i := 11) (v := ?_) rfl (by kernel_rfl) (by kernel_rfl) (fun _ _ _ h => h) (by kernel_rfl) ?_ ?_
          rotate_left
          · (intro wS hSw; obtain ⟨l0, l1⟩ := CE2.out _ (After.trans (After.drew (After.refl _)) hSw); obtain ⟨c0, c1, c2, -, -⟩ := B9.out.later (After.trans (After.drew (After.refl _)) hSw); go_simp; try with_reducible rfl)
          try simp only [Act.put, List.getElem_toArray, List.getElem_cons_succ, List.getElem_cons_zero, List.setIfInBounds_toArray, List.set_cons_zero, List.set_cons_succ]
          refine Script.load (i := 12) (v := ?_) rfl (by kernel_rfl) (by kernel_rfl) (fun _ _ _ h => h) (by kernel_rfl) ?_ ?_
          rotate_left
          · (intro wS hSw; obtain ⟨l0, l1⟩ := CE2.out _ (After.trans (After.drew (After.refl _)) hSw); obtain ⟨c0, c1, c2, -, -⟩ := B9.out.later (After.trans (After.drew (After.refl _)) hSw); go_simp; try with_reducible rfl)
          try simp only [Act.put, List.getElem_toArray, List.getElem_cons_succ, List.getElem_cons_zero, List.setIfInBounds_toArray, List.set_cons_zero, List.set_cons_succ]
          refine Script.load (i := 13) (v := ?_) rfl (by kernel_rfl) (by kernel_rfl) (fun _ _ _ h => h) (by kernel_rfl) ?_ ?_
          rotate_left
          · (intro wS hSw; obtain ⟨l0, l1⟩ := CE2.out _ (After.trans (After.drew (After.refl _)) hSw); obtain ⟨c0, c1, c2, -, -⟩ := B9.out.later (After.trans (After.drew (After.refl _)) hSw); go_simp; try with_reducible rfl)
          try simp only [Act.put, List.getElem_toArray, List.getElem_cons_succ, List.getElem_cons_zero, List.setIfInBounds_toArray, List.set_cons_zero, List.set_cons_succ]
          refine Script.load (i := 14) (v := ?_) rfl (by kernel_rfl) (by kernel_rfl) (fun _ _ _ h => h) (by kernel_rfl) ?_ ?_
          rotate_left
          · (intro wS hSw; obtain ⟨l0, l1⟩ := CE2.out _ (After.trans (After.drew (After.refl _)) hSw); obtain ⟨c0, c1, c2, -, -⟩ := B9.out.later (After.trans (After.drew (After.refl _)) hSw); go_simp; try with_reducible rfl)
          try simp only [Act.put, List.getElem_toArray, List.getElem_cons_succ, List.getElem_cons_zero, List.setIfInBounds_toArray, List.set_cons_zero, List.set_cons_succ]
          refine Script.done (by kernel_rfl) ?_
          intro wD hD hG
          have hb8 := After.trans (After.drew (After.refl _)) hD
          have hw8 := Lib.hid (hw7.out.trans (hb8.mono hw7.out.size))
          clear hD hG hb8 hw7 B9 CE2
          go_wp2_with fail
          clear p1 p2 p3 p4 p5 p6 p7 p8 p9 p10 p11 p12
          go_roundw
          case rel => exact ⟨k + 1, by omega, .inl (by omega), by go_num, hw8⟩
          case measure => simp [intOf]; omega
        · have B8 := Lib.hid (B7.out.later hw.out)
          have hkm : decide ((k : Int) < (m : Int)) = false := decide_eq_false (by omega)
          clear FF RF7 B7 hw
          obtain ⟨c0, c1, c2, hlt', hbw⟩ := B8.out
          go_wp2_with fail
          refine (KZ.out _).mono ?_
          rintro e wF ⟨rfl, hb⟩
          have B9 := Lib.hid (B8.out.later hb)
          clear c0 c1 c2 hlt' hbw hb B8
          obtain ⟨c0, c1, c2, hlt', hbw⟩ := B9.out
          go_wp2_with fail
          refine (KP.out _).mono ?_
          rintro e wG ⟨rfl, hb⟩
          have HF := Lib.hid (HB1.out.trans ((B9.out.later hb).2.2.2.2.mono HB1.out.size))
          clear c0 c1 c2 hlt' hbw hb B9
          by_cases h1 : cq = 1
          · have hc : ((cq : Int) == 1) = true := by rw [beq_iff_eq]; omega
            have hm0 : (0 : Int) < (m : Int) := by have := hlast h1; omega
            have hm1 : 0 < m := hlast h1
            clear hlast
            go_wp2_with fail
            go_ret
            exact ⟨rfl, HF.out⟩
          · have hc : ((cq : Int) == 1) = false := by rw [beq_eq_false_iff_ne]; omega
            clear hlast
            go_wp2_with fail
            go_ret
            exact ⟨rfl, HF.out⟩
set_option maxRecDepth 100000 in
theorem walk_far {a0 : Option Addr} {len cap : Nat} (w : World) (h : 1048576 < len) :
    Calls Try.prog 7 #[.slice a0 len cap] w fun e w' => e = .returned (.bool true) ∧ Below w.heap.size w w' := by
  go_enter Try.func7, Try.ntmps7
  go_wp2_with fail
  refine (big_yes _ h).mono ?_
  rintro e w' ⟨rfl, rfl⟩
  go_wp2_with fail
  go_ret
  exact ⟨rfl, Below.refl _ _⟩
theorem walk (a0 : Option Addr) (len0 cap0 : Nat) (z0 : List Int) (w : World) (w0 : IsRow .u8 w a0 len0 cap0 z0) :
    Calls Try.prog 7 #[.slice a0 len0 cap0] w fun e w' => e = .returned (.bool true) ∧ Below w.heap.size w w' := by
  by_cases h2 : len0 ≤ 1048576
  · exact walk_in w (code_of w0 h2)
  · exact walk_far w (by omega)
set_option maxRecDepth 100000 in
theorem lifted (os : Os) (started : os.Started) (H : Type) (enc : TypeId × Value → H) :
    ReturnsInHanded {} Try.checked os 7 .any (Rows.fnKeysSpec.pre6 enc Try.prog Try.f7 Rows.fnKeysRow.domain false) (Rows.fnKeysSpec.post enc Try.prog Try.f7 false true false false) := by
  refine returnsInHanded_of_change (C := Try.checked) own started (by kernel_rfl) Try.func7
    (ChangeSpec.witness6 (enc := enc) (C := Try.checked) false ⟨#[], #[.slice none 0 0], []⟩ 8 (by kernel_rfl) (by kernel_rfl) (by kernel_rfl) (by kernel_rfl)) ?_
  intro W base args ds gs before hval0 hW hcnd _
  have hval : ∀ (j : Nat) t v, Try.f7.params[j]? = some t → args[j]? = some v → Value.okWide Try.prog W .any base t v := hval0
  have hW' := hW
  obtain ⟨p, q, hA0, hV, rfl, hfz, hnd⟩ := hW
  have hA : DataW.TrodAll enc Try.prog W 0 (fun _ => true) true Try.f7.params.toList args.toList ds p := hA0
  rw [Try.params7] at hA hval
  obtain ⟨v0, vs0, d0, ds0, p0, q0, hargs, rfl, rfl, h0, r0⟩ := trodAll_cons hA
  obtain ⟨rfl, rfl, rfl⟩ := trodAll_nil r0
  obtain rfl : args = #[v0] := by cases args; simp_all
  obtain ⟨rfl, rfl⟩ := trodVars_none hV
  obtain ⟨a0, len0, cap0, rfl⟩ := okWide_slice Try.underlying22 (hval 0 22 v0 rfl rfl)
  have k0 := h0
  have lt0 : ∀ x ∈ p0, x.block < W.heap.size := by obtain ⟨m, hm⟩ := k0; exact DataW.trod_lt m _ _ _ hm
  obtain ⟨z0, w0⟩ : ∃ zs, IsRow .u8 W a0 len0 cap0 zs := by
    obtain ⟨fuel, hf⟩ := h0
    rcases open_ints Try.underlying22 Try.underlying5 (by kernel_rfl) hf with ⟨hcs, _⟩ | ⟨x, l, c, zs, hcs, _, hl, hm, hz, _, hcell, hwz⟩
    · simp [Value.cells] at hcs
      obtain ⟨rfl, rfl, rfl⟩ := hcs
      exact ⟨[], .inl ⟨rfl, rfl, rfl, rfl⟩⟩
    · simp [Value.cells] at hcs
      obtain ⟨rfl, rfl, rfl⟩ := hcs
      exact ⟨zs, .inr ⟨_, rfl, hl, hm, by simpa using hz, hcell, hwz⟩⟩
  clear hA0 hval0
  refine (walk a0 len0 cap0 z0 W w0).mono fun e W' ⟨he, bel⟩ => ?_
  subst he
  exact ⟨_, rfl, _, _, _, [], _, [], hW', trodAll_mk1 (shut_bool Try.underlying4 _), (trodAll_cons_mk (Below.trod laidOut (by kernel_rfl) (of_decide_eq_true (by kernel_rfl)) k0 bel lt0) trodAll_mk0), rfl, bel.frame _, fun h => by cases h⟩

theorem over : Rows.fnKeysRow.holds Try.pinned (OpenSpec.ofChange Rows.fnKeysSpec) :=
  OpenClaim.holds_of_wide 7 Try.f7 rfl rfl rfl rfl rfl rfl rfl ⟨rfl, rfl, rfl, rfl, rfl⟩ rfl rfl rfl rfl rfl (by kernel_rfl) Try.func7 (by kernel_rfl)
    (of_decide_eq_true (by kernel_rfl)) (by unfold Func.isWrapper; first | (rw [if_pos (by decide +kernel)]; kernel_rfl) | (rw [if_neg (by decide +kernel)]; exact ⟨rfl, rfl⟩))
    (fun os started H enc _ => lifted os started H enc)

theorem proved : Rows.FnKeysSaid := over
end Go.Proofs.Ytpdhdogllejdbaa.fnKeys
