/- The law FnGolden returns true for every code: of three drawn golden numbers: products commute and have the product of the signs, the product distributes over the sum, comparisons of two numbers are each other's negative and 0 just for equal ones; two neighboring powers add up to the one before, are positive and fall. -/
import Derived.Test.YtobgcjgjfaegcaaRows
import Derived.WalkKit
import Derived.WalkSpells
import Derived.ProofKit
import Derived.OpenShut
import Derived.ShutString
import Derived.ChangeOld
import Derived.Below
import Derived.Lib.Hide
import Derived.Lib.SmallJoins
import Derived.ChangeArms
import Derived.Test.YtobgcjgjfaegcaaDrawGold
import Derived.Test.YtobgcjgjfaegcaaGoldFacts
import Derived.Deep.CutRange
import Derived.Deep.DeepCutAuto
namespace Go.Proofs.Ytobgcjgjfaegcaa.fnGolden
open Go.ChangeShapes Go.WideShapes Go.ChangeAt Go.RowKit
open Go.ChangeMaps (open_string shut_string)
set_option linter.unusedVariables false
set_option linter.unusedSimpArgs false
theorem own : ownKnob Try.prog.godebug = none := by kernel_rfl
theorem laidOut : laidOutB Try.prog = true := by kernel_rfl
/-- What the walk is told of a slice of integers that came in. -/
def IsRow (k : IntKind) (w : World) (a : Option Addr) (len cap : Nat) (zs : List Int) : Prop :=
  (a = none ∧ len = 0 ∧ cap = 0 ∧ zs = []) ∨
  ∃ x, a = some x ∧ len ≤ cap ∧ cap ≤ maxLen ∧ zs.length = cap ∧ (∀ i, i < zs.length → w.cell? (x.add i) = some (.int k (zs.getD i 0))) ∧ ∀ n ∈ zs, (Lit.int k n).wf = true
theorem byteAt0 {a : Option Addr} {len cap : Nat} (w : World) (hcode : CodeAt w a len) : Calls Try.prog 14 #[.slice a len cap, .int .i64 0] w (AtPost w) := byteAt 0 (by omega) w hcode
set_option maxHeartbeats 8000000 in
set_option maxRecDepth 100000 in
theorem walk_in {a0 : Option Addr} {len cap : Nat} (w : World) (hcode : CodeAt w a0 len) :
    Calls Try.prog 3 #[.slice a0 len cap] w fun e w' => e = .returned (.bool true) ∧ Below w.heap.size w w' := by
  have HCO := Lib.hid hcode
  clear hcode
  go_enter Try.func3, Try.ntmps3
  go_wp2_with fail
  refine (big_no _ HCO.out.1).mono ?_
  rintro e w' ⟨rfl, rfl⟩
  go_wp2_with fail
  refine (drawGolds w HCO.out).mono ?_
  rintro e w1 ⟨a, b, c, d, f, g, hg1, hg2, hg3, rfl, hb1⟩
  have ha : goldB a b = true := gold_small hg1 (by decide)
  have hc : goldB c d = true := gold_small hg2 (by decide)
  have hs : goldB (a + c) (b + d) = true := gold_small (M := 13530) (by obtain ⟨⟨_, _⟩, _, _⟩ := hg1; obtain ⟨⟨_, _⟩, _, _⟩ := hg2; omega) (by decide)
  have hac : (goldB a b && goldB c d) = true := by rw [ha, hc]; rfl
  have KM := Lib.hid (fun a b c d w => implTimesGold a b c d w)
  have KA := Lib.hid (fun a b c d w => implAddGold a b c d w)
  have KS := Lib.hid (fun a b w => implSignOf a b w)
  have KC := Lib.hid (fun a b c d w => implCompareGold a b c d w)
  have KP := Lib.hid (fun n w => implPowerOf n w)
  have KG : Hid (∀ w, Calls Try.prog 18 #[.agg #[.int .i64 a, .int .i64 b]] w (GB true w)) := fun w => by have := implGoldOk a b w; rwa [ha] at this
  have E1 := Lib.hid (mulG_comm c d a b)
  have E2 := Lib.hid (add_yes ha hc hs)
  have E3 := Lib.hid (cmpG_neg a b c d hac)
  have E4 := Lib.hid (cmpG_zero a b c d hac)
  have E5 := Lib.hid (cmp_bnd a b c d)
  have E6 : Hid (∀ m, mulG a b c d = (m, true) → signG m.1 m.2 = signG a b * signG c d) := fun m h => mul_sign ha hc h
  have E7 := Lib.hid (sign_bnd a b)
  have E8 := Lib.hid (sign_bnd c d)
  have E9 : Hid (∀ y u v z, mulG (a + c) (b + d) f g = (y, true) → mulG a b f g = (u, true) → mulG c d f g = (v, true) → addG u.1 u.2 v.1 v.2 = (z, true) → z = y) := fun _ _ _ _ h1 h2 h3 h4 => mul_add h1 h2 h3 h4
  clear hg1 hg2 hg3 ha hc hs hac
  have B0 : Hid (Bs 25 [(w1.heap.size, a, b), (w1.heap.size + 1, c, d), (w1.heap.size + 2, f, g)] w (((w1.alloc (.cells #[.int .i64 a, .int .i64 b] 25)).alloc (.cells #[.int .i64 c, .int .i64 d] 25)).alloc (.cells #[.int .i64 f, .int .i64 g] 25))) := by
    have h3 := bg3_new a b c d w1
    refine ⟨fun x hx => ?_, hb1.trans ((below_res w1 _ _ _).mono hb1.size)⟩
    simp only [List.mem_cons, List.not_mem_nil, or_false] at hx
    rcases hx with rfl | rfl | rfl
    · exact row_alloc (row_alloc (heap_alloc_new w1 _))
    · refine row_alloc ?_
      have := heap_alloc_new (w1.alloc (.cells #[.int .i64 a, .int .i64 b] 25)) (.cells #[.int .i64 c, .int .i64 d] 25)
      simpa [Bg] using this
    · have := heap_alloc_new ((w1.alloc (.cells #[.int .i64 a, .int .i64 b] 25)).alloc (.cells #[.int .i64 c, .int .i64 d] 25)) (.cells #[.int .i64 f, .int .i64 g] 25)
      simpa [Bg] using this
  clear hb1
  obtain ⟨a0, a1, -, -⟩ := B0.out.at (q := w1.heap.size) (x := a) (y := b) (by simp)
  obtain ⟨c0, c1, -, -⟩ := B0.out.at (q := w1.heap.size + 1) (x := c) (y := d) (by simp)
  go_wp2_with fail
  clear a0 a1 c0 c1
  generalize (((w1.alloc (.cells #[.int .i64 a, .int .i64 b] 25)).alloc (.cells #[.int .i64 c, .int .i64 d] 25)).alloc (.cells #[.int .i64 f, .int .i64 g] 25)) = w2 at *
  generalize w1.heap.size = q at *
  -- TimesGold(g, h), TimesGold(h, g), AddGold(g, h)
  obtain ⟨⟨⟨m1, m2⟩, one⟩, hm⟩ : ∃ r, mulG a b c d = r := ⟨_, rfl⟩
  have K1 := Lib.hid (KM.out a b c d)
  have K2 := Lib.hid (KM.out c d a b)
  rw [E1.out, hm] at K2
  rw [hm] at K1
  have HM := Lib.hid hm
  have K3 := Lib.hid (KA.out a b c d)
  rw [E2.out] at K3
  clear hm E1 E2
  refine (K1.out _).mono ?_
  rintro e w3 ⟨rfl, hb⟩
  have B1 := Lib.hid (B0.out.later hb)
  clear hb B0 K1
  have B2 := Lib.hid (B1.out.more m1 m2)
  clear B1
  obtain ⟨a0, a1, -, -⟩ := B2.out.at (q := q) (x := a) (y := b) (by simp)
  obtain ⟨c0, c1, -, -⟩ := B2.out.at (q := q + 1) (x := c) (y := d) (by simp)
  go_wp2_with fail
  clear a0 a1 c0 c1
  generalize w3.alloc (.cells #[.int .i64 m1, .int .i64 m2] 25) = w4 at *
  generalize w3.heap.size = q6 at *
  refine (K2.out _).mono ?_
  rintro e w5 ⟨rfl, hb⟩
  have B3 := Lib.hid (B2.out.later hb)
  clear hb B2 K2
  have B4 := Lib.hid (B3.out.more m1 m2)
  clear B3
  obtain ⟨a0, a1, -, -⟩ := B4.out.at (q := q) (x := a) (y := b) (by simp)
  obtain ⟨c0, c1, -, -⟩ := B4.out.at (q := q + 1) (x := c) (y := d) (by simp)
  go_wp2_with fail
  clear a0 a1 c0 c1
  generalize w5.alloc (.cells #[.int .i64 m1, .int .i64 m2] 25) = w6 at *
  generalize w5.heap.size = q8 at *
  refine (K3.out _).mono ?_
  rintro e w7 ⟨rfl, hb⟩
  have B5 := Lib.hid (B4.out.later hb)
  clear hb B4 K3
  obtain ⟨s1, hs1⟩ : ∃ s1, a + c = s1 := ⟨_, rfl⟩
  obtain ⟨s2, hs2⟩ : ∃ s2, b + d = s2 := ⟨_, rfl⟩
  rw [hs1, hs2] at E9
  rw [hs1, hs2]
  clear hs1 hs2
  have B6 := Lib.hid (B5.out.more s1 s2)
  clear B5
  go_wp2_with fail
  generalize w7.alloc (.cells #[.int .i64 s1, .int .i64 s2] 25) = w8 at *
  generalize w7.heap.size = q10 at *
  -- n
  refine (byteAt0 _ (HCO.out.below B6.out.2)).mono ?_
  rintro e w' ⟨x, hx, rfl, rfl⟩
  obtain ⟨n, hn⟩ : ∃ n : Nat, (x : Int) % 19 = n := Int.eq_ofNat_of_zero_le (by omega)
  have hn19 : n < 19 := by omega
  have HN := Lib.hid hn
  obtain ⟨p1, p2, p3⟩ := pw_next ⟨n, hn19⟩
  simp only at p1 p2 p3
  have K4 := Lib.hid (KP.out ((n : Int) + 1))
  have K5 := Lib.hid (KP.out ((n : Int) + 2))
  have K6 := Lib.hid (KP.out (n : Int))
  rw [show ((n : Int) + 1) = ((n + 1 : Nat) : Int) by omega, pow_yes (n + 1) (by omega)] at K4
  rw [show ((n : Int) + 2) = ((n + 2 : Nat) : Int) by omega, pow_yes (n + 2) (by omega)] at K5
  rw [pow_yes n (by omega)] at K6
  obtain ⟨⟨r1, r2⟩, hr⟩ : ∃ r, pw n = r := ⟨_, rfl⟩
  obtain ⟨⟨u1, u2⟩, hu⟩ : ∃ r, pw (n + 1) = r := ⟨_, rfl⟩
  obtain ⟨⟨v1, v2⟩, hv⟩ : ∃ r, pw (n + 2) = r := ⟨_, rfl⟩
  rw [hr] at K6
  rw [hu] at K4
  rw [hv] at K5
  rw [hu, hv, hr] at p1
  rw [hr] at p2
  rw [hu, hr] at p3
  have K7 := Lib.hid (KA.out u1 u2 v1 v2)
  rw [p1] at K7
  have K8 := Lib.hid (KS.out r1 r2)
  rw [p2] at K8
  have K9 := Lib.hid (KC.out u1 u2 r1 r2)
  rw [p3] at K9
  rw [show ((n + 1 : Nat) : Int) = (n : Int) + 1 by omega] at K4
  rw [show ((n + 2 : Nat) : Int) = (n : Int) + 2 by omega] at K5
  clear hn hx p1 p2 p3 hr hu hv
  have hn0 : (0 : Int) ≤ (n : Int) := by omega
  have hn1 : (n : Int) < 19 := by omega
  go_wp2_with fail
  rw [HN.out]
  refine (K4.out _).mono ?_
  rintro e w9 ⟨rfl, hb⟩
  have B7 := Lib.hid (B6.out.later hb)
  clear hb B6
  go_wp2_with fail
  refine (K5.out _).mono ?_
  rintro e w10 ⟨rfl, hb⟩
  have B8 := Lib.hid (B7.out.later hb)
  clear hb B7 K5
  go_wp2_with fail
  refine (K7.out _).mono ?_
  rintro e w11 ⟨rfl, hb⟩
  have B9 := Lib.hid (B8.out.later hb)
  clear hb B8 K7
  go_wp2_with fail
  have B10 := Lib.hid (B9.out.more r1 r2)
  clear B9
  generalize w11.alloc (.cells #[.int .i64 r1, .int .i64 r2] 25) = w12 at *
  generalize w11.heap.size = q13 at *
  have hone : (one != one) = false := by cases one <;> rfl
  refine wp_region_script (by kernel_rfl) (by kernel_rfl) ?_
  refine Script.load (i := 0) (v := ?_) rfl (by kernel_rfl) (by kernel_rfl) (fun _ _ _ h => h) (by kernel_rfl) ?_ ?_
  rotate_left
  · (intro wS hSw; obtain ⟨m60, m61, -, -⟩ := (B10.out.later (After.trans (After.drew (After.refl _)) hSw)).at (q := q6) (x := m1) (y := m2) (by simp); obtain ⟨m80, m81, -, -⟩ := (B10.out.later (After.trans (After.drew (After.refl _)) hSw)).at (q := q8) (x := m1) (y := m2) (by simp); obtain ⟨r0, r1', -, -⟩ := (B10.out.later (After.trans (After.drew (After.refl _)) hSw)).at (q := q13) (x := r1) (y := r2) (by simp); go_simp; try with_reducible rfl)
  try simp only [Act.put, List.getElem_toArray, List.getElem_cons_succ, List.getElem_cons_zero, List.setIfInBounds_toArray, List.set_cons_zero, List.set_cons_succ]
  refine Script.load (i := 1) (v := ?_) rfl (by kernel_rfl) (by kernel_rfl) (fun _ _ _ h => h) (by kernel_rfl) ?_ ?_
  rotate_left
  · (intro wS hSw; obtain ⟨m60, m61, -, -⟩ := (B10.out.later (After.trans (After.drew (After.refl _)) hSw)).at (q := q6) (x := m1) (y := m2) (by simp); obtain ⟨m80, m81, -, -⟩ := (B10.out.later (After.trans (After.drew (After.refl _)) hSw)).at (q := q8) (x := m1) (y := m2) (by simp); obtain ⟨r0, r1', -, -⟩ := (B10.out.later (After.trans (After.drew (After.refl _)) hSw)).at (q := q13) (x := r1) (y := r2) (by simp); go_simp; try with_reducible rfl)
  try simp only [Act.put, List.getElem_toArray, List.getElem_cons_succ, List.getElem_cons_zero, List.setIfInBounds_toArray, List.set_cons_zero, List.set_cons_succ]
  refine Script.load (i := 2) (v := ?_) rfl (by kernel_rfl) (by kernel_rfl) (fun _ _ _ h => h) (by kernel_rfl) ?_ ?_
  rotate_left
  · (intro wS hSw; obtain ⟨m60, m61, -, -⟩ := (B10.out.later (After.trans (After.drew (After.refl _)) hSw)).at (q := q6) (x := m1) (y := m2) (by simp); obtain ⟨m80, m81, -, -⟩ := (B10.out.later (After.trans (After.drew (After.refl _)) hSw)).at (q := q8) (x := m1) (y := m2) (by simp); obtain ⟨r0, r1', -, -⟩ := (B10.out.later (After.trans (After.drew (After.refl _)) hSw)).at (q := q13) (x := r1) (y := r2) (by simp); go_simp; try with_reducible rfl)
  try simp only [Act.put, List.getElem_toArray, List.getElem_cons_succ, List.getElem_cons_zero, List.setIfInBounds_toArray, List.set_cons_zero, List.set_cons_succ]
  refine Script.load (i := 3) (v := ?_) rfl (by kernel_rfl) (by kernel_rfl) (fun _ _ _ h => h) (by kernel_rfl) ?_ ?_
  rotate_left
  · (intro wS hSw; obtain ⟨m60, m61, -, -⟩ := (B10.out.later (After.trans (After.drew (After.refl _)) hSw)).at (q := q6) (x := m1) (y := m2) (by simp); obtain ⟨m80, m81, -, -⟩ := (B10.out.later (After.trans (After.drew (After.refl _)) hSw)).at (q := q8) (x := m1) (y := m2) (by simp); obtain ⟨r0, r1', -, -⟩ := (B10.out.later (After.trans (After.drew (After.refl _)) hSw)).at (q := q13) (x := r1) (y := r2) (by simp); go_simp; try with_reducible rfl)
  try simp only [Act.put, List.getElem_toArray, List.getElem_cons_succ, List.getElem_cons_zero, List.setIfInBounds_toArray, List.set_cons_zero, List.set_cons_succ]
  refine Script.load (i := 4) (v := ?_) rfl (by kernel_rfl) (by kernel_rfl) (fun _ _ _ h => h) (by kernel_rfl) ?_ ?_
  rotate_left
  · (intro wS hSw; obtain ⟨m60, m61, -, -⟩ := (B10.out.later (After.trans (After.drew (After.refl _)) hSw)).at (q := q6) (x := m1) (y := m2) (by simp); obtain ⟨m80, m81, -, -⟩ := (B10.out.later (After.trans (After.drew (After.refl _)) hSw)).at (q := q8) (x := m1) (y := m2) (by simp); obtain ⟨r0, r1', -, -⟩ := (B10.out.later (After.trans (After.drew (After.refl _)) hSw)).at (q := q13) (x := r1) (y := r2) (by simp); go_simp; try with_reducible rfl)
  try simp only [Act.put, List.getElem_toArray, List.getElem_cons_succ, List.getElem_cons_zero, List.setIfInBounds_toArray, List.set_cons_zero, List.set_cons_succ]
  refine Script.load (i := 5) (v := ?_) rfl (by kernel_rfl) (by kernel_rfl) (fun _ _ _ h => h) (by kernel_rfl) ?_ ?_
  rotate_left
  · (intro wS hSw; obtain ⟨m60, m61, -, -⟩ := (B10.out.later (After.trans (After.drew (After.refl _)) hSw)).at (q := q6) (x := m1) (y := m2) (by simp); obtain ⟨m80, m81, -, -⟩ := (B10.out.later (After.trans (After.drew (After.refl _)) hSw)).at (q := q8) (x := m1) (y := m2) (by simp); obtain ⟨r0, r1', -, -⟩ := (B10.out.later (After.trans (After.drew (After.refl _)) hSw)).at (q := q13) (x := r1) (y := r2) (by simp); go_simp; try with_reducible rfl)
  try simp only [Act.put, List.getElem_toArray, List.getElem_cons_succ, List.getElem_cons_zero, List.setIfInBounds_toArray, List.set_cons_zero, List.set_cons_succ]
  refine Script.load (i := 6) (v := ?_) rfl (by kernel_rfl) (by kernel_rfl) (fun _ _ _ h => h) (by kernel_rfl) ?_ ?_
  rotate_left
  · (intro wS hSw; obtain ⟨m60, m61, -, -⟩ := (B10.out.later (After.trans (After.drew (After.refl _)) hSw)).at (q := q6) (x := m1) (y := m2) (by simp); obtain ⟨m80, m81, -, -⟩ := (B10.out.later (After.trans (After.drew (After.refl _)) hSw)).at (q := q8) (x := m1) (y := m2) (by simp); obtain ⟨r0, r1', -, -⟩ := (B10.out.later (After.trans (After.drew (After.refl _)) hSw)).at (q := q13) (x := r1) (y := r2) (by simp); go_simp; try with_reducible rfl)
  try simp only [Act.put, List.getElem_toArray, List.getElem_cons_succ, List.getElem_cons_zero, List.setIfInBounds_toArray, List.set_cons_zero, List.set_cons_succ]
  refine Script.load (i := 7) (v := ?_) rfl (by kernel_rfl) (by kernel_rfl) (fun _ _ _ h => h) (by kernel_rfl) ?_ ?_
  rotate_left
  · (intro wS hSw; obtain ⟨m60, m61, -, -⟩ := (B10.out.later (After.trans (After.drew (After.refl _)) hSw)).at (q := q6) (x := m1) (y := m2) (by simp); obtain ⟨m80, m81, -, -⟩ := (B10.out.later (After.trans (After.drew (After.refl _)) hSw)).at (q := q8) (x := m1) (y := m2) (by simp); obtain ⟨r0, r1', -, -⟩ := (B10.out.later (After.trans (After.drew (After.refl _)) hSw)).at (q := q13) (x := r1) (y := r2) (by simp); go_simp; try with_reducible rfl)
  try simp only [Act.put, List.getElem_toArray, List.getElem_cons_succ, List.getElem_cons_zero, List.setIfInBounds_toArray, List.set_cons_zero, List.set_cons_succ]
  refine Script.load (i := 8) (v := ?_) rfl (by kernel_rfl) (by kernel_rfl) (fun _ _ _ h => h) (by kernel_rfl) ?_ ?_
  rotate_left
  · (intro wS hSw; obtain ⟨m60, m61, -, -⟩ := (B10.out.later (After.trans (After.drew (After.refl _)) hSw)).at (q := q6) (x := m1) (y := m2) (by simp); obtain ⟨m80, m81, -, -⟩ := (B10.out.later (After.trans (After.drew (After.refl _)) hSw)).at (q := q8) (x := m1) (y := m2) (by simp); obtain ⟨r0, r1', -, -⟩ := (B10.out.later (After.trans (After.drew (After.refl _)) hSw)).at (q := q13) (x := r1) (y := r2) (by simp); go_simp; try with_reducible rfl)
  try simp only [Act.put, List.getElem_toArray, List.getElem_cons_succ, List.getElem_cons_zero, List.setIfInBounds_toArray, List.set_cons_zero, List.set_cons_succ]
  refine Script.load (i := 9) (v := ?_) rfl (by kernel_rfl) (by kernel_rfl) (fun _ _ _ h => h) (by kernel_rfl) ?_ ?_
  rotate_left
  · (intro wS hSw; obtain ⟨m60, m61, -, -⟩ := (B10.out.later (After.trans (After.drew (After.refl _)) hSw)).at (q := q6) (x := m1) (y := m2) (by simp); obtain ⟨m80, m81, -, -⟩ := (B10.out.later (After.trans (After.drew (After.refl _)) hSw)).at (q := q8) (x := m1) (y := m2) (by simp); obtain ⟨r0, r1', -, -⟩ := (B10.out.later (After.trans (After.drew (After.refl _)) hSw)).at (q := q13) (x := r1) (y := r2) (by simp); go_simp; try with_reducible rfl)
  try simp only [Act.put, List.getElem_toArray, List.getElem_cons_succ, List.getElem_cons_zero, List.setIfInBounds_toArray, List.set_cons_zero, List.set_cons_succ]
  refine Script.load (i := 10) (v := ?_) rfl (by kernel_rfl) (by kernel_rfl) (fun _ _ _ h => h) (by kernel_rfl) ?_ ?_
  rotate_left
  · (intro wS hSw; obtain ⟨m60, m61, -, -⟩ := (B10.out.later (After.trans (After.drew (After.refl _)) hSw)).at (q := q6) (x := m1) (y := m2) (by simp); obtain ⟨m80, m81, -, -⟩ := (B10.out.later (After.trans (After.drew (After.refl _)) hSw)).at (q := q8) (x := m1) (y := m2) (by simp); obtain ⟨r0, r1', -, -⟩ := (B10.out.later (After.trans (After.drew (After.refl _)) hSw)).at (q := q13) (x := r1) (y := r2) (by simp); go_simp; try with_reducible rfl)
  try simp only [Act.put, List.getElem_toArray, List.getElem_cons_succ, List.getElem_cons_zero, List.setIfInBounds_toArray, List.set_cons_zero, List.set_cons_succ]
  refine Script.load (i := 11) (v := ?_) rfl (by kernel_rfl) (by kernel_rfl) (fun _ _ _ h => h) (by kernel_rfl) ?_ ?_
  rotate_left
  · (intro wS hSw; obtain ⟨m60, m61, -, -⟩ := (B10.out.later (After.trans (After.drew (After.refl _)) hSw)).at (q := q6) (x := m1) (y := m2) (by simp); obtain ⟨m80, m81, -, -⟩ := (B10.out.later (After.trans (After.drew (After.refl _)) hSw)).at (q := q8) (x := m1) (y := m2) (by simp); obtain ⟨r0, r1', -, -⟩ := (B10.out.later (After.trans (After.drew (After.refl _)) hSw)).at (q := q13) (x := r1) (y := r2) (by simp); go_simp; try with_reducible rfl)
  try simp only [Act.put, List.getElem_toArray, List.getElem_cons_succ, List.getElem_cons_zero, List.setIfInBounds_toArray, List.set_cons_zero, List.set_cons_succ]
  refine Script.load (i := 12) (v := ?_) rfl (by kernel_rfl) (by kernel_rfl) (fun _ _ _ h => h) (by kernel_rfl) ?_ ?_
  rotate_left
  · (intro wS hSw; obtain ⟨m60, m61, -, -⟩ := (B10.out.later (After.trans (After.drew (After.refl _)) hSw)).at (q := q6) (x := m1) (y := m2) (by simp); obtain ⟨m80, m81, -, -⟩ := (B10.out.later (After.trans (After.drew (After.refl _)) hSw)).at (q := q8) (x := m1) (y := m2) (by simp); obtain ⟨r0, r1', -, -⟩ := (B10.out.later (After.trans (After.drew (After.refl _)) hSw)).at (q := q13) (x := r1) (y := r2) (by simp); go_simp; try with_reducible rfl)
  try simp only [Act.put, List.getElem_toArray, List.getElem_cons_succ, List.getElem_cons_zero, List.setIfInBounds_toArray, List.set_cons_zero, List.set_cons_succ]
  refine Script.load (i := 13) (v := ?_) rfl (by kernel_rfl) (by kernel_rfl) (fun _ _ _ h => h) (by kernel_rfl) ?_ ?_
  rotate_left
  · (intro wS hSw; obtain ⟨m60, m61, -, -⟩ := (B10.out.later (After.trans (After.drew (After.refl _)) hSw)).at (q := q6) (x := m1) (y := m2) (by simp); obtain ⟨m80, m81, -, -⟩ := (B10.out.later (After.trans (After.drew (After.refl _)) hSw)).at (q := q8) (x := m1) (y := m2) (by simp); obtain ⟨r0, r1', -, -⟩ := (B10.out.later (After.trans (After.drew (After.refl _)) hSw)).at (q := q13) (x := r1) (y := r2) (by simp); go_simp; try with_reducible rfl)
  try simp only [Act.put, List.getElem_toArray, List.getElem_cons_succ, List.getElem_cons_zero, List.setIfInBounds_toArray, List.set_cons_zero, List.set_cons_succ]
  refine Script.load (i := 14) (v := ?_) rfl (by kernel_rfl) (by kernel_rfl) (fun _ _ _ h => h) (by kernel_rfl) ?_ ?_
  rotate_left
  · (intro wS hSw; obtain ⟨m60, m61, -, -⟩ := (B10.out.later (After.trans (After.drew (After.refl _)) hSw)).at (q := q6) (x := m1) (y := m2) (by simp); obtain ⟨m80, m81, -, -⟩ := (B10.out.later (After.trans (After.drew (After.refl _)) hSw)).at (q := q8) (x := m1) (y := m2) (by simp); obtain ⟨r0, r1', -, -⟩ := (B10.out.later (After.trans (After.drew (After.refl _)) hSw)).at (q := q13) (x := r1) (y := r2) (by simp); go_simp; try with_reducible rfl)
  try simp only [Act.put, List.getElem_toArray, List.getElem_cons_succ, List.getElem_cons_zero, List.setIfInBounds_toArray, List.set_cons_zero, List.set_cons_succ]
  refine Script.call (i := 15) (v := ?_) rfl (by kernel_rfl) (by kernel_rfl) (fun _ _ _ h => h) (by kernel_rfl) ?_ ?_
  rotate_left
  · (intro wS hSw K hK; obtain ⟨m60, m61, -, -⟩ := (B10.out.later (After.trans (After.drew (After.refl _)) hSw)).at (q := q6) (x := m1) (y := m2) (by simp); obtain ⟨m80, m81, -, -⟩ := (B10.out.later (After.trans (After.drew (After.refl _)) hSw)).at (q := q8) (x := m1) (y := m2) (by simp); obtain ⟨r0, r1', -, -⟩ := (B10.out.later (After.trans (After.drew (After.refl _)) hSw)).at (q := q13) (x := r1) (y := r2) (by simp); go_simp; go_at_call 15; refine (K6.out _).mono ?_; rintro e wc ⟨rfl, hbc⟩; exact hK.out _ hbc)
  try simp only [Act.put, List.getElem_toArray, List.getElem_cons_succ, List.getElem_cons_zero, List.setIfInBounds_toArray, List.set_cons_zero, List.set_cons_succ]
  refine Script.load (i := 16) (v := ?_) rfl (by kernel_rfl) (by kernel_rfl) (fun _ _ _ h => h) (by kernel_rfl) ?_ ?_
  rotate_left
  · (intro wS hSw; obtain ⟨m60, m61, -, -⟩ := (B10.out.later (After.trans (After.drew (After.refl _)) hSw)).at (q := q6) (x := m1) (y := m2) (by simp); obtain ⟨m80, m81, -, -⟩ := (B10.out.later (After.trans (After.drew (After.refl _)) hSw)).at (q := q8) (x := m1) (y := m2) (by simp); obtain ⟨r0, r1', -, -⟩ := (B10.out.later (After.trans (After.drew (After.refl _)) hSw)).at (q := q13) (x := r1) (y := r2) (by simp); go_simp; try with_reducible rfl)
  try simp only [Act.put, List.getElem_toArray, List.getElem_cons_succ, List.getElem_cons_zero, List.setIfInBounds_toArray, List.set_cons_zero, List.set_cons_succ]
  refine Script.load (i := 17) (v := ?_) rfl (by kernel_rfl) (by kernel_rfl) (fun _ _ _ h => h) (by kernel_rfl) ?_ ?_
  rotate_left
  · (intro wS hSw; obtain ⟨m60, m61, -, -⟩ := (B10.out.later (After.trans (After.drew (After.refl _)) hSw)).at (q := q6) (x := m1) (y := m2) (by simp); obtain ⟨m80, m81, -, -⟩ := (B10.out.later (After.trans (After.drew (After.refl _)) hSw)).at (q := q8) (x := m1) (y := m2) (by simp); obtain ⟨r0, r1', -, -⟩ := (B10.out.later (After.trans (After.drew (After.refl _)) hSw)).at (q := q13) (x := r1) (y := r2) (by simp); go_simp; try with_reducible rfl)
  try simp only [Act.put, List.getElem_toArray, List.getElem_cons_succ, List.getElem_cons_zero, List.setIfInBounds_toArray, List.set_cons_zero, List.set_cons_succ]
  refine Script.load (i := 18) (v := ?_) rfl (by kernel_rfl) (by kernel_rfl) (fun _ _ _ h => h) (by kernel_rfl) ?_ ?_
  rotate_left
  · (intro wS hSw; obtain ⟨m60, m61, -, -⟩ := (B10.out.later (After.trans (After.drew (After.refl _)) hSw)).at (q := q6) (x := m1) (y := m2) (by simp); obtain ⟨m80, m81, -, -⟩ := (B10.out.later (After.trans (After.drew (After.refl _)) hSw)).at (q := q8) (x := m1) (y := m2) (by simp); obtain ⟨r0, r1', -, -⟩ := (B10.out.later (After.trans (After.drew (After.refl _)) hSw)).at (q := q13) (x := r1) (y := r2) (by simp); go_simp; try with_reducible rfl)
  try simp only [Act.put, List.getElem_toArray, List.getElem_cons_succ, List.getElem_cons_zero, List.setIfInBounds_toArray, List.set_cons_zero, List.set_cons_succ]
  refine Script.load (i := 19) (v := ?_) rfl (by kernel_rfl) (by kernel_rfl) (fun _ _ _ h => h) (by kernel_rfl) ?_ ?_
  rotate_left
  · (intro wS hSw; obtain ⟨m60, m61, -, -⟩ := (B10.out.later (After.trans (After.drew (After.refl _)) hSw)).at (q := q6) (x := m1) (y := m2) (by simp); obtain ⟨m80, m81, -, -⟩ := (B10.out.later (After.trans (After.drew (After.refl _)) hSw)).at (q := q8) (x := m1) (y := m2) (by simp); obtain ⟨r0, r1', -, -⟩ := (B10.out.later (After.trans (After.drew (After.refl _)) hSw)).at (q := q13) (x := r1) (y := r2) (by simp); go_simp; try with_reducible rfl)
  try simp only [Act.put, List.getElem_toArray, List.getElem_cons_succ, List.getElem_cons_zero, List.setIfInBounds_toArray, List.set_cons_zero, List.set_cons_succ]
  refine Script.call (i := 20) (v := ?_) rfl (by kernel_rfl) (by kernel_rfl) (fun _ _ _ h => h) (by kernel_rfl) ?_ ?_
  rotate_left
  · (intro wS hSw K hK; obtain ⟨m60, m61, -, -⟩ := (B10.out.later (After.trans (After.drew (After.refl _)) hSw)).at (q := q6) (x := m1) (y := m2) (by simp); obtain ⟨m80, m81, -, -⟩ := (B10.out.later (After.trans (After.drew (After.refl _)) hSw)).at (q := q8) (x := m1) (y := m2) (by simp); obtain ⟨r0, r1', -, -⟩ := (B10.out.later (After.trans (After.drew (After.refl _)) hSw)).at (q := q13) (x := r1) (y := r2) (by simp); go_simp; go_at_call 15; refine (K6.out _).mono ?_; rintro e wc ⟨rfl, hbc⟩; exact hK.out _ hbc)
  try simp only [Act.put, List.getElem_toArray, List.getElem_cons_succ, List.getElem_cons_zero, List.setIfInBounds_toArray, List.set_cons_zero, List.set_cons_succ]
  refine Script.call (i := 21) (v := ?_) rfl (by kernel_rfl) (by kernel_rfl) (fun _ _ _ h => h) (by kernel_rfl) ?_ ?_
  rotate_left
  · (intro wS hSw K hK; obtain ⟨m60, m61, -, -⟩ := (B10.out.later (After.trans (After.drew (After.refl _)) hSw)).at (q := q6) (x := m1) (y := m2) (by simp); obtain ⟨m80, m81, -, -⟩ := (B10.out.later (After.trans (After.drew (After.refl _)) hSw)).at (q := q8) (x := m1) (y := m2) (by simp); obtain ⟨r0, r1', -, -⟩ := (B10.out.later (After.trans (After.drew (After.refl _)) hSw)).at (q := q13) (x := r1) (y := r2) (by simp); go_simp; go_at_call 16; refine (K8.out _).mono ?_; rintro e wc ⟨rfl, hbc⟩; exact hK.out _ hbc)
  try simp only [Act.put, List.getElem_toArray, List.getElem_cons_succ, List.getElem_cons_zero, List.setIfInBounds_toArray, List.set_cons_zero, List.set_cons_succ]
  refine Script.load (i := 22) (v := ?_) rfl (by kernel_rfl) (by kernel_rfl) (fun _ _ _ h => h) (by kernel_rfl) ?_ ?_
  rotate_left
  · (intro wS hSw; obtain ⟨m60, m61, -, -⟩ := (B10.out.later (After.trans (After.drew (After.refl _)) hSw)).at (q := q6) (x := m1) (y := m2) (by simp); obtain ⟨m80, m81, -, -⟩ := (B10.out.later (After.trans (After.drew (After.refl _)) hSw)).at (q := q8) (x := m1) (y := m2) (by simp); obtain ⟨r0, r1', -, -⟩ := (B10.out.later (After.trans (After.drew (After.refl _)) hSw)).at (q := q13) (x := r1) (y := r2) (by simp); go_simp; try with_reducible rfl)
  try simp only [Act.put, List.getElem_toArray, List.getElem_cons_succ, List.getElem_cons_zero, List.setIfInBounds_toArray, List.set_cons_zero, List.set_cons_succ]
  refine Script.load (i := 23) (v := ?_) rfl (by kernel_rfl) (by kernel_rfl) (fun _ _ _ h => h) (by kernel_rfl) ?_ ?_
  rotate_left
  · (intro wS hSw; obtain ⟨m60, m61, -, -⟩ := (B10.out.later (After.trans (After.drew (After.refl _)) hSw)).at (q := q6) (x := m1) (y := m2) (by simp); obtain ⟨m80, m81, -, -⟩ := (B10.out.later (After.trans (After.drew (After.refl _)) hSw)).at (q := q8) (x := m1) (y := m2) (by simp); obtain ⟨r0, r1', -, -⟩ := (B10.out.later (After.trans (After.drew (After.refl _)) hSw)).at (q := q13) (x := r1) (y := r2) (by simp); go_simp; try with_reducible rfl)
  try simp only [Act.put, List.getElem_toArray, List.getElem_cons_succ, List.getElem_cons_zero, List.setIfInBounds_toArray, List.set_cons_zero, List.set_cons_succ]
  refine Script.load (i := 24) (v := ?_) rfl (by kernel_rfl) (by kernel_rfl) (fun _ _ _ h => h) (by kernel_rfl) ?_ ?_
  rotate_left
  · (intro wS hSw; obtain ⟨m60, m61, -, -⟩ := (B10.out.later (After.trans (After.drew (After.refl _)) hSw)).at (q := q6) (x := m1) (y := m2) (by simp); obtain ⟨m80, m81, -, -⟩ := (B10.out.later (After.trans (After.drew (After.refl _)) hSw)).at (q := q8) (x := m1) (y := m2) (by simp); obtain ⟨r0, r1', -, -⟩ := (B10.out.later (After.trans (After.drew (After.refl _)) hSw)).at (q := q13) (x := r1) (y := r2) (by simp); go_simp; try with_reducible rfl)
  try simp only [Act.put, List.getElem_toArray, List.getElem_cons_succ, List.getElem_cons_zero, List.setIfInBounds_toArray, List.set_cons_zero, List.set_cons_succ]
  refine Script.load (i := 25) (v := ?_) rfl (by kernel_rfl) (by kernel_rfl) (fun _ _ _ h => h) (by kernel_rfl) ?_ ?_
  rotate_left
  · (intro wS hSw; obtain ⟨m60, m61, -, -⟩ := (B10.out.later (After.trans (After.drew (After.refl _)) hSw)).at (q := q6) (x := m1) (y := m2) (by simp); obtain ⟨m80, m81, -, -⟩ := (B10.out.later (After.trans (After.drew (After.refl _)) hSw)).at (q := q8) (x := m1) (y := m2) (by simp); obtain ⟨r0, r1', -, -⟩ := (B10.out.later (After.trans (After.drew (After.refl _)) hSw)).at (q := q13) (x := r1) (y := r2) (by simp); go_simp; try with_reducible rfl)
  try simp only [Act.put, List.getElem_toArray, List.getElem_cons_succ, List.getElem_cons_zero, List.setIfInBounds_toArray, List.set_cons_zero, List.set_cons_succ]
  refine Script.load (i := 26) (v := ?_) rfl (by kernel_rfl) (by kernel_rfl) (fun _ _ _ h => h) (by kernel_rfl) ?_ ?_
  rotate_left
  · (intro wS hSw; obtain ⟨m60, m61, -, -⟩ := (B10.out.later (After.trans (After.drew (After.refl _)) hSw)).at (q := q6) (x := m1) (y := m2) (by simp); obtain ⟨m80, m81, -, -⟩ := (B10.out.later (After.trans (After.drew (After.refl _)) hSw)).at (q := q8) (x := m1) (y := m2) (by simp); obtain ⟨r0, r1', -, -⟩ := (B10.out.later (After.trans (After.drew (After.refl _)) hSw)).at (q := q13) (x := r1) (y := r2) (by simp); go_simp; try with_reducible rfl)
  try simp only [Act.put, List.getElem_toArray, List.getElem_cons_succ, List.getElem_cons_zero, List.setIfInBounds_toArray, List.set_cons_zero, List.set_cons_succ]
  refine Script.load (i := 27) (v := ?_) rfl (by kernel_rfl) (by kernel_rfl) (fun _ _ _ h => h) (by kernel_rfl) ?_ ?_
  rotate_left
  · (intro wS hSw; obtain ⟨m60, m61, -, -⟩ := (B10.out.later (After.trans (After.drew (After.refl _)) hSw)).at (q := q6) (x := m1) (y := m2) (by simp); obtain ⟨m80, m81, -, -⟩ := (B10.out.later (After.trans (After.drew (After.refl _)) hSw)).at (q := q8) (x := m1) (y := m2) (by simp); obtain ⟨r0, r1', -, -⟩ := (B10.out.later (After.trans (After.drew (After.refl _)) hSw)).at (q := q13) (x := r1) (y := r2) (by simp); go_simp; try with_reducible rfl)
  try simp only [Act.put, List.getElem_toArray, List.getElem_cons_succ, List.getElem_cons_zero, List.setIfInBounds_toArray, List.set_cons_zero, List.set_cons_succ]
  refine Script.done (by kernel_rfl) ?_
  intro wD hD hG
  have B11 := Lib.hid (B10.out.later (After.trans (After.drew (After.refl _)) hD))
  clear hD hG B10 hone K8
  go_upto_region 11 with fail
  go_cut [100] (fun cc wx => cc = .bool false ∧ Hid (Bs 25 [(q13, r1, r2), (q10, s1, s2), (q8, m1, m2), (q6, m1, m2), (q, a, b), (q + 1, c, d), (q + 2, f, g)] w wx))
  case first =>
    cases one
    · go_wp2_with fail
      refine wp_region_script (by kernel_rfl) (by kernel_rfl) ?_
      refine Script.load (i := 0) (v := ?_) rfl (by kernel_rfl) (by kernel_rfl) (fun _ _ _ h => h) (by kernel_rfl) ?_ ?_
      rotate_left
      · (intro wS hSw; go_simp; try with_reducible rfl)
      try simp only [Act.put, List.getElem_toArray, List.getElem_cons_succ, List.getElem_cons_zero, List.setIfInBounds_toArray, List.set_cons_zero, List.set_cons_succ]
      refine Script.load (i := 1) (v := ?_) rfl (by kernel_rfl) (by kernel_rfl) (fun _ _ _ h => h) (by kernel_rfl) ?_ ?_
      rotate_left
      · (intro wS hSw; go_simp; try with_reducible rfl)
      try simp only [Act.put, List.getElem_toArray, List.getElem_cons_succ, List.getElem_cons_zero, List.setIfInBounds_toArray, List.set_cons_zero, List.set_cons_succ]
      refine Script.skip (i := 2) rfl (by kernel_rfl) (by kernel_rfl) (fun _ _ _ h => h) (by kernel_rfl) ?_
      try simp only [Act.put, List.getElem_toArray, List.getElem_cons_succ, List.getElem_cons_zero, List.setIfInBounds_toArray, List.set_cons_zero, List.set_cons_succ]
      refine Script.skip (i := 3) rfl (by kernel_rfl) (by kernel_rfl) (fun _ _ _ h => h) (by kernel_rfl) ?_
      try simp only [Act.put, List.getElem_toArray, List.getElem_cons_succ, List.getElem_cons_zero, List.setIfInBounds_toArray, List.set_cons_zero, List.set_cons_succ]
      refine Script.skip (i := 4) rfl (by kernel_rfl) (by kernel_rfl) (fun _ _ _ h => h) (by kernel_rfl) ?_
      try simp only [Act.put, List.getElem_toArray, List.getElem_cons_succ, List.getElem_cons_zero, List.setIfInBounds_toArray, List.set_cons_zero, List.set_cons_succ]
      refine Script.skip (i := 5) rfl (by kernel_rfl) (by kernel_rfl) (fun _ _ _ h => h) (by kernel_rfl) ?_
      try simp only [Act.put, List.getElem_toArray, List.getElem_cons_succ, List.getElem_cons_zero, List.setIfInBounds_toArray, List.set_cons_zero, List.set_cons_succ]
      refine Script.skip (i := 6) rfl (by kernel_rfl) (by kernel_rfl) (fun _ _ _ h => h) (by kernel_rfl) ?_
      try simp only [Act.put, List.getElem_toArray, List.getElem_cons_succ, List.getElem_cons_zero, List.setIfInBounds_toArray, List.set_cons_zero, List.set_cons_succ]
      refine Script.skip (i := 7) rfl (by kernel_rfl) (by kernel_rfl) (fun _ _ _ h => h) (by kernel_rfl) ?_
      try simp only [Act.put, List.getElem_toArray, List.getElem_cons_succ, List.getElem_cons_zero, List.setIfInBounds_toArray, List.set_cons_zero, List.set_cons_succ]
      refine Script.skip (i := 8) rfl (by kernel_rfl) (by kernel_rfl) (fun _ _ _ h => h) (by kernel_rfl) ?_
      try simp only [Act.put, List.getElem_toArray, List.getElem_cons_succ, List.getElem_cons_zero, List.setIfInBounds_toArray, List.set_cons_zero, List.set_cons_succ]
      refine Script.skip (i := 9) rfl (by kernel_rfl) (by kernel_rfl) (fun _ _ _ h => h) (by kernel_rfl) ?_
      try simp only [Act.put, List.getElem_toArray, List.getElem_cons_succ, List.getElem_cons_zero, List.setIfInBounds_toArray, List.set_cons_zero, List.set_cons_succ]
      refine Script.load (i := 10) (v := ?_) rfl (by kernel_rfl) (by kernel_rfl) (fun _ _ _ h => h) (by kernel_rfl) ?_ ?_
      rotate_left
      · (intro wS hSw; go_simp; try with_reducible rfl)
      try simp only [Act.put, List.getElem_toArray, List.getElem_cons_succ, List.getElem_cons_zero, List.setIfInBounds_toArray, List.set_cons_zero, List.set_cons_succ]
      refine Script.done (by kernel_rfl) ?_
      intro wD hD hG
      have B12 := Lib.hid (B11.out.later (After.trans (After.drew (After.refl _)) hD))
      clear hD hG B11
      go_wp2_with fail
      go_meet
      exact ⟨rfl, B12⟩
    · have K10 := Lib.hid (KS.out m1 m2)
      have K11 := Lib.hid (KS.out a b)
      have K12 := Lib.hid (KS.out c d)
      rw [E6.out _ HM.out] at K10
      have e7 := E7.out
      have e8 := E8.out
      have hpr := mul_bnd (a := signG a b) (b := signG c d) (M := 2) (N := 2) (by omega) (by omega) (by decide)
      generalize signG a b = sa at *
      generalize signG c d = sb at *
      have hwr : IntKind.i64.wrap (sa * sb) = sa * sb := IntWalk.i64_in _ (by omega)
      clear e7 e8
      obtain ⟨sp, hsp⟩ : ∃ sp, sa * sb = sp := ⟨_, rfl⟩
      rw [hsp] at K10 hwr
      go_wp2_with fail
      refine wp_region_script (by kernel_rfl) (by kernel_rfl) ?_
      refine Script.load (i := 0) (v := ?_) rfl (by kernel_rfl) (by kernel_rfl) (fun _ _ _ h => h) (by kernel_rfl) ?_ ?_
      rotate_left
      · (intro wS hSw; obtain ⟨ma0, ma1, -, -⟩ := (B11.out.later (After.trans (After.drew (After.refl _)) hSw)).at (q := q6) (x := m1) (y := m2) (by simp); obtain ⟨a0, a1, -, -⟩ := (B11.out.later (After.trans (After.drew (After.refl _)) hSw)).at (q := q) (x := a) (y := b) (by simp); obtain ⟨c0, c1, -, -⟩ := (B11.out.later (After.trans (After.drew (After.refl _)) hSw)).at (q := q + 1) (x := c) (y := d) (by simp); go_simp; try with_reducible rfl)
      try simp only [Act.put, List.getElem_toArray, List.getElem_cons_succ, List.getElem_cons_zero, List.setIfInBounds_toArray, List.set_cons_zero, List.set_cons_succ]
      refine Script.load (i := 1) (v := ?_) rfl (by kernel_rfl) (by kernel_rfl) (fun _ _ _ h => h) (by kernel_rfl) ?_ ?_
      rotate_left
      · (intro wS hSw; obtain ⟨ma0, ma1, -, -⟩ := (B11.out.later (After.trans (After.drew (After.refl _)) hSw)).at (q := q6) (x := m1) (y := m2) (by simp); obtain ⟨a0, a1, -, -⟩ := (B11.out.later (After.trans (After.drew (After.refl _)) hSw)).at (q := q) (x := a) (y := b) (by simp); obtain ⟨c0, c1, -, -⟩ := (B11.out.later (After.trans (After.drew (After.refl _)) hSw)).at (q := q + 1) (x := c) (y := d) (by simp); go_simp; try with_reducible rfl)
      try simp only [Act.put, List.getElem_toArray, List.getElem_cons_succ, List.getElem_cons_zero, List.setIfInBounds_toArray, List.set_cons_zero, List.set_cons_succ]
      refine Script.load (i := 2) (v := ?_) rfl (by kernel_rfl) (by kernel_rfl) (fun _ _ _ h => h) (by kernel_rfl) ?_ ?_
      rotate_left
      · (intro wS hSw; obtain ⟨ma0, ma1, -, -⟩ := (B11.out.later (After.trans (After.drew (After.refl _)) hSw)).at (q := q6) (x := m1) (y := m2) (by simp); obtain ⟨a0, a1, -, -⟩ := (B11.out.later (After.trans (After.drew (After.refl _)) hSw)).at (q := q) (x := a) (y := b) (by simp); obtain ⟨c0, c1, -, -⟩ := (B11.out.later (After.trans (After.drew (After.refl _)) hSw)).at (q := q + 1) (x := c) (y := d) (by simp); go_simp; try with_reducible rfl)
      try simp only [Act.put, List.getElem_toArray, List.getElem_cons_succ, List.getElem_cons_zero, List.setIfInBounds_toArray, List.set_cons_zero, List.set_cons_succ]
      refine Script.call (i := 3) (v := ?_) rfl (by kernel_rfl) (by kernel_rfl) (fun _ _ _ h => h) (by kernel_rfl) ?_ ?_
      rotate_left
      · (intro wS hSw K hK; obtain ⟨ma0, ma1, -, -⟩ := (B11.out.later (After.trans (After.drew (After.refl _)) hSw)).at (q := q6) (x := m1) (y := m2) (by simp); obtain ⟨a0, a1, -, -⟩ := (B11.out.later (After.trans (After.drew (After.refl _)) hSw)).at (q := q) (x := a) (y := b) (by simp); obtain ⟨c0, c1, -, -⟩ := (B11.out.later (After.trans (After.drew (After.refl _)) hSw)).at (q := q + 1) (x := c) (y := d) (by simp); go_simp; go_at_call 16; refine (K10.out _).mono ?_; rintro e wc ⟨rfl, hbc⟩; exact hK.out _ hbc)
      try simp only [Act.put, List.getElem_toArray, List.getElem_cons_succ, List.getElem_cons_zero, List.setIfInBounds_toArray, List.set_cons_zero, List.set_cons_succ]
      refine Script.load (i := 4) (v := ?_) rfl (by kernel_rfl) (by kernel_rfl) (fun _ _ _ h => h) (by kernel_rfl) ?_ ?_
      rotate_left
      · (intro wS hSw; obtain ⟨ma0, ma1, -, -⟩ := (B11.out.later (After.trans (After.drew (After.refl _)) hSw)).at (q := q6) (x := m1) (y := m2) (by simp); obtain ⟨a0, a1, -, -⟩ := (B11.out.later (After.trans (After.drew (After.refl _)) hSw)).at (q := q) (x := a) (y := b) (by simp); obtain ⟨c0, c1, -, -⟩ := (B11.out.later (After.trans (After.drew (After.refl _)) hSw)).at (q := q + 1) (x := c) (y := d) (by simp); go_simp; try with_reducible rfl)
      try simp only [Act.put, List.getElem_toArray, List.getElem_cons_succ, List.getElem_cons_zero, List.setIfInBounds_toArray, List.set_cons_zero, List.set_cons_succ]
      refine Script.call (i := 5) (v := ?_) rfl (by kernel_rfl) (by kernel_rfl) (fun _ _ _ h => h) (by kernel_rfl) ?_ ?_
      rotate_left
      · (intro wS hSw K hK; obtain ⟨ma0, ma1, -, -⟩ := (B11.out.later (After.trans (After.drew (After.refl _)) hSw)).at (q := q6) (x := m1) (y := m2) (by simp); obtain ⟨a0, a1, -, -⟩ := (B11.out.later (After.trans (After.drew (After.refl _)) hSw)).at (q := q) (x := a) (y := b) (by simp); obtain ⟨c0, c1, -, -⟩ := (B11.out.later (After.trans (After.drew (After.refl _)) hSw)).at (q := q + 1) (x := c) (y := d) (by simp); go_simp; go_at_call 16; refine (K11.out _).mono ?_; rintro e wc ⟨rfl, hbc⟩; exact hK.out _ hbc)
      try simp only [Act.put, List.getElem_toArray, List.getElem_cons_succ, List.getElem_cons_zero, List.setIfInBounds_toArray, List.set_cons_zero, List.set_cons_succ]
      refine Script.load (i := 6) (v := ?_) rfl (by kernel_rfl) (by kernel_rfl) (fun _ _ _ h => h) (by kernel_rfl) ?_ ?_
      rotate_left
      · (intro wS hSw; obtain ⟨ma0, ma1, -, -⟩ := (B11.out.later (After.trans (After.drew (After.refl _)) hSw)).at (q := q6) (x := m1) (y := m2) (by simp); obtain ⟨a0, a1, -, -⟩ := (B11.out.later (After.trans (After.drew (After.refl _)) hSw)).at (q := q) (x := a) (y := b) (by simp); obtain ⟨c0, c1, -, -⟩ := (B11.out.later (After.trans (After.drew (After.refl _)) hSw)).at (q := q + 1) (x := c) (y := d) (by simp); go_simp; try with_reducible rfl)
      try simp only [Act.put, List.getElem_toArray, List.getElem_cons_succ, List.getElem_cons_zero, List.setIfInBounds_toArray, List.set_cons_zero, List.set_cons_succ]
      refine Script.call (i := 7) (v := ?_) rfl (by kernel_rfl) (by kernel_rfl) (fun _ _ _ h => h) (by kernel_rfl) ?_ ?_
      rotate_left
      · (intro wS hSw K hK; obtain ⟨ma0, ma1, -, -⟩ := (B11.out.later (After.trans (After.drew (After.refl _)) hSw)).at (q := q6) (x := m1) (y := m2) (by simp); obtain ⟨a0, a1, -, -⟩ := (B11.out.later (After.trans (After.drew (After.refl _)) hSw)).at (q := q) (x := a) (y := b) (by simp); obtain ⟨c0, c1, -, -⟩ := (B11.out.later (After.trans (After.drew (After.refl _)) hSw)).at (q := q + 1) (x := c) (y := d) (by simp); go_simp; go_at_call 16; refine (K12.out _).mono ?_; rintro e wc ⟨rfl, hbc⟩; exact hK.out _ hbc)
      try simp only [Act.put, List.getElem_toArray, List.getElem_cons_succ, List.getElem_cons_zero, List.setIfInBounds_toArray, List.set_cons_zero, List.set_cons_succ]
      refine Script.load (i := 8) (v := ?_) rfl (by kernel_rfl) (by kernel_rfl) (fun _ _ _ h => h) (by kernel_rfl) ?_ ?_
      rotate_left
      · (intro wS hSw; obtain ⟨ma0, ma1, -, -⟩ := (B11.out.later (After.trans (After.drew (After.refl _)) hSw)).at (q := q6) (x := m1) (y := m2) (by simp); obtain ⟨a0, a1, -, -⟩ := (B11.out.later (After.trans (After.drew (After.refl _)) hSw)).at (q := q) (x := a) (y := b) (by simp); obtain ⟨c0, c1, -, -⟩ := (B11.out.later (After.trans (After.drew (After.refl _)) hSw)).at (q := q + 1) (x := c) (y := d) (by simp); go_simp; try with_reducible rfl)
      try simp only [Act.put, List.getElem_toArray, List.getElem_cons_succ, List.getElem_cons_zero, List.setIfInBounds_toArray, List.set_cons_zero, List.set_cons_succ]
      refine Script.load (i := 9) (v := ?_) rfl (by kernel_rfl) (by kernel_rfl) (fun _ _ _ h => h) (by kernel_rfl) ?_ ?_
      rotate_left
      · (intro wS hSw; obtain ⟨ma0, ma1, -, -⟩ := (B11.out.later (After.trans (After.drew (After.refl _)) hSw)).at (q := q6) (x := m1) (y := m2) (by simp); obtain ⟨a0, a1, -, -⟩ := (B11.out.later (After.trans (After.drew (After.refl _)) hSw)).at (q := q) (x := a) (y := b) (by simp); obtain ⟨c0, c1, -, -⟩ := (B11.out.later (After.trans (After.drew (After.refl _)) hSw)).at (q := q + 1) (x := c) (y := d) (by simp); go_simp; try with_reducible rfl)
      try simp only [Act.put, List.getElem_toArray, List.getElem_cons_succ, List.getElem_cons_zero, List.setIfInBounds_toArray, List.set_cons_zero, List.set_cons_succ]
      refine Script.load (i := 10) (v := ?_) rfl (by kernel_rfl) (by kernel_rfl) (fun _ _ _ h => h) (by kernel_rfl) ?_ ?_
      rotate_left
      · (intro wS hSw; obtain ⟨ma0, ma1, -, -⟩ := (B11.out.later (After.trans (After.drew (After.refl _)) hSw)).at (q := q6) (x := m1) (y := m2) (by simp); obtain ⟨a0, a1, -, -⟩ := (B11.out.later (After.trans (After.drew (After.refl _)) hSw)).at (q := q) (x := a) (y := b) (by simp); obtain ⟨c0, c1, -, -⟩ := (B11.out.later (After.trans (After.drew (After.refl _)) hSw)).at (q := q + 1) (x := c) (y := d) (by simp); go_simp; try with_reducible rfl)
      try simp only [Act.put, List.getElem_toArray, List.getElem_cons_succ, List.getElem_cons_zero, List.setIfInBounds_toArray, List.set_cons_zero, List.set_cons_succ]
      refine Script.done (by kernel_rfl) ?_
      intro wD hD hG
      have B12 := Lib.hid (B11.out.later (After.trans (After.drew (After.refl _)) hD))
      clear hD hG B11
      go_wp2_with fail
      go_meet
      exact ⟨rfl, B12⟩
  case rest =>
  clear B11
  obtain ⟨rfl, B12⟩ := hcut
  obtain ⟨⟨⟨y1, y2⟩, five⟩, h5⟩ : ∃ r, mulG s1 s2 f g = r := ⟨_, rfl⟩
  obtain ⟨⟨⟨g1, g2⟩, six⟩, h6⟩ : ∃ r, mulG a b f g = r := ⟨_, rfl⟩
  obtain ⟨⟨⟨h1, h2⟩, seven⟩, h7⟩ : ∃ r, mulG c d f g = r := ⟨_, rfl⟩
  have K13 := Lib.hid (KM.out s1 s2 f g)
  have K14 := Lib.hid (KM.out a b f g)
  have K15 := Lib.hid (KM.out c d f g)
  rw [h5] at K13
  rw [h6] at K14
  rw [h7] at K15
  have H5 := Lib.hid h5
  have H6 := Lib.hid h6
  have H7 := Lib.hid h7
  clear h5 h6 h7
  obtain ⟨s0, s1', -, -⟩ := B12.out.at (q := q10) (x := s1) (y := s2) (by simp)
  obtain ⟨f0, f1, -, -⟩ := B12.out.at (q := q + 2) (x := f) (y := g) (by simp)
  go_wp2_with fail
  clear s0 s1' f0 f1
  refine (K13.out _).mono ?_
  rintro e wa ⟨rfl, hb⟩
  have Ba := Lib.hid (B12.out.later hb)
  clear hb B12 K13
  have Bb := Lib.hid (Ba.out.more y1 y2)
  clear Ba
  obtain ⟨a0, a1, -, -⟩ := Bb.out.at (q := q) (x := a) (y := b) (by simp)
  obtain ⟨f0, f1, -, -⟩ := Bb.out.at (q := q + 2) (x := f) (y := g) (by simp)
  go_wp2_with fail
  clear a0 a1 f0 f1
  generalize wa.alloc (.cells #[.int .i64 y1, .int .i64 y2] 25) = wb at *
  generalize wa.heap.size = q15 at *
  refine (K14.out _).mono ?_
  rintro e wd ⟨rfl, hb⟩
  have Bc := Lib.hid (Bb.out.later hb)
  clear hb Bb K14
  have Bd := Lib.hid (Bc.out.more g1 g2)
  clear Bc
  obtain ⟨c0, c1, -, -⟩ := Bd.out.at (q := q + 1) (x := c) (y := d) (by simp)
  obtain ⟨f0, f1, -, -⟩ := Bd.out.at (q := q + 2) (x := f) (y := g) (by simp)
  go_wp2_with fail
  clear c0 c1 f0 f1
  generalize wd.alloc (.cells #[.int .i64 g1, .int .i64 g2] 25) = we at *
  generalize wd.heap.size = q17 at *
  refine (K15.out _).mono ?_
  rintro e wf ⟨rfl, hb⟩
  have Be := Lib.hid (Bd.out.later hb)
  clear hb Bd K15
  have Bf := Lib.hid (Be.out.more h1 h2)
  clear Be
  go_upto_region 16 with fail
  generalize wf.alloc (.cells #[.int .i64 h1, .int .i64 h2] 25) = wg at *
  generalize wf.heap.size = q19 at *
  clear KM KS HM E6 E7 E8
  go_cut [125] (fun cc wx => cc = .bool (five && six && seven) ∧ Hid (Bs 25 [(q19, h1, h2), (q17, g1, g2), (q15, y1, y2), (q13, r1, r2), (q10, s1, s2), (q8, m1, m2), (q6, m1, m2), (q, a, b), (q + 1, c, d), (q + 2, f, g)] w wx))
  case first =>
    cases five <;> cases six <;> cases seven
    all_goals
      go_wp2_with fail
      go_meet
      exact ⟨rfl, Bf⟩
  case rest =>
  clear Bf
  obtain ⟨rfl, Bf⟩ := hcut
  obtain ⟨al, hal⟩ : ∃ al, (five && six && seven) = al := ⟨_, rfl⟩
  rw [hal]
  have HAL := Lib.hid hal
  clear hal
  go_upto_if 125 with fail
  go_cut [21, 22] (fun s21 s22 wx => Hid (Bs 25 [(q, a, b), (q + 1, c, d)] w wx))
  case first =>
    cases al
    · go_wp2_with fail
      go_meet
      exact Bf.out.sub (by simp)
    · obtain ⟨rfl, rfl, rfl⟩ : five = true ∧ six = true ∧ seven = true := by have := HAL.out; revert this; cases five <;> cases six <;> cases seven <;> decide
      obtain ⟨⟨⟨z1, z2⟩, ok⟩, h8⟩ : ∃ r, addG g1 g2 h1 h2 = r := ⟨_, rfl⟩
      have K16 := Lib.hid (KA.out g1 g2 h1 h2)
      rw [h8] at K16
      have H8 := Lib.hid h8
      clear h8
      obtain ⟨a0, a1, -, -⟩ := Bf.out.at (q := q17) (x := g1) (y := g2) (by simp)
      obtain ⟨c0, c1, -, -⟩ := Bf.out.at (q := q19) (x := h1) (y := h2) (by simp)
      go_wp2_with fail
      clear a0 a1 c0 c1
      refine (K16.out _).mono ?_
      rintro e wh ⟨rfl, hb⟩
      have Bg := Lib.hid (Bf.out.later hb)
      have Bh := Lib.hid (Bg.out.more z1 z2)
      clear hb Bf Bg K16
      obtain ⟨a0, a1, -, -⟩ := Bh.out.at (q := wh.heap.size) (x := z1) (y := z2) (by simp)
      obtain ⟨c0, c1, -, -⟩ := Bh.out.at (q := q15) (x := y1) (y := y2) (by simp)
      cases ok
      · go_wp2_with fail
        go_meet
        exact Bh.out.sub (by simp)
      · have hzy := E9.out (y1, y2) (g1, g2) (h1, h2) (z1, z2) H5.out H6.out H7.out H8.out
        obtain ⟨rfl, rfl⟩ : z1 = y1 ∧ z2 = y2 := by simpa using hzy
        clear hzy
        go_wp2_with fail
        go_meet
        exact Bh.out.sub (by simp)
  case rest =>
  clear Bf HAL H5 H6 H7 E9 KA
  have Bn := hcut
  have KA1 := Lib.hid (KC.out a b c d)
  have KA2 := Lib.hid (KC.out c d a b)
  rw [E3.out] at KA1
  have e4 := E4.out
  have e5 := E5.out
  rw [E3.out] at e4 e5
  generalize cmpG c d a b = k at *
  have hwk : IntKind.i64.wrap (-k) = -k := IntWalk.i64_in _ (by omega)
  have hwn : IntKind.i64.wrap ((n : Int) + 1) = (n : Int) + 1 := IntWalk.i64_in _ (by omega)
  clear E3 E4 E5 KC e5 hcut
  by_cases h1 : a = c
  · by_cases h2 : b = d
    · have hk : k = 0 := by have := e4.2 ⟨h1, h2⟩; omega
      subst h1 h2 hk
      clear e4
      go_wp2_with fail
      refine wp_region_script (by kernel_rfl) (by kernel_rfl) ?_
      refine Script.load (i := 0) (v := ?_) rfl (by kernel_rfl) (by kernel_rfl) (fun _ _ _ h => h) (by kernel_rfl) ?_ ?_
      rotate_left
      · (intro wS hSw; obtain ⟨a0, a1, -, -⟩ := (Bn.out.later (After.trans (After.drew (After.refl _)) hSw)).at (q := q) (x := a) (y := b) (by simp); obtain ⟨c0, c1, -, -⟩ := (Bn.out.later (After.trans (After.drew (After.refl _)) hSw)).at (q := q + 1) (x := a) (y := b) (by simp); go_simp; try with_reducible rfl)
      try simp only [Act.put, List.getElem_toArray, List.getElem_cons_succ, List.getElem_cons_zero, List.setIfInBounds_toArray, List.set_cons_zero, List.set_cons_succ]
      refine Script.load (i := 1) (v := ?_) rfl (by kernel_rfl) (by kernel_rfl) (fun _ _ _ h => h) (by kernel_rfl) ?_ ?_
      rotate_left
      · (intro wS hSw; obtain ⟨a0, a1, -, -⟩ := (Bn.out.later (After.trans (After.drew (After.refl _)) hSw)).at (q := q) (x := a) (y := b) (by simp); obtain ⟨c0, c1, -, -⟩ := (Bn.out.later (After.trans (After.drew (After.refl _)) hSw)).at (q := q + 1) (x := a) (y := b) (by simp); go_simp; try with_reducible rfl)
      try simp only [Act.put, List.getElem_toArray, List.getElem_cons_succ, List.getElem_cons_zero, List.setIfInBounds_toArray, List.set_cons_zero, List.set_cons_succ]
      refine Script.call (i := 2) (v := ?_) rfl (by kernel_rfl) (by kernel_rfl) (fun _ _ _ h => h) (by kernel_rfl) ?_ ?_
      rotate_left
      · (intro wS hSw K hK; obtain ⟨a0, a1, -, -⟩ := (Bn.out.later (After.trans (After.drew (After.refl _)) hSw)).at (q := q) (x := a) (y := b) (by simp); obtain ⟨c0, c1, -, -⟩ := (Bn.out.later (After.trans (After.drew (After.refl _)) hSw)).at (q := q + 1) (x := a) (y := b) (by simp); go_simp; go_at_call 17; refine (KA1.out _).mono ?_; rintro e wc ⟨rfl, hbc⟩; exact hK.out _ hbc)
      try simp only [Act.put, List.getElem_toArray, List.getElem_cons_succ, List.getElem_cons_zero, List.setIfInBounds_toArray, List.set_cons_zero, List.set_cons_succ]
      refine Script.load (i := 3) (v := ?_) rfl (by kernel_rfl) (by kernel_rfl) (fun _ _ _ h => h) (by kernel_rfl) ?_ ?_
      rotate_left
      · (intro wS hSw; obtain ⟨a0, a1, -, -⟩ := (Bn.out.later (After.trans (After.drew (After.refl _)) hSw)).at (q := q) (x := a) (y := b) (by simp); obtain ⟨c0, c1, -, -⟩ := (Bn.out.later (After.trans (After.drew (After.refl _)) hSw)).at (q := q + 1) (x := a) (y := b) (by simp); go_simp; try with_reducible rfl)
      try simp only [Act.put, List.getElem_toArray, List.getElem_cons_succ, List.getElem_cons_zero, List.setIfInBounds_toArray, List.set_cons_zero, List.set_cons_succ]
      refine Script.load (i := 4) (v := ?_) rfl (by kernel_rfl) (by kernel_rfl) (fun _ _ _ h => h) (by kernel_rfl) ?_ ?_
      rotate_left
      · (intro wS hSw; obtain ⟨a0, a1, -, -⟩ := (Bn.out.later (After.trans (After.drew (After.refl _)) hSw)).at (q := q) (x := a) (y := b) (by simp); obtain ⟨c0, c1, -, -⟩ := (Bn.out.later (After.trans (After.drew (After.refl _)) hSw)).at (q := q + 1) (x := a) (y := b) (by simp); go_simp; try with_reducible rfl)
      try simp only [Act.put, List.getElem_toArray, List.getElem_cons_succ, List.getElem_cons_zero, List.setIfInBounds_toArray, List.set_cons_zero, List.set_cons_succ]
      refine Script.call (i := 5) (v := ?_) rfl (by kernel_rfl) (by kernel_rfl) (fun _ _ _ h => h) (by kernel_rfl) ?_ ?_
      rotate_left
      · (intro wS hSw K hK; obtain ⟨a0, a1, -, -⟩ := (Bn.out.later (After.trans (After.drew (After.refl _)) hSw)).at (q := q) (x := a) (y := b) (by simp); obtain ⟨c0, c1, -, -⟩ := (Bn.out.later (After.trans (After.drew (After.refl _)) hSw)).at (q := q + 1) (x := a) (y := b) (by simp); go_simp; go_at_call 17; refine (KA2.out _).mono ?_; rintro e wc ⟨rfl, hbc⟩; exact hK.out _ hbc)
      try simp only [Act.put, List.getElem_toArray, List.getElem_cons_succ, List.getElem_cons_zero, List.setIfInBounds_toArray, List.set_cons_zero, List.set_cons_succ]
      refine Script.load (i := 6) (v := ?_) rfl (by kernel_rfl) (by kernel_rfl) (fun _ _ _ h => h) (by kernel_rfl) ?_ ?_
      rotate_left
      · (intro wS hSw; obtain ⟨a0, a1, -, -⟩ := (Bn.out.later (After.trans (After.drew (After.refl _)) hSw)).at (q := q) (x := a) (y := b) (by simp); obtain ⟨c0, c1, -, -⟩ := (Bn.out.later (After.trans (After.drew (After.refl _)) hSw)).at (q := q + 1) (x := a) (y := b) (by simp); go_simp; try with_reducible rfl)
      try simp only [Act.put, List.getElem_toArray, List.getElem_cons_succ, List.getElem_cons_zero, List.setIfInBounds_toArray, List.set_cons_zero, List.set_cons_succ]
      refine Script.load (i := 7) (v := ?_) rfl (by kernel_rfl) (by kernel_rfl) (fun _ _ _ h => h) (by kernel_rfl) ?_ ?_
      rotate_left
      · (intro wS hSw; obtain ⟨a0, a1, -, -⟩ := (Bn.out.later (After.trans (After.drew (After.refl _)) hSw)).at (q := q) (x := a) (y := b) (by simp); obtain ⟨c0, c1, -, -⟩ := (Bn.out.later (After.trans (After.drew (After.refl _)) hSw)).at (q := q + 1) (x := a) (y := b) (by simp); go_simp; try with_reducible rfl)
      try simp only [Act.put, List.getElem_toArray, List.getElem_cons_succ, List.getElem_cons_zero, List.setIfInBounds_toArray, List.set_cons_zero, List.set_cons_succ]
      refine Script.load (i := 8) (v := ?_) rfl (by kernel_rfl) (by kernel_rfl) (fun _ _ _ h => h) (by kernel_rfl) ?_ ?_
      rotate_left
      · (intro wS hSw; obtain ⟨a0, a1, -, -⟩ := (Bn.out.later (After.trans (After.drew (After.refl _)) hSw)).at (q := q) (x := a) (y := b) (by simp); obtain ⟨c0, c1, -, -⟩ := (Bn.out.later (After.trans (After.drew (After.refl _)) hSw)).at (q := q + 1) (x := a) (y := b) (by simp); go_simp; try with_reducible rfl)
      try simp only [Act.put, List.getElem_toArray, List.getElem_cons_succ, List.getElem_cons_zero, List.setIfInBounds_toArray, List.set_cons_zero, List.set_cons_succ]
      refine Script.load (i := 9) (v := ?_) rfl (by kernel_rfl) (by kernel_rfl) (fun _ _ _ h => h) (by kernel_rfl) ?_ ?_
      rotate_left
      · (intro wS hSw; obtain ⟨a0, a1, -, -⟩ := (Bn.out.later (After.trans (After.drew (After.refl _)) hSw)).at (q := q) (x := a) (y := b) (by simp); obtain ⟨c0, c1, -, -⟩ := (Bn.out.later (After.trans (After.drew (After.refl _)) hSw)).at (q := q + 1) (x := a) (y := b) (by simp); go_simp; try with_reducible rfl)
      try simp only [Act.put, List.getElem_toArray, List.getElem_cons_succ, List.getElem_cons_zero, List.setIfInBounds_toArray, List.set_cons_zero, List.set_cons_succ]
      refine Script.load (i := 10) (v := ?_) rfl (by kernel_rfl) (by kernel_rfl) (fun _ _ _ h => h) (by kernel_rfl) ?_ ?_
      rotate_left
      · (intro wS hSw; obtain ⟨a0, a1, -, -⟩ := (Bn.out.later (After.trans (After.drew (After.refl _)) hSw)).at (q := q) (x := a) (y := b) (by simp); obtain ⟨c0, c1, -, -⟩ := (Bn.out.later (After.trans (After.drew (After.refl _)) hSw)).at (q := q + 1) (x := a) (y := b) (by simp); go_simp; try with_reducible rfl)
      try simp only [Act.put, List.getElem_toArray, List.getElem_cons_succ, List.getElem_cons_zero, List.setIfInBounds_toArray, List.set_cons_zero, List.set_cons_succ]
      refine Script.call (i := 11) (v := ?_) rfl (by kernel_rfl) (by kernel_rfl) (fun _ _ _ h => h) (by kernel_rfl) ?_ ?_
      rotate_left
      · (intro wS hSw K hK; obtain ⟨a0, a1, -, -⟩ := (Bn.out.later (After.trans (After.drew (After.refl _)) hSw)).at (q := q) (x := a) (y := b) (by simp); obtain ⟨c0, c1, -, -⟩ := (Bn.out.later (After.trans (After.drew (After.refl _)) hSw)).at (q := q + 1) (x := a) (y := b) (by simp); go_simp; go_at_call 17; refine (KA1.out _).mono ?_; rintro e wc ⟨rfl, hbc⟩; exact hK.out _ hbc)
      try simp only [Act.put, List.getElem_toArray, List.getElem_cons_succ, List.getElem_cons_zero, List.setIfInBounds_toArray, List.set_cons_zero, List.set_cons_succ]
      refine Script.load (i := 12) (v := ?_) rfl (by kernel_rfl) (by kernel_rfl) (fun _ _ _ h => h) (by kernel_rfl) ?_ ?_
      rotate_left
      · (intro wS hSw; obtain ⟨a0, a1, -, -⟩ := (Bn.out.later (After.trans (After.drew (After.refl _)) hSw)).at (q := q) (x := a) (y := b) (by simp); obtain ⟨c0, c1, -, -⟩ := (Bn.out.later (After.trans (After.drew (After.refl _)) hSw)).at (q := q + 1) (x := a) (y := b) (by simp); go_simp; try with_reducible rfl)
      try simp only [Act.put, List.getElem_toArray, List.getElem_cons_succ, List.getElem_cons_zero, List.setIfInBounds_toArray, List.set_cons_zero, List.set_cons_succ]
      refine Script.load (i := 13) (v := ?_) rfl (by kernel_rfl) (by kernel_rfl) (fun _ _ _ h => h) (by kernel_rfl) ?_ ?_
      rotate_left
      · (intro wS hSw; obtain ⟨a0, a1, -, -⟩ := (Bn.out.later (After.trans (After.drew (After.refl _)) hSw)).at (q := q) (x := a) (y := b) (by simp); obtain ⟨c0, c1, -, -⟩ := (Bn.out.later (After.trans (After.drew (After.refl _)) hSw)).at (q := q + 1) (x := a) (y := b) (by simp); go_simp; try with_reducible rfl)
      try simp only [Act.put, List.getElem_toArray, List.getElem_cons_succ, List.getElem_cons_zero, List.setIfInBounds_toArray, List.set_cons_zero, List.set_cons_succ]
      refine Script.load (i := 14) (v := ?_) rfl (by kernel_rfl) (by kernel_rfl) (fun _ _ _ h => h) (by kernel_rfl) ?_ ?_
      rotate_left
      · (intro wS hSw; obtain ⟨a0, a1, -, -⟩ := (Bn.out.later (After.trans (After.drew (After.refl _)) hSw)).at (q := q) (x := a) (y := b) (by simp); obtain ⟨c0, c1, -, -⟩ := (Bn.out.later (After.trans (After.drew (After.refl _)) hSw)).at (q := q + 1) (x := a) (y := b) (by simp); go_simp; try with_reducible rfl)
      try simp only [Act.put, List.getElem_toArray, List.getElem_cons_succ, List.getElem_cons_zero, List.setIfInBounds_toArray, List.set_cons_zero, List.set_cons_succ]
      refine Script.load (i := 15) (v := ?_) rfl (by kernel_rfl) (by kernel_rfl) (fun _ _ _ h => h) (by kernel_rfl) ?_ ?_
      rotate_left
      · (intro wS hSw; obtain ⟨a0, a1, -, -⟩ := (Bn.out.later (After.trans (After.drew (After.refl _)) hSw)).at (q := q) (x := a) (y := b) (by simp); obtain ⟨c0, c1, -, -⟩ := (Bn.out.later (After.trans (After.drew (After.refl _)) hSw)).at (q := q + 1) (x := a) (y := b) (by simp); go_simp; try with_reducible rfl)
      try simp only [Act.put, List.getElem_toArray, List.getElem_cons_succ, List.getElem_cons_zero, List.setIfInBounds_toArray, List.set_cons_zero, List.set_cons_succ]
      refine Script.load (i := 16) (v := ?_) rfl (by kernel_rfl) (by kernel_rfl) (fun _ _ _ h => h) (by kernel_rfl) ?_ ?_
      rotate_left
      · (intro wS hSw; obtain ⟨a0, a1, -, -⟩ := (Bn.out.later (After.trans (After.drew (After.refl _)) hSw)).at (q := q) (x := a) (y := b) (by simp); obtain ⟨c0, c1, -, -⟩ := (Bn.out.later (After.trans (After.drew (After.refl _)) hSw)).at (q := q + 1) (x := a) (y := b) (by simp); go_simp; try with_reducible rfl)
      try simp only [Act.put, List.getElem_toArray, List.getElem_cons_succ, List.getElem_cons_zero, List.setIfInBounds_toArray, List.set_cons_zero, List.set_cons_succ]
      refine Script.load (i := 17) (v := ?_) rfl (by kernel_rfl) (by kernel_rfl) (fun _ _ _ h => h) (by kernel_rfl) ?_ ?_
      rotate_left
      · (intro wS hSw; obtain ⟨a0, a1, -, -⟩ := (Bn.out.later (After.trans (After.drew (After.refl _)) hSw)).at (q := q) (x := a) (y := b) (by simp); obtain ⟨c0, c1, -, -⟩ := (Bn.out.later (After.trans (After.drew (After.refl _)) hSw)).at (q := q + 1) (x := a) (y := b) (by simp); go_simp; try with_reducible rfl)
      try simp only [Act.put, List.getElem_toArray, List.getElem_cons_succ, List.getElem_cons_zero, List.setIfInBounds_toArray, List.set_cons_zero, List.set_cons_succ]
      refine Script.load (i := 18) (v := ?_) rfl (by kernel_rfl) (by kernel_rfl) (fun _ _ _ h => h) (by kernel_rfl) ?_ ?_
      rotate_left
      · (intro wS hSw; obtain ⟨a0, a1, -, -⟩ := (Bn.out.later (After.trans (After.drew (After.refl _)) hSw)).at (q := q) (x := a) (y := b) (by simp); obtain ⟨c0, c1, -, -⟩ := (Bn.out.later (After.trans (After.drew (After.refl _)) hSw)).at (q := q + 1) (x := a) (y := b) (by simp); go_simp; try with_reducible rfl)
      try simp only [Act.put, List.getElem_toArray, List.getElem_cons_succ, List.getElem_cons_zero, List.setIfInBounds_toArray, List.set_cons_zero, List.set_cons_succ]
      refine Script.load (i := 19) (v := ?_) rfl (by kernel_rfl) (by kernel_rfl) (fun _ _ _ h => h) (by kernel_rfl) ?_ ?_
      rotate_left
      · (intro wS hSw; obtain ⟨a0, a1, -, -⟩ := (Bn.out.later (After.trans (After.drew (After.refl _)) hSw)).at (q := q) (x := a) (y := b) (by simp); obtain ⟨c0, c1, -, -⟩ := (Bn.out.later (After.trans (After.drew (After.refl _)) hSw)).at (q := q + 1) (x := a) (y := b) (by simp); go_simp; try with_reducible rfl)
      try simp only [Act.put, List.getElem_toArray, List.getElem_cons_succ, List.getElem_cons_zero, List.setIfInBounds_toArray, List.set_cons_zero, List.set_cons_succ]
      refine Script.call (i := 20) (v := ?_) rfl (by kernel_rfl) (by kernel_rfl) (fun _ _ _ h => h) (by kernel_rfl) ?_ ?_
      rotate_left
      · (intro wS hSw K hK; obtain ⟨a0, a1, -, -⟩ := (Bn.out.later (After.trans (After.drew (After.refl _)) hSw)).at (q := q) (x := a) (y := b) (by simp); obtain ⟨c0, c1, -, -⟩ := (Bn.out.later (After.trans (After.drew (After.refl _)) hSw)).at (q := q + 1) (x := a) (y := b) (by simp); go_simp; go_at_call 18; refine (KG.out _).mono ?_; rintro e wc ⟨rfl, hbc⟩; exact hK.out _ hbc)
      try simp only [Act.put, List.getElem_toArray, List.getElem_cons_succ, List.getElem_cons_zero, List.setIfInBounds_toArray, List.set_cons_zero, List.set_cons_succ]
      refine Script.load (i := 21) (v := ?_) rfl (by kernel_rfl) (by kernel_rfl) (fun _ _ _ h => h) (by kernel_rfl) ?_ ?_
      rotate_left
      · (intro wS hSw; obtain ⟨a0, a1, -, -⟩ := (Bn.out.later (After.trans (After.drew (After.refl _)) hSw)).at (q := q) (x := a) (y := b) (by simp); obtain ⟨c0, c1, -, -⟩ := (Bn.out.later (After.trans (After.drew (After.refl _)) hSw)).at (q := q + 1) (x := a) (y := b) (by simp); go_simp; try with_reducible rfl)
      try simp only [Act.put, List.getElem_toArray, List.getElem_cons_succ, List.getElem_cons_zero, List.setIfInBounds_toArray, List.set_cons_zero, List.set_cons_succ]
      refine Script.load (i := 22) (v := ?_) rfl (by kernel_rfl) (by kernel_rfl) (fun _ _ _ h => h) (by kernel_rfl) ?_ ?_
      rotate_left
      · (intro wS hSw; obtain ⟨a0, a1, -, -⟩ := (Bn.out.later (After.trans (After.drew (After.refl _)) hSw)).at (q := q) (x := a) (y := b) (by simp); obtain ⟨c0, c1, -, -⟩ := (Bn.out.later (After.trans (After.drew (After.refl _)) hSw)).at (q := q + 1) (x := a) (y := b) (by simp); go_simp; try with_reducible rfl)
      try simp only [Act.put, List.getElem_toArray, List.getElem_cons_succ, List.getElem_cons_zero, List.setIfInBounds_toArray, List.set_cons_zero, List.set_cons_succ]
      refine Script.load (i := 23) (v := ?_) rfl (by kernel_rfl) (by kernel_rfl) (fun _ _ _ h => h) (by kernel_rfl) ?_ ?_
      rotate_left
      · (intro wS hSw; obtain ⟨a0, a1, -, -⟩ := (Bn.out.later (After.trans (After.drew (After.refl _)) hSw)).at (q := q) (x := a) (y := b) (by simp); obtain ⟨c0, c1, -, -⟩ := (Bn.out.later (After.trans (After.drew (After.refl _)) hSw)).at (q := q + 1) (x := a) (y := b) (by simp); go_simp; try with_reducible rfl)
      try simp only [Act.put, List.getElem_toArray, List.getElem_cons_succ, List.getElem_cons_zero, List.setIfInBounds_toArray, List.set_cons_zero, List.set_cons_succ]
      refine Script.load (i := 24) (v := ?_) rfl (by kernel_rfl) (by kernel_rfl) (fun _ _ _ h => h) (by kernel_rfl) ?_ ?_
      rotate_left
      · (intro wS hSw; obtain ⟨a0, a1, -, -⟩ := (Bn.out.later (After.trans (After.drew (After.refl _)) hSw)).at (q := q) (x := a) (y := b) (by simp); obtain ⟨c0, c1, -, -⟩ := (Bn.out.later (After.trans (After.drew (After.refl _)) hSw)).at (q := q + 1) (x := a) (y := b) (by simp); go_simp; try with_reducible rfl)
      try simp only [Act.put, List.getElem_toArray, List.getElem_cons_succ, List.getElem_cons_zero, List.setIfInBounds_toArray, List.set_cons_zero, List.set_cons_succ]
      refine Script.call (i := 25) (v := ?_) rfl (by kernel_rfl) (by kernel_rfl) (fun _ _ _ h => h) (by kernel_rfl) ?_ ?_
      rotate_left
      · (intro wS hSw K hK; obtain ⟨a0, a1, -, -⟩ := (Bn.out.later (After.trans (After.drew (After.refl _)) hSw)).at (q := q) (x := a) (y := b) (by simp); obtain ⟨c0, c1, -, -⟩ := (Bn.out.later (After.trans (After.drew (After.refl _)) hSw)).at (q := q + 1) (x := a) (y := b) (by simp); go_simp; go_at_call 15; refine (K4.out _).mono ?_; rintro e wc ⟨rfl, hbc⟩; exact hK.out _ hbc)
      try simp only [Act.put, List.getElem_toArray, List.getElem_cons_succ, List.getElem_cons_zero, List.setIfInBounds_toArray, List.set_cons_zero, List.set_cons_succ]
      refine Script.load (i := 26) (v := ?_) rfl (by kernel_rfl) (by kernel_rfl) (fun _ _ _ h => h) (by kernel_rfl) ?_ ?_
      rotate_left
      · (intro wS hSw; obtain ⟨a0, a1, -, -⟩ := (Bn.out.later (After.trans (After.drew (After.refl _)) hSw)).at (q := q) (x := a) (y := b) (by simp); obtain ⟨c0, c1, -, -⟩ := (Bn.out.later (After.trans (After.drew (After.refl _)) hSw)).at (q := q + 1) (x := a) (y := b) (by simp); go_simp; try with_reducible rfl)
      try simp only [Act.put, List.getElem_toArray, List.getElem_cons_succ, List.getElem_cons_zero, List.setIfInBounds_toArray, List.set_cons_zero, List.set_cons_succ]
      refine Script.call (i := 27) (v := ?_) rfl (by kernel_rfl) (by kernel_rfl) (fun _ _ _ h => h) (by kernel_rfl) ?_ ?_
      rotate_left
      · (intro wS hSw K hK; obtain ⟨a0, a1, -, -⟩ := (Bn.out.later (After.trans (After.drew (After.refl _)) hSw)).at (q := q) (x := a) (y := b) (by simp); obtain ⟨c0, c1, -, -⟩ := (Bn.out.later (After.trans (After.drew (After.refl _)) hSw)).at (q := q + 1) (x := a) (y := b) (by simp); go_simp; go_at_call 15; refine (K6.out _).mono ?_; rintro e wc ⟨rfl, hbc⟩; exact hK.out _ hbc)
      try simp only [Act.put, List.getElem_toArray, List.getElem_cons_succ, List.getElem_cons_zero, List.setIfInBounds_toArray, List.set_cons_zero, List.set_cons_succ]
      refine Script.call (i := 28) (v := ?_) rfl (by kernel_rfl) (by kernel_rfl) (fun _ _ _ h => h) (by kernel_rfl) ?_ ?_
      rotate_left
      · (intro wS hSw K hK; obtain ⟨a0, a1, -, -⟩ := (Bn.out.later (After.trans (After.drew (After.refl _)) hSw)).at (q := q) (x := a) (y := b) (by simp); obtain ⟨c0, c1, -, -⟩ := (Bn.out.later (After.trans (After.drew (After.refl _)) hSw)).at (q := q + 1) (x := a) (y := b) (by simp); go_simp; go_at_call 17; refine (K9.out _).mono ?_; rintro e wc ⟨rfl, hbc⟩; exact hK.out _ hbc)
      try simp only [Act.put, List.getElem_toArray, List.getElem_cons_succ, List.getElem_cons_zero, List.setIfInBounds_toArray, List.set_cons_zero, List.set_cons_succ]
      refine Script.load (i := 29) (v := ?_) rfl (by kernel_rfl) (by kernel_rfl) (fun _ _ _ h => h) (by kernel_rfl) ?_ ?_
      rotate_left
      · (intro wS hSw; obtain ⟨a0, a1, -, -⟩ := (Bn.out.later (After.trans (After.drew (After.refl _)) hSw)).at (q := q) (x := a) (y := b) (by simp); obtain ⟨c0, c1, -, -⟩ := (Bn.out.later (After.trans (After.drew (After.refl _)) hSw)).at (q := q + 1) (x := a) (y := b) (by simp); go_simp; try with_reducible rfl)
      try simp only [Act.put, List.getElem_toArray, List.getElem_cons_succ, List.getElem_cons_zero, List.setIfInBounds_toArray, List.set_cons_zero, List.set_cons_succ]
      refine Script.load (i := 30) (v := ?_) rfl (by kernel_rfl) (by kernel_rfl) (fun _ _ _ h => h) (by kernel_rfl) ?_ ?_
      rotate_left
      · (intro wS hSw; obtain ⟨a0, a1, -, -⟩ := (Bn.out.later (After.trans (After.drew (After.refl _)) hSw)).at (q := q) (x := a) (y := b) (by simp); obtain ⟨c0, c1, -, -⟩ := (Bn.out.later (After.trans (After.drew (After.refl _)) hSw)).at (q := q + 1) (x := a) (y := b) (by simp); go_simp; try with_reducible rfl)
      try simp only [Act.put, List.getElem_toArray, List.getElem_cons_succ, List.getElem_cons_zero, List.setIfInBounds_toArray, List.set_cons_zero, List.set_cons_succ]
      refine Script.load (i := 31) (v := ?_) rfl (by kernel_rfl) (by kernel_rfl) (fun _ _ _ h => h) (by kernel_rfl) ?_ ?_
      rotate_left
      · (intro wS hSw; obtain ⟨a0, a1, -, -⟩ := (Bn.out.later (After.trans (After.drew (After.refl _)) hSw)).at (q := q) (x := a) (y := b) (by simp); obtain ⟨c0, c1, -, -⟩ := (Bn.out.later (After.trans (After.drew (After.refl _)) hSw)).at (q := q + 1) (x := a) (y := b) (by simp); go_simp; try with_reducible rfl)
      try simp only [Act.put, List.getElem_toArray, List.getElem_cons_succ, List.getElem_cons_zero, List.setIfInBounds_toArray, List.set_cons_zero, List.set_cons_succ]
      refine Script.done (by kernel_rfl) ?_
      intro wD hD hG
      have HF := Lib.hid (Bn.out.2.trans (Below.mono (After.trans (After.drew (After.refl _)) hD) Bn.out.2.size))
      clear hD hG
      go_wp2_with fail
      go_ret
      exact ⟨rfl, HF.out⟩
    · have hk : (-k == 0) = false := by
        have : ¬ -k = 0 := fun h => h2 (e4.1 h).2
        simpa using this
      subst h1
      clear e4
      go_wp2_with fail
      refine wp_region_script (by kernel_rfl) (by kernel_rfl) ?_
      refine Script.load (i := 0) (v := ?_) rfl (by kernel_rfl) (by kernel_rfl) (fun _ _ _ h => h) (by kernel_rfl) ?_ ?_
      rotate_left
      · (intro wS hSw; obtain ⟨a0, a1, -, -⟩ := (Bn.out.later (After.trans (After.drew (After.refl _)) hSw)).at (q := q) (x := a) (y := b) (by simp); obtain ⟨c0, c1, -, -⟩ := (Bn.out.later (After.trans (After.drew (After.refl _)) hSw)).at (q := q + 1) (x := a) (y := d) (by simp); go_simp; try with_reducible rfl)
      try simp only [Act.put, List.getElem_toArray, List.getElem_cons_succ, List.getElem_cons_zero, List.setIfInBounds_toArray, List.set_cons_zero, List.set_cons_succ]
      refine Script.load (i := 1) (v := ?_) rfl (by kernel_rfl) (by kernel_rfl) (fun _ _ _ h => h) (by kernel_rfl) ?_ ?_
      rotate_left
      · (intro wS hSw; obtain ⟨a0, a1, -, -⟩ := (Bn.out.later (After.trans (After.drew (After.refl _)) hSw)).at (q := q) (x := a) (y := b) (by simp); obtain ⟨c0, c1, -, -⟩ := (Bn.out.later (After.trans (After.drew (After.refl _)) hSw)).at (q := q + 1) (x := a) (y := d) (by simp); go_simp; try with_reducible rfl)
      try simp only [Act.put, List.getElem_toArray, List.getElem_cons_succ, List.getElem_cons_zero, List.setIfInBounds_toArray, List.set_cons_zero, List.set_cons_succ]
      refine Script.call (i := 2) (v := ?_) rfl (by kernel_rfl) (by kernel_rfl) (fun _ _ _ h => h) (by kernel_rfl) ?_ ?_
      rotate_left
      · (intro wS hSw K hK; obtain ⟨a0, a1, -, -⟩ := (Bn.out.later (After.trans (After.drew (After.refl _)) hSw)).at (q := q) (x := a) (y := b) (by simp); obtain ⟨c0, c1, -, -⟩ := (Bn.out.later (After.trans (After.drew (After.refl _)) hSw)).at (q := q + 1) (x := a) (y := d) (by simp); go_simp; go_at_call 17; refine (KA1.out _).mono ?_; rintro e wc ⟨rfl, hbc⟩; exact hK.out _ hbc)
      try simp only [Act.put, List.getElem_toArray, List.getElem_cons_succ, List.getElem_cons_zero, List.setIfInBounds_toArray, List.set_cons_zero, List.set_cons_succ]
      refine Script.load (i := 3) (v := ?_) rfl (by kernel_rfl) (by kernel_rfl) (fun _ _ _ h => h) (by kernel_rfl) ?_ ?_
      rotate_left
      · (intro wS hSw; obtain ⟨a0, a1, -, -⟩ := (Bn.out.later (After.trans (After.drew (After.refl _)) hSw)).at (q := q) (x := a) (y := b) (by simp); obtain ⟨c0, c1, -, -⟩ := (Bn.out.later (After.trans (After.drew (After.refl _)) hSw)).at (q := q + 1) (x := a) (y := d) (by simp); go_simp; try with_reducible rfl)
      try simp only [Act.put, List.getElem_toArray, List.getElem_cons_succ, List.getElem_cons_zero, List.setIfInBounds_toArray, List.set_cons_zero, List.set_cons_succ]
      refine Script.load (i := 4) (v := ?_) rfl (by kernel_rfl) (by kernel_rfl) (fun _ _ _ h => h) (by kernel_rfl) ?_ ?_
      rotate_left
      · (intro wS hSw; obtain ⟨a0, a1, -, -⟩ := (Bn.out.later (After.trans (After.drew (After.refl _)) hSw)).at (q := q) (x := a) (y := b) (by simp); obtain ⟨c0, c1, -, -⟩ := (Bn.out.later (After.trans (After.drew (After.refl _)) hSw)).at (q := q + 1) (x := a) (y := d) (by simp); go_simp; try with_reducible rfl)
      try simp only [Act.put, List.getElem_toArray, List.getElem_cons_succ, List.getElem_cons_zero, List.setIfInBounds_toArray, List.set_cons_zero, List.set_cons_succ]
      refine Script.call (i := 5) (v := ?_) rfl (by kernel_rfl) (by kernel_rfl) (fun _ _ _ h => h) (by kernel_rfl) ?_ ?_
      rotate_left
      · (intro wS hSw K hK; obtain ⟨a0, a1, -, -⟩ := (Bn.out.later (After.trans (After.drew (After.refl _)) hSw)).at (q := q) (x := a) (y := b) (by simp); obtain ⟨c0, c1, -, -⟩ := (Bn.out.later (After.trans (After.drew (After.refl _)) hSw)).at (q := q + 1) (x := a) (y := d) (by simp); go_simp; go_at_call 17; refine (KA2.out _).mono ?_; rintro e wc ⟨rfl, hbc⟩; exact hK.out _ hbc)
      try simp only [Act.put, List.getElem_toArray, List.getElem_cons_succ, List.getElem_cons_zero, List.setIfInBounds_toArray, List.set_cons_zero, List.set_cons_succ]
      refine Script.load (i := 6) (v := ?_) rfl (by kernel_rfl) (by kernel_rfl) (fun _ _ _ h => h) (by kernel_rfl) ?_ ?_
      rotate_left
      · (intro wS hSw; obtain ⟨a0, a1, -, -⟩ := (Bn.out.later (After.trans (After.drew (After.refl _)) hSw)).at (q := q) (x := a) (y := b) (by simp); obtain ⟨c0, c1, -, -⟩ := (Bn.out.later (After.trans (After.drew (After.refl _)) hSw)).at (q := q + 1) (x := a) (y := d) (by simp); go_simp; try with_reducible rfl)
      try simp only [Act.put, List.getElem_toArray, List.getElem_cons_succ, List.getElem_cons_zero, List.setIfInBounds_toArray, List.set_cons_zero, List.set_cons_succ]
      refine Script.load (i := 7) (v := ?_) rfl (by kernel_rfl) (by kernel_rfl) (fun _ _ _ h => h) (by kernel_rfl) ?_ ?_
      rotate_left
      · (intro wS hSw; obtain ⟨a0, a1, -, -⟩ := (Bn.out.later (After.trans (After.drew (After.refl _)) hSw)).at (q := q) (x := a) (y := b) (by simp); obtain ⟨c0, c1, -, -⟩ := (Bn.out.later (After.trans (After.drew (After.refl _)) hSw)).at (q := q + 1) (x := a) (y := d) (by simp); go_simp; try with_reducible rfl)
      try simp only [Act.put, List.getElem_toArray, List.getElem_cons_succ, List.getElem_cons_zero, List.setIfInBounds_toArray, List.set_cons_zero, List.set_cons_succ]
      refine Script.load (i := 8) (v := ?_) rfl (by kernel_rfl) (by kernel_rfl) (fun _ _ _ h => h) (by kernel_rfl) ?_ ?_
      rotate_left
      · (intro wS hSw; obtain ⟨a0, a1, -, -⟩ := (Bn.out.later (After.trans (After.drew (After.refl _)) hSw)).at (q := q) (x := a) (y := b) (by simp); obtain ⟨c0, c1, -, -⟩ := (Bn.out.later (After.trans (After.drew (After.refl _)) hSw)).at (q := q + 1) (x := a) (y := d) (by simp); go_simp; try with_reducible rfl)
      try simp only [Act.put, List.getElem_toArray, List.getElem_cons_succ, List.getElem_cons_zero, List.setIfInBounds_toArray, List.set_cons_zero, List.set_cons_succ]
      refine Script.load (i := 9) (v := ?_) rfl (by kernel_rfl) (by kernel_rfl) (fun _ _ _ h => h) (by kernel_rfl) ?_ ?_
      rotate_left
      · (intro wS hSw; obtain ⟨a0, a1, -, -⟩ := (Bn.out.later (After.trans (After.drew (After.refl _)) hSw)).at (q := q) (x := a) (y := b) (by simp); obtain ⟨c0, c1, -, -⟩ := (Bn.out.later (After.trans (After.drew (After.refl _)) hSw)).at (q := q + 1) (x := a) (y := d) (by simp); go_simp; try with_reducible rfl)
      try simp only [Act.put, List.getElem_toArray, List.getElem_cons_succ, List.getElem_cons_zero, List.setIfInBounds_toArray, List.set_cons_zero, List.set_cons_succ]
      refine Script.load (i := 10) (v := ?_) rfl (by kernel_rfl) (by kernel_rfl) (fun _ _ _ h => h) (by kernel_rfl) ?_ ?_
      rotate_left
      · (intro wS hSw; obtain ⟨a0, a1, -, -⟩ := (Bn.out.later (After.trans (After.drew (After.refl _)) hSw)).at (q := q) (x := a) (y := b) (by simp); obtain ⟨c0, c1, -, -⟩ := (Bn.out.later (After.trans (After.drew (After.refl _)) hSw)).at (q := q + 1) (x := a) (y := d) (by simp); go_simp; try with_reducible rfl)
      try simp only [Act.put, List.getElem_toArray, List.getElem_cons_succ, List.getElem_cons_zero, List.setIfInBounds_toArray, List.set_cons_zero, List.set_cons_succ]
      refine Script.call (i := 11) (v := ?_) rfl (by kernel_rfl) (by kernel_rfl) (fun _ _ _ h => h) (by kernel_rfl) ?_ ?_
      rotate_left
      · (intro wS hSw K hK; obtain ⟨a0, a1, -, -⟩ := (Bn.out.later (After.trans (After.drew (After.refl _)) hSw)).at (q := q) (x := a) (y := b) (by simp); obtain ⟨c0, c1, -, -⟩ := (Bn.out.later (After.trans (After.drew (After.refl _)) hSw)).at (q := q + 1) (x := a) (y := d) (by simp); go_simp; go_at_call 17; refine (KA1.out _).mono ?_; rintro e wc ⟨rfl, hbc⟩; exact hK.out _ hbc)
      try simp only [Act.put, List.getElem_toArray, List.getElem_cons_succ, List.getElem_cons_zero, List.setIfInBounds_toArray, List.set_cons_zero, List.set_cons_succ]
      refine Script.load (i := 12) (v := ?_) rfl (by kernel_rfl) (by kernel_rfl) (fun _ _ _ h => h) (by kernel_rfl) ?_ ?_
      rotate_left
      · (intro wS hSw; obtain ⟨a0, a1, -, -⟩ := (Bn.out.later (After.trans (After.drew (After.refl _)) hSw)).at (q := q) (x := a) (y := b) (by simp); obtain ⟨c0, c1, -, -⟩ := (Bn.out.later (After.trans (After.drew (After.refl _)) hSw)).at (q := q + 1) (x := a) (y := d) (by simp); go_simp; try with_reducible rfl)
      try simp only [Act.put, List.getElem_toArray, List.getElem_cons_succ, List.getElem_cons_zero, List.setIfInBounds_toArray, List.set_cons_zero, List.set_cons_succ]
      refine Script.load (i := 13) (v := ?_) rfl (by kernel_rfl) (by kernel_rfl) (fun _ _ _ h => h) (by kernel_rfl) ?_ ?_
      rotate_left
      · (intro wS hSw; obtain ⟨a0, a1, -, -⟩ := (Bn.out.later (After.trans (After.drew (After.refl _)) hSw)).at (q := q) (x := a) (y := b) (by simp); obtain ⟨c0, c1, -, -⟩ := (Bn.out.later (After.trans (After.drew (After.refl _)) hSw)).at (q := q + 1) (x := a) (y := d) (by simp); go_simp; try with_reducible rfl)
      try simp only [Act.put, List.getElem_toArray, List.getElem_cons_succ, List.getElem_cons_zero, List.setIfInBounds_toArray, List.set_cons_zero, List.set_cons_succ]
      refine Script.load (i := 14) (v := ?_) rfl (by kernel_rfl) (by kernel_rfl) (fun _ _ _ h => h) (by kernel_rfl) ?_ ?_
      rotate_left
      · (intro wS hSw; obtain ⟨a0, a1, -, -⟩ := (Bn.out.later (After.trans (After.drew (After.refl _)) hSw)).at (q := q) (x := a) (y := b) (by simp); obtain ⟨c0, c1, -, -⟩ := (Bn.out.later (After.trans (After.drew (After.refl _)) hSw)).at (q := q + 1) (x := a) (y := d) (by simp); go_simp; try with_reducible rfl)
      try simp only [Act.put, List.getElem_toArray, List.getElem_cons_succ, List.getElem_cons_zero, List.setIfInBounds_toArray, List.set_cons_zero, List.set_cons_succ]
      refine Script.load (i := 15) (v := ?_) rfl (by kernel_rfl) (by kernel_rfl) (fun _ _ _ h => h) (by kernel_rfl) ?_ ?_
      rotate_left
      · (intro wS hSw; obtain ⟨a0, a1, -, -⟩ := (Bn.out.later (After.trans (After.drew (After.refl _)) hSw)).at (q := q) (x := a) (y := b) (by simp); obtain ⟨c0, c1, -, -⟩ := (Bn.out.later (After.trans (After.drew (After.refl _)) hSw)).at (q := q + 1) (x := a) (y := d) (by simp); go_simp; try with_reducible rfl)
      try simp only [Act.put, List.getElem_toArray, List.getElem_cons_succ, List.getElem_cons_zero, List.setIfInBounds_toArray, List.set_cons_zero, List.set_cons_succ]
      refine Script.load (i := 16) (v := ?_) rfl (by kernel_rfl) (by kernel_rfl) (fun _ _ _ h => h) (by kernel_rfl) ?_ ?_
      rotate_left
      · (intro wS hSw; obtain ⟨a0, a1, -, -⟩ := (Bn.out.later (After.trans (After.drew (After.refl _)) hSw)).at (q := q) (x := a) (y := b) (by simp); obtain ⟨c0, c1, -, -⟩ := (Bn.out.later (After.trans (After.drew (After.refl _)) hSw)).at (q := q + 1) (x := a) (y := d) (by simp); go_simp; try with_reducible rfl)
      try simp only [Act.put, List.getElem_toArray, List.getElem_cons_succ, List.getElem_cons_zero, List.setIfInBounds_toArray, List.set_cons_zero, List.set_cons_succ]
      refine Script.load (i := 17) (v := ?_) rfl (by kernel_rfl) (by kernel_rfl) (fun _ _ _ h => h) (by kernel_rfl) ?_ ?_
      rotate_left
      · (intro wS hSw; obtain ⟨a0, a1, -, -⟩ := (Bn.out.later (After.trans (After.drew (After.refl _)) hSw)).at (q := q) (x := a) (y := b) (by simp); obtain ⟨c0, c1, -, -⟩ := (Bn.out.later (After.trans (After.drew (After.refl _)) hSw)).at (q := q + 1) (x := a) (y := d) (by simp); go_simp; try with_reducible rfl)
      try simp only [Act.put, List.getElem_toArray, List.getElem_cons_succ, List.getElem_cons_zero, List.setIfInBounds_toArray, List.set_cons_zero, List.set_cons_succ]
      refine Script.load (i := 18) (v := ?_) rfl (by kernel_rfl) (by kernel_rfl) (fun _ _ _ h => h) (by kernel_rfl) ?_ ?_
      rotate_left
      · (intro wS hSw; obtain ⟨a0, a1, -, -⟩ := (Bn.out.later (After.trans (After.drew (After.refl _)) hSw)).at (q := q) (x := a) (y := b) (by simp); obtain ⟨c0, c1, -, -⟩ := (Bn.out.later (After.trans (After.drew (After.refl _)) hSw)).at (q := q + 1) (x := a) (y := d) (by simp); go_simp; try with_reducible rfl)
      try simp only [Act.put, List.getElem_toArray, List.getElem_cons_succ, List.getElem_cons_zero, List.setIfInBounds_toArray, List.set_cons_zero, List.set_cons_succ]
      refine Script.load (i := 19) (v := ?_) rfl (by kernel_rfl) (by kernel_rfl) (fun _ _ _ h => h) (by kernel_rfl) ?_ ?_
      rotate_left
      · (intro wS hSw; obtain ⟨a0, a1, -, -⟩ := (Bn.out.later (After.trans (After.drew (After.refl _)) hSw)).at (q := q) (x := a) (y := b) (by simp); obtain ⟨c0, c1, -, -⟩ := (Bn.out.later (After.trans (After.drew (After.refl _)) hSw)).at (q := q + 1) (x := a) (y := d) (by simp); go_simp; try with_reducible rfl)
      try simp only [Act.put, List.getElem_toArray, List.getElem_cons_succ, List.getElem_cons_zero, List.setIfInBounds_toArray, List.set_cons_zero, List.set_cons_succ]
      refine Script.call (i := 20) (v := ?_) rfl (by kernel_rfl) (by kernel_rfl) (fun _ _ _ h => h) (by kernel_rfl) ?_ ?_
      rotate_left
      · (intro wS hSw K hK; obtain ⟨a0, a1, -, -⟩ := (Bn.out.later (After.trans (After.drew (After.refl _)) hSw)).at (q := q) (x := a) (y := b) (by simp); obtain ⟨c0, c1, -, -⟩ := (Bn.out.later (After.trans (After.drew (After.refl _)) hSw)).at (q := q + 1) (x := a) (y := d) (by simp); go_simp; go_at_call 18; refine (KG.out _).mono ?_; rintro e wc ⟨rfl, hbc⟩; exact hK.out _ hbc)
      try simp only [Act.put, List.getElem_toArray, List.getElem_cons_succ, List.getElem_cons_zero, List.setIfInBounds_toArray, List.set_cons_zero, List.set_cons_succ]
      refine Script.load (i := 21) (v := ?_) rfl (by kernel_rfl) (by kernel_rfl) (fun _ _ _ h => h) (by kernel_rfl) ?_ ?_
      rotate_left
      · (intro wS hSw; obtain ⟨a0, a1, -, -⟩ := (Bn.out.later (After.trans (After.drew (After.refl _)) hSw)).at (q := q) (x := a) (y := b) (by simp); obtain ⟨c0, c1, -, -⟩ := (Bn.out.later (After.trans (After.drew (After.refl _)) hSw)).at (q := q + 1) (x := a) (y := d) (by simp); go_simp; try with_reducible rfl)
      try simp only [Act.put, List.getElem_toArray, List.getElem_cons_succ, List.getElem_cons_zero, List.setIfInBounds_toArray, List.set_cons_zero, List.set_cons_succ]
      refine Script.load (i := 22) (v := ?_) rfl (by kernel_rfl) (by kernel_rfl) (fun _ _ _ h => h) (by kernel_rfl) ?_ ?_
      rotate_left
      · (intro wS hSw; obtain ⟨a0, a1, -, -⟩ := (Bn.out.later (After.trans (After.drew (After.refl _)) hSw)).at (q := q) (x := a) (y := b) (by simp); obtain ⟨c0, c1, -, -⟩ := (Bn.out.later (After.trans (After.drew (After.refl _)) hSw)).at (q := q + 1) (x := a) (y := d) (by simp); go_simp; try with_reducible rfl)
      try simp only [Act.put, List.getElem_toArray, List.getElem_cons_succ, List.getElem_cons_zero, List.setIfInBounds_toArray, List.set_cons_zero, List.set_cons_succ]
      refine Script.load (i := 23) (v := ?_) rfl (by kernel_rfl) (by kernel_rfl) (fun _ _ _ h => h) (by kernel_rfl) ?_ ?_
      rotate_left
      · (intro wS hSw; obtain ⟨a0, a1, -, -⟩ := (Bn.out.later (After.trans (After.drew (After.refl _)) hSw)).at (q := q) (x := a) (y := b) (by simp); obtain ⟨c0, c1, -, -⟩ := (Bn.out.later (After.trans (After.drew (After.refl _)) hSw)).at (q := q + 1) (x := a) (y := d) (by simp); go_simp; try with_reducible rfl)
      try simp only [Act.put, List.getElem_toArray, List.getElem_cons_succ, List.getElem_cons_zero, List.setIfInBounds_toArray, List.set_cons_zero, List.set_cons_succ]
      refine Script.load (i := 24) (v := ?_) rfl (by kernel_rfl) (by kernel_rfl) (fun _ _ _ h => h) (by kernel_rfl) ?_ ?_
      rotate_left
      · (intro wS hSw; obtain ⟨a0, a1, -, -⟩ := (Bn.out.later (After.trans (After.drew (After.refl _)) hSw)).at (q := q) (x := a) (y := b) (by simp); obtain ⟨c0, c1, -, -⟩ := (Bn.out.later (After.trans (After.drew (After.refl _)) hSw)).at (q := q + 1) (x := a) (y := d) (by simp); go_simp; try with_reducible rfl)
      try simp only [Act.put, List.getElem_toArray, List.getElem_cons_succ, List.getElem_cons_zero, List.setIfInBounds_toArray, List.set_cons_zero, List.set_cons_succ]
      refine Script.call (i := 25) (v := ?_) rfl (by kernel_rfl) (by kernel_rfl) (fun _ _ _ h => h) (by kernel_rfl) ?_ ?_
      rotate_left
      · (intro wS hSw K hK; obtain ⟨a0, a1, -, -⟩ := (Bn.out.later (After.trans (After.drew (After.refl _)) hSw)).at (q := q) (x := a) (y := b) (by simp); obtain ⟨c0, c1, -, -⟩ := (Bn.out.later (After.trans (After.drew (After.refl _)) hSw)).at (q := q + 1) (x := a) (y := d) (by simp); go_simp; go_at_call 15; refine (K4.out _).mono ?_; rintro e wc ⟨rfl, hbc⟩; exact hK.out _ hbc)
      try simp only [Act.put, List.getElem_toArray, List.getElem_cons_succ, List.getElem_cons_zero, List.setIfInBounds_toArray, List.set_cons_zero, List.set_cons_succ]
      refine Script.load (i := 26) (v := ?_) rfl (by kernel_rfl) (by kernel_rfl) (fun _ _ _ h => h) (by kernel_rfl) ?_ ?_
      rotate_left
      · (intro wS hSw; obtain ⟨a0, a1, -, -⟩ := (Bn.out.later (After.trans (After.drew (After.refl _)) hSw)).at (q := q) (x := a) (y := b) (by simp); obtain ⟨c0, c1, -, -⟩ := (Bn.out.later (After.trans (After.drew (After.refl _)) hSw)).at (q := q + 1) (x := a) (y := d) (by simp); go_simp; try with_reducible rfl)
      try simp only [Act.put, List.getElem_toArray, List.getElem_cons_succ, List.getElem_cons_zero, List.setIfInBounds_toArray, List.set_cons_zero, List.set_cons_succ]
      refine Script.call (i := 27) (v := ?_) rfl (by kernel_rfl) (by kernel_rfl) (fun _ _ _ h => h) (by kernel_rfl) ?_ ?_
      rotate_left
      · (intro wS hSw K hK; obtain ⟨a0, a1, -, -⟩ := (Bn.out.later (After.trans (After.drew (After.refl _)) hSw)).at (q := q) (x := a) (y := b) (by simp); obtain ⟨c0, c1, -, -⟩ := (Bn.out.later (After.trans (After.drew (After.refl _)) hSw)).at (q := q + 1) (x := a) (y := d) (by simp); go_simp; go_at_call 15; refine (K6.out _).mono ?_; rintro e wc ⟨rfl, hbc⟩; exact hK.out _ hbc)
      try simp only [Act.put, List.getElem_toArray, List.getElem_cons_succ, List.getElem_cons_zero, List.setIfInBounds_toArray, List.set_cons_zero, List.set_cons_succ]
      refine Script.call (i := 28) (v := ?_) rfl (by kernel_rfl) (by kernel_rfl) (fun _ _ _ h => h) (by kernel_rfl) ?_ ?_
      rotate_left
      · (intro wS hSw K hK; obtain ⟨a0, a1, -, -⟩ := (Bn.out.later (After.trans (After.drew (After.refl _)) hSw)).at (q := q) (x := a) (y := b) (by simp); obtain ⟨c0, c1, -, -⟩ := (Bn.out.later (After.trans (After.drew (After.refl _)) hSw)).at (q := q + 1) (x := a) (y := d) (by simp); go_simp; go_at_call 17; refine (K9.out _).mono ?_; rintro e wc ⟨rfl, hbc⟩; exact hK.out _ hbc)
      try simp only [Act.put, List.getElem_toArray, List.getElem_cons_succ, List.getElem_cons_zero, List.setIfInBounds_toArray, List.set_cons_zero, List.set_cons_succ]
      refine Script.load (i := 29) (v := ?_) rfl (by kernel_rfl) (by kernel_rfl) (fun _ _ _ h => h) (by kernel_rfl) ?_ ?_
      rotate_left
      · (intro wS hSw; obtain ⟨a0, a1, -, -⟩ := (Bn.out.later (After.trans (After.drew (After.refl _)) hSw)).at (q := q) (x := a) (y := b) (by simp); obtain ⟨c0, c1, -, -⟩ := (Bn.out.later (After.trans (After.drew (After.refl _)) hSw)).at (q := q + 1) (x := a) (y := d) (by simp); go_simp; try with_reducible rfl)
      try simp only [Act.put, List.getElem_toArray, List.getElem_cons_succ, List.getElem_cons_zero, List.setIfInBounds_toArray, List.set_cons_zero, List.set_cons_succ]
      refine Script.load (i := 30) (v := ?_) rfl (by kernel_rfl) (by kernel_rfl) (fun _ _ _ h => h) (by kernel_rfl) ?_ ?_
      rotate_left
      · (intro wS hSw; obtain ⟨a0, a1, -, -⟩ := (Bn.out.later (After.trans (After.drew (After.refl _)) hSw)).at (q := q) (x := a) (y := b) (by simp); obtain ⟨c0, c1, -, -⟩ := (Bn.out.later (After.trans (After.drew (After.refl _)) hSw)).at (q := q + 1) (x := a) (y := d) (by simp); go_simp; try with_reducible rfl)
      try simp only [Act.put, List.getElem_toArray, List.getElem_cons_succ, List.getElem_cons_zero, List.setIfInBounds_toArray, List.set_cons_zero, List.set_cons_succ]
      refine Script.load (i := 31) (v := ?_) rfl (by kernel_rfl) (by kernel_rfl) (fun _ _ _ h => h) (by kernel_rfl) ?_ ?_
      rotate_left
      · (intro wS hSw; obtain ⟨a0, a1, -, -⟩ := (Bn.out.later (After.trans (After.drew (After.refl _)) hSw)).at (q := q) (x := a) (y := b) (by simp); obtain ⟨c0, c1, -, -⟩ := (Bn.out.later (After.trans (After.drew (After.refl _)) hSw)).at (q := q + 1) (x := a) (y := d) (by simp); go_simp; try with_reducible rfl)
      try simp only [Act.put, List.getElem_toArray, List.getElem_cons_succ, List.getElem_cons_zero, List.setIfInBounds_toArray, List.set_cons_zero, List.set_cons_succ]
      refine Script.done (by kernel_rfl) ?_
      intro wD hD hG
      have HF := Lib.hid (Bn.out.2.trans (Below.mono (After.trans (After.drew (After.refl _)) hD) Bn.out.2.size))
      clear hD hG
      go_wp2_with fail
      go_ret
      exact ⟨rfl, HF.out⟩
  · have hk : (-k == 0) = false := by
      have : ¬ -k = 0 := fun h => h1 (e4.1 h).1
      simpa using this
    clear e4
    go_wp2_with fail
    refine wp_region_script (by kernel_rfl) (by kernel_rfl) ?_
    refine Script.load (i := 0) (v := ?_) rfl (by kernel_rfl) (by kernel_rfl) (fun _ _ _ h => h) (by kernel_rfl) ?_ ?_
    rotate_left
    · (intro wS hSw; obtain ⟨a0, a1, -, -⟩ := (Bn.out.later (After.trans (After.drew (After.refl _)) hSw)).at (q := q) (x := a) (y := b) (by simp); obtain ⟨c0, c1, -, -⟩ := (Bn.out.later (After.trans (After.drew (After.refl _)) hSw)).at (q := q + 1) (x := c) (y := d) (by simp); go_simp; try with_reducible rfl)
    try simp only [Act.put, List.getElem_toArray, List.getElem_cons_succ, List.getElem_cons_zero, List.setIfInBounds_toArray, List.set_cons_zero, List.set_cons_succ]
    refine Script.load (i := 1) (v := ?_) rfl (by kernel_rfl) (by kernel_rfl) (fun _ _ _ h => h) (by kernel_rfl) ?_ ?_
    rotate_left
    · (intro wS hSw; obtain ⟨a0, a1, -, -⟩ := (Bn.out.later (After.trans (After.drew (After.refl _)) hSw)).at (q := q) (x := a) (y := b) (by simp); obtain ⟨c0, c1, -, -⟩ := (Bn.out.later (After.trans (After.drew (After.refl _)) hSw)).at (q := q + 1) (x := c) (y := d) (by simp); go_simp; try with_reducible rfl)
    try simp only [Act.put, List.getElem_toArray, List.getElem_cons_succ, List.getElem_cons_zero, List.setIfInBounds_toArray, List.set_cons_zero, List.set_cons_succ]
    refine Script.call (i := 2) (v := ?_) rfl (by kernel_rfl) (by kernel_rfl) (fun _ _ _ h => h) (by kernel_rfl) ?_ ?_
    rotate_left
    · (intro wS hSw K hK; obtain ⟨a0, a1, -, -⟩ := (Bn.out.later (After.trans (After.drew (After.refl _)) hSw)).at (q := q) (x := a) (y := b) (by simp); obtain ⟨c0, c1, -, -⟩ := (Bn.out.later (After.trans (After.drew (After.refl _)) hSw)).at (q := q + 1) (x := c) (y := d) (by simp); go_simp; go_at_call 17; refine (KA1.out _).mono ?_; rintro e wc ⟨rfl, hbc⟩; exact hK.out _ hbc)
    try simp only [Act.put, List.getElem_toArray, List.getElem_cons_succ, List.getElem_cons_zero, List.setIfInBounds_toArray, List.set_cons_zero, List.set_cons_succ]
    refine Script.load (i := 3) (v := ?_) rfl (by kernel_rfl) (by kernel_rfl) (fun _ _ _ h => h) (by kernel_rfl) ?_ ?_
    rotate_left
    · (intro wS hSw; obtain ⟨a0, a1, -, -⟩ := (Bn.out.later (After.trans (After.drew (After.refl _)) hSw)).at (q := q) (x := a) (y := b) (by simp); obtain ⟨c0, c1, -, -⟩ := (Bn.out.later (After.trans (After.drew (After.refl _)) hSw)).at (q := q + 1) (x := c) (y := d) (by simp); go_simp; try with_reducible rfl)
    try simp only [Act.put, List.getElem_toArray, List.getElem_cons_succ, List.getElem_cons_zero, List.setIfInBounds_toArray, List.set_cons_zero, List.set_cons_succ]
    refine Script.load (i := 4) (v := ?_) rfl (by kernel_rfl) (by kernel_rfl) (fun _ _ _ h => h) (by kernel_rfl) ?_ ?_
    rotate_left
    · (intro wS hSw; obtain ⟨a0, a1, -, -⟩ := (Bn.out.later (After.trans (After.drew (After.refl _)) hSw)).at (q := q) (x := a) (y := b) (by simp); obtain ⟨c0, c1, -, -⟩ := (Bn.out.later (After.trans (After.drew (After.refl _)) hSw)).at (q := q + 1) (x := c) (y := d) (by simp); go_simp; try with_reducible rfl)
    try simp only [Act.put, List.getElem_toArray, List.getElem_cons_succ, List.getElem_cons_zero, List.setIfInBounds_toArray, List.set_cons_zero, List.set_cons_succ]
    refine Script.call (i := 5) (v := ?_) rfl (by kernel_rfl) (by kernel_rfl) (fun _ _ _ h => h) (by kernel_rfl) ?_ ?_
    rotate_left
    · (intro wS hSw K hK; obtain ⟨a0, a1, -, -⟩ := (Bn.out.later (After.trans (After.drew (After.refl _)) hSw)).at (q := q) (x := a) (y := b) (by simp); obtain ⟨c0, c1, -, -⟩ := (Bn.out.later (After.trans (After.drew (After.refl _)) hSw)).at (q := q + 1) (x := c) (y := d) (by simp); go_simp; go_at_call 17; refine (KA2.out _).mono ?_; rintro e wc ⟨rfl, hbc⟩; exact hK.out _ hbc)
    try simp only [Act.put, List.getElem_toArray, List.getElem_cons_succ, List.getElem_cons_zero, List.setIfInBounds_toArray, List.set_cons_zero, List.set_cons_succ]
    refine Script.load (i := 6) (v := ?_) rfl (by kernel_rfl) (by kernel_rfl) (fun _ _ _ h => h) (by kernel_rfl) ?_ ?_
    rotate_left
    · (intro wS hSw; obtain ⟨a0, a1, -, -⟩ := (Bn.out.later (After.trans (After.drew (After.refl _)) hSw)).at (q := q) (x := a) (y := b) (by simp); obtain ⟨c0, c1, -, -⟩ := (Bn.out.later (After.trans (After.drew (After.refl _)) hSw)).at (q := q + 1) (x := c) (y := d) (by simp); go_simp; try with_reducible rfl)
    try simp only [Act.put, List.getElem_toArray, List.getElem_cons_succ, List.getElem_cons_zero, List.setIfInBounds_toArray, List.set_cons_zero, List.set_cons_succ]
    refine Script.load (i := 7) (v := ?_) rfl (by kernel_rfl) (by kernel_rfl) (fun _ _ _ h => h) (by kernel_rfl) ?_ ?_
    rotate_left
    · (intro wS hSw; obtain ⟨a0, a1, -, -⟩ := (Bn.out.later (After.trans (After.drew (After.refl _)) hSw)).at (q := q) (x := a) (y := b) (by simp); obtain ⟨c0, c1, -, -⟩ := (Bn.out.later (After.trans (After.drew (After.refl _)) hSw)).at (q := q + 1) (x := c) (y := d) (by simp); go_simp; try with_reducible rfl)
    try simp only [Act.put, List.getElem_toArray, List.getElem_cons_succ, List.getElem_cons_zero, List.setIfInBounds_toArray, List.set_cons_zero, List.set_cons_succ]
    refine Script.load (i := 8) (v := ?_) rfl (by kernel_rfl) (by kernel_rfl) (fun _ _ _ h => h) (by kernel_rfl) ?_ ?_
    rotate_left
    · (intro wS hSw; obtain ⟨a0, a1, -, -⟩ := (Bn.out.later (After.trans (After.drew (After.refl _)) hSw)).at (q := q) (x := a) (y := b) (by simp); obtain ⟨c0, c1, -, -⟩ := (Bn.out.later (After.trans (After.drew (After.refl _)) hSw)).at (q := q + 1) (x := c) (y := d) (by simp); go_simp; try with_reducible rfl)
    try simp only [Act.put, List.getElem_toArray, List.getElem_cons_succ, List.getElem_cons_zero, List.setIfInBounds_toArray, List.set_cons_zero, List.set_cons_succ]
    refine Script.load (i := 9) (v := ?_) rfl (by kernel_rfl) (by kernel_rfl) (fun _ _ _ h => h) (by kernel_rfl) ?_ ?_
    rotate_left
    · (intro wS hSw; obtain ⟨a0, a1, -, -⟩ := (Bn.out.later (After.trans (After.drew (After.refl _)) hSw)).at (q := q) (x := a) (y := b) (by simp); obtain ⟨c0, c1, -, -⟩ := (Bn.out.later (After.trans (After.drew (After.refl _)) hSw)).at (q := q + 1) (x := c) (y := d) (by simp); go_simp; try with_reducible rfl)
    try simp only [Act.put, List.getElem_toArray, List.getElem_cons_succ, List.getElem_cons_zero, List.setIfInBounds_toArray, List.set_cons_zero, List.set_cons_succ]
    refine Script.load (i := 10) (v := ?_) rfl (by kernel_rfl) (by kernel_rfl) (fun _ _ _ h => h) (by kernel_rfl) ?_ ?_
    rotate_left
    · (intro wS hSw; obtain ⟨a0, a1, -, -⟩ := (Bn.out.later (After.trans (After.drew (After.refl _)) hSw)).at (q := q) (x := a) (y := b) (by simp); obtain ⟨c0, c1, -, -⟩ := (Bn.out.later (After.trans (After.drew (After.refl _)) hSw)).at (q := q + 1) (x := c) (y := d) (by simp); go_simp; try with_reducible rfl)
    try simp only [Act.put, List.getElem_toArray, List.getElem_cons_succ, List.getElem_cons_zero, List.setIfInBounds_toArray, List.set_cons_zero, List.set_cons_succ]
    refine Script.call (i := 11) (v := ?_) rfl (by kernel_rfl) (by kernel_rfl) (fun _ _ _ h => h) (by kernel_rfl) ?_ ?_
    rotate_left
    · (intro wS hSw K hK; obtain ⟨a0, a1, -, -⟩ := (Bn.out.later (After.trans (After.drew (After.refl _)) hSw)).at (q := q) (x := a) (y := b) (by simp); obtain ⟨c0, c1, -, -⟩ := (Bn.out.later (After.trans (After.drew (After.refl _)) hSw)).at (q := q + 1) (x := c) (y := d) (by simp); go_simp; go_at_call 17; refine (KA1.out _).mono ?_; rintro e wc ⟨rfl, hbc⟩; exact hK.out _ hbc)
    try simp only [Act.put, List.getElem_toArray, List.getElem_cons_succ, List.getElem_cons_zero, List.setIfInBounds_toArray, List.set_cons_zero, List.set_cons_succ]
    refine Script.load (i := 12) (v := ?_) rfl (by kernel_rfl) (by kernel_rfl) (fun _ _ _ h => h) (by kernel_rfl) ?_ ?_
    rotate_left
    · (intro wS hSw; obtain ⟨a0, a1, -, -⟩ := (Bn.out.later (After.trans (After.drew (After.refl _)) hSw)).at (q := q) (x := a) (y := b) (by simp); obtain ⟨c0, c1, -, -⟩ := (Bn.out.later (After.trans (After.drew (After.refl _)) hSw)).at (q := q + 1) (x := c) (y := d) (by simp); go_simp; try with_reducible rfl)
    try simp only [Act.put, List.getElem_toArray, List.getElem_cons_succ, List.getElem_cons_zero, List.setIfInBounds_toArray, List.set_cons_zero, List.set_cons_succ]
    refine Script.load (i := 13) (v := ?_) rfl (by kernel_rfl) (by kernel_rfl) (fun _ _ _ h => h) (by kernel_rfl) ?_ ?_
    rotate_left
    · (intro wS hSw; obtain ⟨a0, a1, -, -⟩ := (Bn.out.later (After.trans (After.drew (After.refl _)) hSw)).at (q := q) (x := a) (y := b) (by simp); obtain ⟨c0, c1, -, -⟩ := (Bn.out.later (After.trans (After.drew (After.refl _)) hSw)).at (q := q + 1) (x := c) (y := d) (by simp); go_simp; try with_reducible rfl)
    try simp only [Act.put, List.getElem_toArray, List.getElem_cons_succ, List.getElem_cons_zero, List.setIfInBounds_toArray, List.set_cons_zero, List.set_cons_succ]
    refine Script.load (i := 14) (v := ?_) rfl (by kernel_rfl) (by kernel_rfl) (fun _ _ _ h => h) (by kernel_rfl) ?_ ?_
    rotate_left
    · (intro wS hSw; obtain ⟨a0, a1, -, -⟩ := (Bn.out.later (After.trans (After.drew (After.refl _)) hSw)).at (q := q) (x := a) (y := b) (by simp); obtain ⟨c0, c1, -, -⟩ := (Bn.out.later (After.trans (After.drew (After.refl _)) hSw)).at (q := q + 1) (x := c) (y := d) (by simp); go_simp; try with_reducible rfl)
    try simp only [Act.put, List.getElem_toArray, List.getElem_cons_succ, List.getElem_cons_zero, List.setIfInBounds_toArray, List.set_cons_zero, List.set_cons_succ]
    refine Script.load (i := 15) (v := ?_) rfl (by kernel_rfl) (by kernel_rfl) (fun _ _ _ h => h) (by kernel_rfl) ?_ ?_
    rotate_left
    · (intro wS hSw; obtain ⟨a0, a1, -, -⟩ := (Bn.out.later (After.trans (After.drew (After.refl _)) hSw)).at (q := q) (x := a) (y := b) (by simp); obtain ⟨c0, c1, -, -⟩ := (Bn.out.later (After.trans (After.drew (After.refl _)) hSw)).at (q := q + 1) (x := c) (y := d) (by simp); go_simp; try with_reducible rfl)
    try simp only [Act.put, List.getElem_toArray, List.getElem_cons_succ, List.getElem_cons_zero, List.setIfInBounds_toArray, List.set_cons_zero, List.set_cons_succ]
    refine Script.load (i := 16) (v := ?_) rfl (by kernel_rfl) (by kernel_rfl) (fun _ _ _ h => h) (by kernel_rfl) ?_ ?_
    rotate_left
    · (intro wS hSw; obtain ⟨a0, a1, -, -⟩ := (Bn.out.later (After.trans (After.drew (After.refl _)) hSw)).at (q := q) (x := a) (y := b) (by simp); obtain ⟨c0, c1, -, -⟩ := (Bn.out.later (After.trans (After.drew (After.refl _)) hSw)).at (q := q + 1) (x := c) (y := d) (by simp); go_simp; try with_reducible rfl)
    try simp only [Act.put, List.getElem_toArray, List.getElem_cons_succ, List.getElem_cons_zero, List.setIfInBounds_toArray, List.set_cons_zero, List.set_cons_succ]
    refine Script.load (i := 17) (v := ?_) rfl (by kernel_rfl) (by kernel_rfl) (fun _ _ _ h => h) (by kernel_rfl) ?_ ?_
    rotate_left
    · (intro wS hSw; obtain ⟨a0, a1, -, -⟩ := (Bn.out.later (After.trans (After.drew (After.refl _)) hSw)).at (q := q) (x := a) (y := b) (by simp); obtain ⟨c0, c1, -, -⟩ := (Bn.out.later (After.trans (After.drew (After.refl _)) hSw)).at (q := q + 1) (x := c) (y := d) (by simp); go_simp; try with_reducible rfl)
    try simp only [Act.put, List.getElem_toArray, List.getElem_cons_succ, List.getElem_cons_zero, List.setIfInBounds_toArray, List.set_cons_zero, List.set_cons_succ]
    refine Script.load (i := 18) (v := ?_) rfl (by kernel_rfl) (by kernel_rfl) (fun _ _ _ h => h) (by kernel_rfl) ?_ ?_
    rotate_left
    · (intro wS hSw; obtain ⟨a0, a1, -, -⟩ := (Bn.out.later (After.trans (After.drew (After.refl _)) hSw)).at (q := q) (x := a) (y := b) (by simp); obtain ⟨c0, c1, -, -⟩ := (Bn.out.later (After.trans (After.drew (After.refl _)) hSw)).at (q := q + 1) (x := c) (y := d) (by simp); go_simp; try with_reducible rfl)
    try simp only [Act.put, List.getElem_toArray, List.getElem_cons_succ, List.getElem_cons_zero, List.setIfInBounds_toArray, List.set_cons_zero, List.set_cons_succ]
    refine Script.load (i := 19) (v := ?_) rfl (by kernel_rfl) (by kernel_rfl) (fun _ _ _ h => h) (by kernel_rfl) ?_ ?_
    rotate_left
    · (intro wS hSw; obtain ⟨a0, a1, -, -⟩ := (Bn.out.later (After.trans (After.drew (After.refl _)) hSw)).at (q := q) (x := a) (y := b) (by simp); obtain ⟨c0, c1, -, -⟩ := (Bn.out.later (After.trans (After.drew (After.refl _)) hSw)).at (q := q + 1) (x := c) (y := d) (by simp); go_simp; try with_reducible rfl)
    try simp only [Act.put, List.getElem_toArray, List.getElem_cons_succ, List.getElem_cons_zero, List.setIfInBounds_toArray, List.set_cons_zero, List.set_cons_succ]
    refine Script.call (i := 20) (v := ?_) rfl (by kernel_rfl) (by kernel_rfl) (fun _ _ _ h => h) (by kernel_rfl) ?_ ?_
    rotate_left
    · (intro wS hSw K hK; obtain ⟨a0, a1, -, -⟩ := (Bn.out.later (After.trans (After.drew (After.refl _)) hSw)).at (q := q) (x := a) (y := b) (by simp); obtain ⟨c0, c1, -, -⟩ := (Bn.out.later (After.trans (After.drew (After.refl _)) hSw)).at (q := q + 1) (x := c) (y := d) (by simp); go_simp; go_at_call 18; refine (KG.out _).mono ?_; rintro e wc ⟨rfl, hbc⟩; exact hK.out _ hbc)
    try simp only [Act.put, List.getElem_toArray, List.getElem_cons_succ, List.getElem_cons_zero, List.setIfInBounds_toArray, List.set_cons_zero, List.set_cons_succ]
    refine Script.load (i := 21) (v := ?_) rfl (by kernel_rfl) (by kernel_rfl) (fun _ _ _ h => h) (by kernel_rfl) ?_ ?_
    rotate_left
    · (intro wS hSw; obtain ⟨a0, a1, -, -⟩ := (Bn.out.later (After.trans (After.drew (After.refl _)) hSw)).at (q := q) (x := a) (y := b) (by simp); obtain ⟨c0, c1, -, -⟩ := (Bn.out.later (After.trans (After.drew (After.refl _)) hSw)).at (q := q + 1) (x := c) (y := d) (by simp); go_simp; try with_reducible rfl)
    try simp only [Act.put, List.getElem_toArray, List.getElem_cons_succ, List.getElem_cons_zero, List.setIfInBounds_toArray, List.set_cons_zero, List.set_cons_succ]
    refine Script.load (i := 22) (v := ?_) rfl (by kernel_rfl) (by kernel_rfl) (fun _ _ _ h => h) (by kernel_rfl) ?_ ?_
    rotate_left
    · (intro wS hSw; obtain ⟨a0, a1, -, -⟩ := (Bn.out.later (After.trans (After.drew (After.refl _)) hSw)).at (q := q) (x := a) (y := b) (by simp); obtain ⟨c0, c1, -, -⟩ := (Bn.out.later (After.trans (After.drew (After.refl _)) hSw)).at (q := q + 1) (x := c) (y := d) (by simp); go_simp; try with_reducible rfl)
    try simp only [Act.put, List.getElem_toArray, List.getElem_cons_succ, List.getElem_cons_zero, List.setIfInBounds_toArray, List.set_cons_zero, List.set_cons_succ]
    refine Script.load (i := 23) (v := ?_) rfl (by kernel_rfl) (by kernel_rfl) (fun _ _ _ h => h) (by kernel_rfl) ?_ ?_
    rotate_left
    · (intro wS hSw; obtain ⟨a0, a1, -, -⟩ := (Bn.out.later (After.trans (After.drew (After.refl _)) hSw)).at (q := q) (x := a) (y := b) (by simp); obtain ⟨c0, c1, -, -⟩ := (Bn.out.later (After.trans (After.drew (After.refl _)) hSw)).at (q := q + 1) (x := c) (y := d) (by simp); go_simp; try with_reducible rfl)
    try simp only [Act.put, List.getElem_toArray, List.getElem_cons_succ, List.getElem_cons_zero, List.setIfInBounds_toArray, List.set_cons_zero, List.set_cons_succ]
    refine Script.load (i := 24) (v := ?_) rfl (by kernel_rfl) (by kernel_rfl) (fun _ _ _ h => h) (by kernel_rfl) ?_ ?_
    rotate_left
    · (intro wS hSw; obtain ⟨a0, a1, -, -⟩ := (Bn.out.later (After.trans (After.drew (After.refl _)) hSw)).at (q := q) (x := a) (y := b) (by simp); obtain ⟨c0, c1, -, -⟩ := (Bn.out.later (After.trans (After.drew (After.refl _)) hSw)).at (q := q + 1) (x := c) (y := d) (by simp); go_simp; try with_reducible rfl)
    try simp only [Act.put, List.getElem_toArray, List.getElem_cons_succ, List.getElem_cons_zero, List.setIfInBounds_toArray, List.set_cons_zero, List.set_cons_succ]
    refine Script.call (i := 25) (v := ?_) rfl (by kernel_rfl) (by kernel_rfl) (fun _ _ _ h => h) (by kernel_rfl) ?_ ?_
    rotate_left
    · (intro wS hSw K hK; obtain ⟨a0, a1, -, -⟩ := (Bn.out.later (After.trans (After.drew (After.refl _)) hSw)).at (q := q) (x := a) (y := b) (by simp); obtain ⟨c0, c1, -, -⟩ := (Bn.out.later (After.trans (After.drew (After.refl _)) hSw)).at (q := q + 1) (x := c) (y := d) (by simp); go_simp; go_at_call 15; refine (K4.out _).mono ?_; rintro e wc ⟨rfl, hbc⟩; exact hK.out _ hbc)
    try simp only [Act.put, List.getElem_toArray, List.getElem_cons_succ, List.getElem_cons_zero, List.setIfInBounds_toArray, List.set_cons_zero, List.set_cons_succ]
    refine Script.load (i := 26) (v := ?_) rfl (by kernel_rfl) (by kernel_rfl) (fun _ _ _ h => h) (by kernel_rfl) ?_ ?_
    rotate_left
    · (intro wS hSw; obtain ⟨a0, a1, -, -⟩ := (Bn.out.later (After.trans (After.drew (After.refl _)) hSw)).at (q := q) (x := a) (y := b) (by simp); obtain ⟨c0, c1, -, -⟩ := (Bn.out.later (After.trans (After.drew (After.refl _)) hSw)).at (q := q + 1) (x := c) (y := d) (by simp); go_simp; try with_reducible rfl)
    try simp only [Act.put, List.getElem_toArray, List.getElem_cons_succ, List.getElem_cons_zero, List.setIfInBounds_toArray, List.set_cons_zero, List.set_cons_succ]
    refine Script.call (i := 27) (v := ?_) rfl (by kernel_rfl) (by kernel_rfl) (fun _ _ _ h => h) (by kernel_rfl) ?_ ?_
    rotate_left
    · (intro wS hSw K hK; obtain ⟨a0, a1, -, -⟩ := (Bn.out.later (After.trans (After.drew (After.refl _)) hSw)).at (q := q) (x := a) (y := b) (by simp); obtain ⟨c0, c1, -, -⟩ := (Bn.out.later (After.trans (After.drew (After.refl _)) hSw)).at (q := q + 1) (x := c) (y := d) (by simp); go_simp; go_at_call 15; refine (K6.out _).mono ?_; rintro e wc ⟨rfl, hbc⟩; exact hK.out _ hbc)
    try simp only [Act.put, List.getElem_toArray, List.getElem_cons_succ, List.getElem_cons_zero, List.setIfInBounds_toArray, List.set_cons_zero, List.set_cons_succ]
    refine Script.call (i := 28) (v := ?_) rfl (by kernel_rfl) (by kernel_rfl) (fun _ _ _ h => h) (by kernel_rfl) ?_ ?_
    rotate_left
    · (intro wS hSw K hK; obtain ⟨a0, a1, -, -⟩ := (Bn.out.later (After.trans (After.drew (After.refl _)) hSw)).at (q := q) (x := a) (y := b) (by simp); obtain ⟨c0, c1, -, -⟩ := (Bn.out.later (After.trans (After.drew (After.refl _)) hSw)).at (q := q + 1) (x := c) (y := d) (by simp); go_simp; go_at_call 17; refine (K9.out _).mono ?_; rintro e wc ⟨rfl, hbc⟩; exact hK.out _ hbc)
    try simp only [Act.put, List.getElem_toArray, List.getElem_cons_succ, List.getElem_cons_zero, List.setIfInBounds_toArray, List.set_cons_zero, List.set_cons_succ]
    refine Script.load (i := 29) (v := ?_) rfl (by kernel_rfl) (by kernel_rfl) (fun _ _ _ h => h) (by kernel_rfl) ?_ ?_
    rotate_left
    · (intro wS hSw; obtain ⟨a0, a1, -, -⟩ := (Bn.out.later (After.trans (After.drew (After.refl _)) hSw)).at (q := q) (x := a) (y := b) (by simp); obtain ⟨c0, c1, -, -⟩ := (Bn.out.later (After.trans (After.drew (After.refl _)) hSw)).at (q := q + 1) (x := c) (y := d) (by simp); go_simp; try with_reducible rfl)
    try simp only [Act.put, List.getElem_toArray, List.getElem_cons_succ, List.getElem_cons_zero, List.setIfInBounds_toArray, List.set_cons_zero, List.set_cons_succ]
    refine Script.load (i := 30) (v := ?_) rfl (by kernel_rfl) (by kernel_rfl) (fun _ _ _ h => h) (by kernel_rfl) ?_ ?_
    rotate_left
    · (intro wS hSw; obtain ⟨a0, a1, -, -⟩ := (Bn.out.later (After.trans (After.drew (After.refl _)) hSw)).at (q := q) (x := a) (y := b) (by simp); obtain ⟨c0, c1, -, -⟩ := (Bn.out.later (After.trans (After.drew (After.refl _)) hSw)).at (q := q + 1) (x := c) (y := d) (by simp); go_simp; try with_reducible rfl)
    try simp only [Act.put, List.getElem_toArray, List.getElem_cons_succ, List.getElem_cons_zero, List.setIfInBounds_toArray, List.set_cons_zero, List.set_cons_succ]
    refine Script.load (i := 31) (v := ?_) rfl (by kernel_rfl) (by kernel_rfl) (fun _ _ _ h => h) (by kernel_rfl) ?_ ?_
    rotate_left
    · (intro wS hSw; obtain ⟨a0, a1, -, -⟩ := (Bn.out.later (After.trans (After.drew (After.refl _)) hSw)).at (q := q) (x := a) (y := b) (by simp); obtain ⟨c0, c1, -, -⟩ := (Bn.out.later (After.trans (After.drew (After.refl _)) hSw)).at (q := q + 1) (x := c) (y := d) (by simp); go_simp; try with_reducible rfl)
    try simp only [Act.put, List.getElem_toArray, List.getElem_cons_succ, List.getElem_cons_zero, List.setIfInBounds_toArray, List.set_cons_zero, List.set_cons_succ]
    refine Script.done (by kernel_rfl) ?_
    intro wD hD hG
    have HF := Lib.hid (Bn.out.2.trans (Below.mono (After.trans (After.drew (After.refl _)) hD) Bn.out.2.size))
    clear hD hG
    go_wp2_with fail
    go_ret
    exact ⟨rfl, HF.out⟩
set_option maxRecDepth 100000 in
theorem walk_far {a0 : Option Addr} {len cap : Nat} (w : World) (h : 1048576 < len) :
    Calls Try.prog 3 #[.slice a0 len cap] w fun e w' => e = .returned (.bool true) ∧ Below w.heap.size w w' := by
  go_enter Try.func3, Try.ntmps3
  go_wp2_with fail
  refine (big_yes _ h).mono ?_
  rintro e w' ⟨rfl, rfl⟩
  go_wp2_with fail
  go_ret
  exact ⟨rfl, Below.refl _ _⟩
theorem walk (a0 : Option Addr) (len0 cap0 : Nat) (z0 : List Int) (w : World) (w0 : IsRow .u8 w a0 len0 cap0 z0) :
    Calls Try.prog 3 #[.slice a0 len0 cap0] w fun e w' => e = .returned (.bool true) ∧ Below w.heap.size w w' := by
  by_cases h2 : len0 ≤ 1048576
  · exact walk_in w (code_of w0 h2)
  · exact walk_far w (by omega)
set_option maxRecDepth 100000 in
theorem lifted (os : Os) (started : os.Started) (H : Type) (enc : TypeId × Value → H) :
    ReturnsInHanded {} Try.checked os 3 .any (Rows.fnGoldenSpec.pre6 enc Try.prog Try.f3 Rows.fnGoldenRow.domain false) (Rows.fnGoldenSpec.post enc Try.prog Try.f3 false true false false) := by
  refine returnsInHanded_of_change (C := Try.checked) own started (by kernel_rfl) Try.func3
    (ChangeSpec.witness6 (enc := enc) (C := Try.checked) false ⟨#[], #[.slice none 0 0], []⟩ 8 (by kernel_rfl) (by kernel_rfl) (by kernel_rfl) (by kernel_rfl)) ?_
  intro W base args ds gs before hval0 hW hcnd _
  have hval : ∀ (j : Nat) t v, Try.f3.params[j]? = some t → args[j]? = some v → Value.okWide Try.prog W .any base t v := hval0
  have hW' := hW
  obtain ⟨p, q, hA0, hV, rfl, hfz, hnd⟩ := hW
  have hA : DataW.TrodAll enc Try.prog W 0 (fun _ => true) true Try.f3.params.toList args.toList ds p := hA0
  rw [Try.params3] at hA hval
  obtain ⟨v0, vs0, d0, ds0, p0, q0, hargs, rfl, rfl, h0, r0⟩ := trodAll_cons hA
  obtain ⟨rfl, rfl, rfl⟩ := trodAll_nil r0
  obtain rfl : args = #[v0] := by cases args; simp_all
  obtain ⟨rfl, rfl⟩ := trodVars_none hV
  obtain ⟨a0, len0, cap0, rfl⟩ := okWide_slice Try.underlying22 (hval 0 22 v0 rfl rfl)
  have k0 := h0
  have lt0 : ∀ x ∈ p0, x.block < W.heap.size := by obtain ⟨m, hm⟩ := k0; exact DataW.trod_lt m _ _ _ hm
  obtain ⟨z0, w0⟩ : ∃ zs, IsRow .u8 W a0 len0 cap0 zs := by
    obtain ⟨fuel, hf⟩ := h0
    rcases open_ints Try.underlying22 Try.underlying5 (by kernel_rfl) hf with ⟨hcs, _⟩ | ⟨x, l, c, zs, hcs, _, hl, hm, hz, _, hcell, hwz⟩
    · simp [Value.cells] at hcs
      obtain ⟨rfl, rfl, rfl⟩ := hcs
      exact ⟨[], .inl ⟨rfl, rfl, rfl, rfl⟩⟩
    · simp [Value.cells] at hcs
      obtain ⟨rfl, rfl, rfl⟩ := hcs
      exact ⟨zs, .inr ⟨_, rfl, hl, hm, by simpa using hz, hcell, hwz⟩⟩
  clear hA0 hval0
  refine (walk a0 len0 cap0 z0 W w0).mono fun e W' ⟨he, bel⟩ => ?_
  subst he
  exact ⟨_, rfl, _, _, _, [], _, [], hW', trodAll_mk1 (shut_bool Try.underlying4 _), (trodAll_cons_mk (Below.trod laidOut (by kernel_rfl) (of_decide_eq_true (by kernel_rfl)) k0 bel lt0) trodAll_mk0), rfl, bel.frame _, fun h => by cases h⟩

theorem over : Rows.fnGoldenRow.holds Try.pinned (OpenSpec.ofChange Rows.fnGoldenSpec) :=
  OpenClaim.holds_of_wide 3 Try.f3 rfl rfl rfl rfl rfl rfl rfl ⟨rfl, rfl, rfl, rfl, rfl⟩ rfl rfl rfl rfl rfl (by kernel_rfl) Try.func3 (by kernel_rfl)
    (of_decide_eq_true (by kernel_rfl)) (by unfold Func.isWrapper; first | (rw [if_pos (by decide +kernel)]; kernel_rfl) | (rw [if_neg (by decide +kernel)]; exact ⟨rfl, rfl⟩))
    (fun os started H enc _ => lifted os started H enc)

theorem proved : Rows.FnGoldenSaid := over
end Go.Proofs.Ytobgcjgjfaegcaa.fnGolden
