/- The law FnLines returns true for every code: each line of a drawn board can be used in both directions, its middle lies between its ends and is no lone hole; the lines are even in number; the rectangle and the cross have as many lines as they should. -/
import Derived.Test.YtpdhdogllejdbaaRows
import Derived.WalkKit
import Derived.WalkSpells
import Derived.ProofKit
import Derived.OpenShut
import Derived.ShutString
import Derived.ChangeOld
import Derived.Below
import Derived.Lib.Hide
import Derived.Lib.SmallJoins
import Derived.ChangeArms
import Derived.Test.YtpdhdogllejdbaaDraws
import Derived.Test.YtpdhdogllejdbaaLinesAll
namespace Go.Proofs.Ytpdhdogllejdbaa.fnLines
open Go.ChangeShapes Go.WideShapes Go.ChangeAt Go.RowKit
open Go.ChangeMaps (open_string shut_string)
set_option linter.unusedVariables false
set_option linter.unusedSimpArgs false
theorem own : ownKnob Try.prog.godebug = none := by kernel_rfl
theorem laidOut : laidOutB Try.prog = true := by kernel_rfl
/-- What the walk is told of a slice of integers that came in. -/
def IsRow (k : IntKind) (w : World) (a : Option Addr) (len cap : Nat) (zs : List Int) : Prop :=
  (a = none ∧ len = 0 ∧ cap = 0 ∧ zs = []) ∨
  ∃ x, a = some x ∧ len ≤ cap ∧ cap ≤ maxLen ∧ zs.length = cap ∧ (∀ i, i < zs.length → w.cell? (x.add i) = some (.int k (zs.getD i 0))) ∧ ∀ n ∈ zs, (Lit.int k n).wf = true
theorem byteAt0 {a : Option Addr} {len cap : Nat} (w : World) (hcode : CodeAt w a len) : Calls Try.prog 16 #[.slice a len cap, .int .i64 0] w (AtPost w) := byteAt 0 (by omega) w hcode
theorem byteAt1 {a : Option Addr} {len cap : Nat} (w : World) (hcode : CodeAt w a len) : Calls Try.prog 16 #[.slice a len cap, .int .i64 1] w (AtPost w) := byteAt 1 (by omega) w hcode
theorem cross_ok : Ok ((7 : Nat) : Int) ((7 : Nat) : Int) 49 (crossN 49) := ⟨by decide, by decide, by decide, by decide +kernel, by decide +kernel, by decide, by decide, by decide, by decide⟩
theorem cross_lines : (lnsOf 7 7 (crossN 49)).length = 76 := by
  rw [show (7 : Int) = ((7 : Nat) : Int) from rfl, lnsOf_ok cross_ok]
  decide +kernel
theorem rect_num {U V : Int} {M : Nat} (u1 : 1 ≤ U) (u7 : U ≤ 7) (v1 : 1 ≤ V) (v7 : V ≤ 7) (hM : U * V = (M : Int)) : (lnsOf U V (2 ^ M - 1)).length = 2 * ((U.toNat - 2) * V.toNat + U.toNat * (V.toNat - 2)) := by
  obtain ⟨u, rfl⟩ := Int.eq_ofNat_of_zero_le (show 0 ≤ U by omega)
  obtain ⟨v, rfl⟩ := Int.eq_ofNat_of_zero_le (show 0 ≤ V by omega)
  have e : M = u * v := by have : ((u * v : Nat) : Int) = M := by rw [Int.natCast_mul]; exact hM
                           omega
  subst e
  have h1 : u * v ≤ 7 * 7 := Nat.mul_le_mul (by omega) (by omega)
  have h2 : 1 * 1 ≤ u * v := Nat.mul_le_mul (by omega) (by omega)
  rw [show ((2 : Int) ^ (u * v) - 1) = ((2 ^ (u * v) - 1 : Nat) : Int) by rw [Int.natCast_sub (Nat.two_pow_pos _), ← pow_cast]; rfl]
  rw [lnsOf_ok (Ok.rect hM (by omega) (by omega) u1 u7 v1 v7), rect_lines u v (by omega) (by omega) (by omega) (by omega)]
  simp
theorem rect_parts {U V : Int} {L : Nat} (u1 : 1 ≤ U) (u7 : U ≤ 7) (v1 : 1 ≤ V) (v7 : V ≤ 7) (hL : L = 2 * ((U.toNat - 2) * V.toNat + U.toNat * (V.toNat - 2))) :
    ∃ P1 P2 : Int, 0 ≤ P1 ∧ P1 ≤ 35 ∧ 0 ≤ P2 ∧ P2 ≤ 35 ∧ (2 < U → (U - 2) * V = P1) ∧ (U ≤ 2 → P1 = 0) ∧ (2 < V → U * (V - 2) = P2) ∧ (V ≤ 2 → P2 = 0) ∧ (L : Int) = 2 * (P1 + P2) := by
  obtain ⟨u, rfl⟩ := Int.eq_ofNat_of_zero_le (show 0 ≤ U by omega)
  obtain ⟨v, rfl⟩ := Int.eq_ofNat_of_zero_le (show 0 ≤ V by omega)
  simp only [Int.toNat_natCast] at hL
  have h1 : (u - 2) * v ≤ 5 * 7 := Nat.mul_le_mul (by omega) (by omega)
  have h2 : u * (v - 2) ≤ 7 * 5 := Nat.mul_le_mul (by omega) (by omega)
  refine ⟨((u - 2) * v : Nat), (u * (v - 2) : Nat), by omega, by omega, by omega, by omega, ?_, ?_, ?_, ?_, by omega⟩
  · intro h; rw [Int.natCast_mul, Int.natCast_sub (by omega)]; rfl
  · intro h; rw [show u - 2 = 0 by omega, Nat.zero_mul]; rfl
  · intro h; rw [Int.natCast_mul, Int.natCast_sub (by omega)]; rfl
  · intro h; rw [show v - 2 = 0 by omega, Nat.mul_zero]; rfl
theorem lone_no {W H Z : Int} {l : Ln} (h : l ∈ lnsOf W H Z) : loneB W H Z l.2.1 = false := by
  have hm : l ∈ thrL (lnsOf W H Z) l.2.1 := List.mem_filter.2 ⟨h, by simp [onB]⟩
  have hp := List.length_pos_of_mem hm
  unfold loneB
  have : ((thrL (lnsOf W H Z) l.2.1).length == 0) = false := by simp; intro e; rw [e] at hm; cases hm
  rw [this, Bool.and_false]
theorem isLine_bd {a b z : Nat} {l : Ln} (ha : 0 < a) (h : isLine a b z l) : 0 ≤ l.1 ∧ l.1 < a * b ∧ 0 ≤ l.2.1 ∧ l.2.1 < a * b ∧ 0 ≤ l.2.2 ∧ l.2.2 < a * b := by
  obtain ⟨k, o, t, d, hd, hk, hb, h1, h2, rfl⟩ := h
  have ho := stepN_lt ha hk h1
  have ht := stepN_lt ha ho h2
  simp only
  have e : ((a : Int) * b) = ((a * b : Nat) : Int) := by simp
  rw [e]
  omega
set_option maxHeartbeats 8000000 in
set_option maxRecDepth 100000 in
theorem walk_in {a0 : Option Addr} {len cap : Nat} (w : World) (hcode : CodeAt w a0 len) :
    Calls Try.prog 3 #[.slice a0 len cap] w fun e w' => e = .returned (.bool true) ∧ Below w.heap.size w w' := by
  have HCO := Lib.hid hcode
  clear hcode
  go_enter Try.func3, Try.ntmps3
  go_wp2_with fail
  refine (big_no _ HCO.out.1).mono ?_
  rintro e w' ⟨rfl, rfl⟩
  go_wp2_with fail
  refine (drawBoard w HCO.out).mono ?_
  rintro e w1 ⟨W, H, N, z, ho, hN16, rfl, hb1⟩
  unfold bd
  obtain ⟨a, b, N', z', rfl, rfl, hz, ho'⟩ := okNat ho.ok
  obtain rfl : z = z' := by omega
  have hN := ho'.nat
  obtain ⟨hab, ha, ha7, hb, hb7, hab49⟩ := hN
  have hE := lnsOf_ok ho'
  obtain ⟨xs, hxs⟩ : ∃ xs, lnsOf a b z = xs := ⟨_, rfl⟩
  have HMEM : Hid (∀ l ∈ xs, betwL xs l.1 l.2.2 = some l ∧ betwL xs l.2.2 l.1 = some (rev l) ∧ l.1 + l.2.2 = 2 * l.2.1 ∧ loneB a b z l.2.1 = false ∧ 2 ≤ (thrL xs l.2.1).length ∧ 0 ≤ l.1 ∧ l.1 < 49 ∧ 0 ≤ l.2.1 ∧ l.2.1 < 49 ∧ 0 ≤ l.2.2 ∧ l.2.2 < 49) := fun l hl => by
    have hlone := lone_no (W := a) (H := b) (Z := z) (by rw [hxs]; exact hl)
    rw [hxs] at hE
    rw [hE] at hl ⊢
    have hi := (mem_lines hab).1 hl
    have hbd := isLine_bd ha hi
    have e : ((a : Int) * b) = ((a * b : Nat) : Int) := by simp
    rw [e] at hbd
    exact ⟨betw_self hab ha hl, betw_rev hab ha hl, (hi.mid ha).1, hlone, thr_two hab ha hl, by omega, by omega, by omega, by omega, by omega, by omega⟩
  have HEV : Hid (xs.length % 2 = 0) := by unfold Hid; rw [← hxs, hE]; exact lines_even hab ha
  have hle := lnsOf_le a b z
  have CL := Lib.hid (fun w => implLinesA a b z w)
  have CB := Lib.hid (fun f t w => implBetween a b z f t w)
  have CT := Lib.hid (fun k w => implThrough a b z k w)
  have CO := Lib.hid (fun k w => implLone a b z k w)
  have CC := Lib.hid (fun w => implCountL a b z w)
  rw [hxs] at hle CL CB CT CC
  clear hxs hE ho ho' hab ha ha7 hb hb7 hab49 hN16 hz
  obtain ⟨n, hn⟩ : ∃ n, xs.length = n := ⟨_, rfl⟩
  have HN := Lib.hid hn
  rw [hn] at hle HEV CC
  clear hn
  go_wp2_with fail
  have hb2 : Below w.heap.size w (w1.alloc (.cells #[.int .i64 a, .int .i64 b, .int .i64 z] 25)) := hb1.alloc hb1.size _
  have B0 := Lib.hid (box_newT 25 a b z w1)
  generalize w1.alloc (.cells #[.int .i64 (a : Int), .int .i64 (b : Int), .int .i64 (z : Int)] 25) = w2 at *
  refine (CL.out _).mono ?_
  rintro e w3 ⟨v, rfl, hh, hb3⟩
  rw [HN.out] at hh
  have B3 := Lib.hid (B0.out.later hb3)
  have hbw := hb2.trans (hb3.mono hb2.size)
  have HCO3 := Lib.hid (HCO.out.below hbw)
  generalize w1.heap.size = q at *
  generalize w2.heap.size = R at *
  obtain ⟨ga, gc, rfl⟩ := lines_form hh
  have HH := Lib.hid hh
  have HBW := Lib.hid hbw
  clear hh B0 hb1 hb2 hb3 HCO hbw
  go_wp2_with fail
  refine (byteAt0 _ HCO3.out).mono ?_
  rintro e w' ⟨x, hx, rfl, rfl⟩
  have hx0 : 0 ≤ (x : Int) % 7 := by omega
  have hx7 : (x : Int) % 7 < 7 := by omega
  go_wp2_with fail
  refine (byteAt1 _ HCO3.out).mono ?_
  rintro e w' ⟨y, hy, rfl, rfl⟩
  have hy0 : 0 ≤ (y : Int) % 7 := by omega
  have hy7 : (y : Int) % 7 < 7 := by omega
  clear hx hy HCO3
  obtain ⟨U, hU⟩ : ∃ U : Int, 1 + (x : Int) % 7 = U := ⟨_, rfl⟩
  obtain ⟨V, hV⟩ : ∃ V : Int, 1 + (y : Int) % 7 = V := ⟨_, rfl⟩
  have u1 : 1 ≤ U := by omega
  have u7 : U ≤ 7 := by omega
  have v1 : 1 ≤ V := by omega
  have v7 : V ≤ 7 := by omega
  go_wp2_with fail
  clear hU hV hx0 hx7 hy0 hy7
  go_loopw [7] (fun i wr => ∃ k : Nat, k ≤ n ∧ i = .int .i64 k ∧ Hid (Below w3.heap.size w3 wr)) (fun i _ => n - (intOf i).toNat)
  case atStart => exact ⟨0, by omega, rfl, Below.refl _ _⟩
  case round =>
    obtain ⟨k, hk, rfl, hw⟩ := hrel
    by_cases hkn : k < n
    · obtain ⟨⟨f, o, t⟩, hl⟩ : ∃ l, xs[k]? = some l := ⟨_, List.getElem?_eq_getElem (by rw [HN.out]; exact hkn)⟩
      have k0 : (0 : Int) ≤ (k : Int) := by omega
      have k1 : (k : Int) < (n : Int) := by omega
      obtain ⟨g, rfl⟩ : ∃ g, ga = some ⟨g, 0, none⟩ := by
        rcases Go.Joins.ownsRow_forms HH.out with ⟨h, h0⟩ | ⟨g, cap, h⟩
        · omega
        · injection h with h1 h2 h3; exact ⟨g, h1⟩
      obtain ⟨e1, e2, emid, elone, ethr, f0, f1, o0, o1, t0, t1⟩ := HMEM.out _ (List.mem_of_getElem? hl)
      simp only at e1 e2 emid elone ethr f0 f1 o0 o1 t0 t1
      have C1 := Lib.hid (CB.out f t)
      have C2 := Lib.hid (CB.out t f)
      have C3 := Lib.hid (CO.out o)
      have C4 := Lib.hid (CT.out o)
      rw [e1] at C1
      rw [e2] at C2
      rw [elone] at C3
      unfold lineV rev at C2
      unfold lineV at C1
      have HC : Hid (∀ w', After wr w' → w'.cell? ⟨q, 0, none⟩ = some (.int .i64 a) ∧ w'.cell? ⟨q, 1, none⟩ = some (.int .i64 b) ∧ w'.cell? ⟨q, 2, none⟩ = some (.int .i64 z) ∧ w'.cell? ⟨g, k * 3, none⟩ = some (.int .i64 f) ∧ w'.cell? ⟨g, k * 3 + 1, none⟩ = some (.int .i64 o) ∧ w'.cell? ⟨g, k * 3 + 2, none⟩ = some (.int .i64 t)) := fun w' hA => by
        have hx := B3.out.later (hw.out.trans (Below.mono hA hw.out.size))
        obtain ⟨a1, a2, a3⟩ := line_cells (own_below HH.out (hw.out.trans (Below.mono hA hw.out.size))) HN.out hl
        exact ⟨hx.1, hx.2.1, hx.2.2.1, a1, a2, a3⟩
      obtain ⟨n2, hn2⟩ : ∃ n2, (thrL xs o).length = n2 := ⟨_, rfl⟩
      have HN2 := Lib.hid hn2
      rw [hn2] at ethr
      clear hl e1 e2 elone hn2 CB CO CT CL
      obtain ⟨s, hs⟩ : ∃ s, f + t = s := ⟨_, rfl⟩
      have hs2 : 2 * o = s := by omega
      have q1 : IntKind.i64.wrap (f + t) = s := by rw [hs]; exact IntWalk.i64_in _ (by omega)
      have q2 : IntKind.i64.wrap (2 * o) = s := by rw [hs2]; exact IntWalk.i64_in _ (by omega)
      have q3 : decide ((n2 : Int) < 2) = false := by simp only [decide_eq_false_iff_not]; omega
      have q4 : decide (n2 < 2) = false := by simp only [decide_eq_false_iff_not]; omega
      clear hs hs2 emid
      go_wp2_with fail
      refine wp_region_script (by kernel_rfl) (by kernel_rfl) ?_
      refine Script.load (i := 0) (v := ?_) rfl (by kernel_rfl) (by kernel_rfl) (fun _ _ _ h => h) (by kernel_rfl) ?_ ?_
      rotate_left
      · (intro wS hSw; obtain ⟨c0, c1, c2, l0, l1, l2⟩ := HC.out _ (After.trans (After.drew (After.refl _)) hSw); go_simp; try with_reducible rfl)
      try simp only [Act.put, List.getElem_toArray, List.getElem_cons_succ, List.getElem_cons_zero, List.setIfInBounds_toArray, List.set_cons_zero, List.set_cons_succ]
      refine Script.load (i := 1) (v := ?_) rfl (by kernel_rfl) (by kernel_rfl) (fun _ _ _ h => h) (by kernel_rfl) ?_ ?_
      rotate_left
      · (intro wS hSw; obtain ⟨c0, c1, c2, l0, l1, l2⟩ := HC.out _ (After.trans (After.drew (After.refl _)) hSw); go_simp; try with_reducible rfl)
      try simp only [Act.put, List.getElem_toArray, List.getElem_cons_succ, List.getElem_cons_zero, List.setIfInBounds_toArray, List.set_cons_zero, List.set_cons_succ]
      refine Script.load (i := 2) (v := ?_) rfl (by kernel_rfl) (by kernel_rfl) (fun _ _ _ h => h) (by kernel_rfl) ?_ ?_
      rotate_left
      · (intro wS hSw; obtain ⟨c0, c1, c2, l0, l1, l2⟩ := HC.out _ (After.trans (After.drew (After.refl _)) hSw); go_simp; try with_reducible rfl)
      try simp only [Act.put, List.getElem_toArray, List.getElem_cons_succ, List.getElem_cons_zero, List.setIfInBounds_toArray, List.set_cons_zero, List.set_cons_succ]
      refine Script.load (i := 3) (v := ?_) rfl (by kernel_rfl) (by kernel_rfl) (fun _ _ _ h => h) (by kernel_rfl) ?_ ?_
      rotate_left
      · (intro wS hSw; obtain ⟨c0, c1, c2, l0, l1, l2⟩ := HC.out _ (After.trans (After.drew (After.refl _)) hSw); go_simp; try with_reducible rfl)
      try simp only [Act.put, List.getElem_toArray, List.getElem_cons_succ, List.getElem_cons_zero, List.setIfInBounds_toArray, List.set_cons_zero, List.set_cons_succ]
      refine Script.load (i := 4) (v := ?_) rfl (by kernel_rfl) (by kernel_rfl) (fun _ _ _ h => h) (by kernel_rfl) ?_ ?_
      rotate_left
      · (intro wS hSw; obtain ⟨c0, c1, c2, l0, l1, l2⟩ := HC.out _ (After.trans (After.drew (After.refl _)) hSw); go_simp; try with_reducible rfl)
      try simp only [Act.put, List.getElem_toArray, List.getElem_cons_succ, List.getElem_cons_zero, List.setIfInBounds_toArray, List.set_cons_zero, List.set_cons_succ]
      refine Script.load (i := 5) (v := ?_) rfl (by kernel_rfl) (by kernel_rfl) (fun _ _ _ h => h) (by kernel_rfl) ?_ ?_
      rotate_left
      · (intro wS hSw; obtain ⟨c0, c1, c2, l0, l1, l2⟩ := HC.out _ (After.trans (After.drew (After.refl _)) hSw); go_simp; try with_reducible rfl)
      try simp only [Act.put, List.getElem_toArray, List.getElem_cons_succ, List.getElem_cons_zero, List.setIfInBounds_toArray, List.set_cons_zero, List.set_cons_succ]
      refine Script.load (i := 6) (v := ?_) rfl (by kernel_rfl) (by kernel_rfl) (fun _ _ _ h => h) (by kernel_rfl) ?_ ?_
      rotate_left
      · (intro wS hSw; obtain ⟨c0, c1, c2, l0, l1, l2⟩ := HC.out _ (After.trans (After.drew (After.refl _)) hSw); go_simp; try with_reducible rfl)
      try simp only [Act.put, List.getElem_toArray, List.getElem_cons_succ, List.getElem_cons_zero, List.setIfInBounds_toArray, List.set_cons_zero, List.set_cons_succ]
      refine Script.load (i := 7) (v := ?_) rfl (by kernel_rfl) (by kernel_rfl) (fun _ _ _ h => h) (by kernel_rfl) ?_ ?_
      rotate_left
      · (intro wS hSw; obtain ⟨c0, c1, c2, l0, l1, l2⟩ := HC.out _ (After.trans (After.drew (After.refl _)) hSw); go_simp; try with_reducible rfl)
      try simp only [Act.put, List.getElem_toArray, List.getElem_cons_succ, List.getElem_cons_zero, List.setIfInBounds_toArray, List.set_cons_zero, List.set_cons_succ]
      refine Script.load (i := 8) (v := ?_) rfl (by kernel_rfl) (by kernel_rfl) (fun _ _ _ h => h) (by kernel_rfl) ?_ ?_
      rotate_left
      · (intro wS hSw; obtain ⟨c0, c1, c2, l0, l1, l2⟩ := HC.out _ (After.trans (After.drew (After.refl _)) hSw); go_simp; try with_reducible rfl)
      try simp only [Act.put, List.getElem_toArray, List.getElem_cons_succ, List.getElem_cons_zero, List.setIfInBounds_toArray, List.set_cons_zero, List.set_cons_succ]
      refine Script.load (i := 9) (v := ?_) rfl (by kernel_rfl) (by kernel_rfl) (fun _ _ _ h => h) (by kernel_rfl) ?_ ?_
      rotate_left
      · (intro wS hSw; obtain ⟨c0, c1, c2, l0, l1, l2⟩ := HC.out _ (After.trans (After.drew (After.refl _)) hSw); go_simp; try with_reducible rfl)
      try simp only [Act.put, List.getElem_toArray, List.getElem_cons_succ, List.getElem_cons_zero, List.setIfInBounds_toArray, List.set_cons_zero, List.set_cons_succ]
      refine Script.load (i := 10) (v := ?_) rfl (by kernel_rfl) (by kernel_rfl) (fun _ _ _ h => h) (by kernel_rfl) ?_ ?_
      rotate_left
      · (intro wS hSw; obtain ⟨c0, c1, c2, l0, l1, l2⟩ := HC.out _ (After.trans (After.drew (After.refl _)) hSw); go_simp; try with_reducible rfl)
      try simp only [Act.put, List.getElem_toArray, List.getElem_cons_succ, List.getElem_cons_zero, List.setIfInBounds_toArray, List.set_cons_zero, List.set_cons_succ]
      refine Script.call (i := 11) (v := ?_) rfl (by kernel_rfl) (by kernel_rfl) (fun _ _ _ h => h) (by kernel_rfl) ?_ ?_
      rotate_left
      · (intro wS hSw K hK; obtain ⟨c0, c1, c2, l0, l1, l2⟩ := HC.out _ (After.trans (After.drew (After.refl _)) hSw); go_simp; go_at_call 17; refine (C1.out _).mono ?_; rintro e wc ⟨rfl, hbc⟩; exact hK.out _ hbc)
      try simp only [Act.put, List.getElem_toArray, List.getElem_cons_succ, List.getElem_cons_zero, List.setIfInBounds_toArray, List.set_cons_zero, List.set_cons_succ]
      refine Script.load (i := 12) (v := ?_) rfl (by kernel_rfl) (by kernel_rfl) (fun _ _ _ h => h) (by kernel_rfl) ?_ ?_
      rotate_left
      · (intro wS hSw; obtain ⟨c0, c1, c2, l0, l1, l2⟩ := HC.out _ (After.trans (After.drew (After.refl _)) hSw); go_simp; try with_reducible rfl)
      try simp only [Act.put, List.getElem_toArray, List.getElem_cons_succ, List.getElem_cons_zero, List.setIfInBounds_toArray, List.set_cons_zero, List.set_cons_succ]
      refine Script.load (i := 13) (v := ?_) rfl (by kernel_rfl) (by kernel_rfl) (fun _ _ _ h => h) (by kernel_rfl) ?_ ?_
      rotate_left
      · (intro wS hSw; obtain ⟨c0, c1, c2, l0, l1, l2⟩ := HC.out _ (After.trans (After.drew (After.refl _)) hSw); go_simp; try with_reducible rfl)
      try simp only [Act.put, List.getElem_toArray, List.getElem_cons_succ, List.getElem_cons_zero, List.setIfInBounds_toArray, List.set_cons_zero, List.set_cons_succ]
      refine Script.load (i := 14) (v := ?_) rfl (by kernel_rfl) (by kernel_rfl) (fun _ _ _ h => h) (by kernel_rfl) ?_ ?_
      rotate_left
      · (intro wS hSw; obtain ⟨c0, c1, c2, l0, l1, l2⟩ := HC.out _ (After.trans (After.drew (After.refl _)) hSw); go_simp; try with_reducible rfl)
      try simp only [Act.put, List.getElem_toArray, List.getElem_cons_succ, List.getElem_cons_zero, List.setIfInBounds_toArray, List.set_cons_zero, List.set_cons_succ]
      refine Script.oneG (i := 15) ((fun v w' => PtrRow wr.heap.size #[.int .i64 0, .int .i64 0, .int .i64 0] 31 v w')) rfl (by kernel_rfl) (by kernel_rfl) (closed_after _) (fun _ => by first | exact closed_ptr | exact closed_row _ _) ?_
      intro wO15 hO15 hG15 K hK
      go_simp
      refine hK.out _ _ (After.trans hO15 ((Below.refl _ _).alloc (Nat.le_refl _) _)) ⟨_, rfl, hO15.size, heap_alloc_new _ _⟩ ?_
      clear hK K
      try simp only [Act.put, List.getElem_toArray, List.getElem_cons_succ, List.getElem_cons_zero, List.setIfInBounds_toArray, List.set_cons_zero, List.set_cons_succ]
      refine Script.oneG (i := 16) ((fun _ w' => w'.heap[wO15.heap.size]? = some (.cells #[.int .i64 f, .int .i64 o, .int .i64 t] 31 (0, 0)))) rfl (by kernel_rfl) (by kernel_rfl) (closed_after _) (fun _ => by first | exact closed_ptr | exact closed_row _ _) ?_
      intro wO16 hO16 hG16 K hK
      obtain ⟨p, hp, hB, hrow⟩ := hG16; obtain rfl : wO15.heap.size = p := (by simpa using hp); obtain ⟨z0, z1, z2, f0, f1, f2⟩ := row_facts hrow
      go_simp
      refine hK.out undef _ (set_below (set_below (set_below hO16 hB) hB) hB) (row_set3 hrow) ?_
      clear hK K
      try simp only [Act.put, List.getElem_toArray, List.getElem_cons_succ, List.getElem_cons_zero, List.setIfInBounds_toArray, List.set_cons_zero, List.set_cons_succ]
      clear z0 z1 z2 f0 f1 f2 hrow
      refine Script.load (i := 17) (v := ?_) rfl (by kernel_rfl) (by kernel_rfl) (fun _ _ _ h => h) (by kernel_rfl) ?_ ?_
      rotate_left
      · (intro wS hSw; obtain ⟨c0, c1, c2, l0, l1, l2⟩ := HC.out _ (After.trans (After.drew (After.refl _)) hSw); go_simp; try with_reducible rfl)
      try simp only [Act.put, List.getElem_toArray, List.getElem_cons_succ, List.getElem_cons_zero, List.setIfInBounds_toArray, List.set_cons_zero, List.set_cons_succ]
      refine Script.done (by kernel_rfl) ?_
      intro wD hD hG
      have HA1 : Hid (After wr wD) := After.trans (After.drew (After.refl _)) hD
      have HX1 := Lib.hid hG
      generalize wO15.heap.size = p1 at *
      clear hD hG hO15 hO16 hB hp
      generalize wD = wa at *
      go_wp2_with fail
      refine wp_region_script (by kernel_rfl) (by kernel_rfl) ?_
      refine Script.load (i := 0) (v := ?_) rfl (by kernel_rfl) (by kernel_rfl) (fun _ _ _ h => h) (by kernel_rfl) ?_ ?_
      rotate_left
      · (intro wS hSw; obtain ⟨c0, c1, c2, l0, l1, l2⟩ := HC.out _ (After.trans HA1.out (After.trans (After.drew (After.refl _)) hSw)); go_simp; try with_reducible rfl)
      try simp only [Act.put, List.getElem_toArray, List.getElem_cons_succ, List.getElem_cons_zero, List.setIfInBounds_toArray, List.set_cons_zero, List.set_cons_succ]
      refine Script.load (i := 1) (v := ?_) rfl (by kernel_rfl) (by kernel_rfl) (fun _ _ _ h => h) (by kernel_rfl) ?_ ?_
      rotate_left
      · (intro wS hSw; obtain ⟨c0, c1, c2, l0, l1, l2⟩ := HC.out _ (After.trans HA1.out (After.trans (After.drew (After.refl _)) hSw)); go_simp; try with_reducible rfl)
      try simp only [Act.put, List.getElem_toArray, List.getElem_cons_succ, List.getElem_cons_zero, List.setIfInBounds_toArray, List.set_cons_zero, List.set_cons_succ]
      refine Script.load (i := 2) (v := ?_) rfl (by kernel_rfl) (by kernel_rfl) (fun _ _ _ h => h) (by kernel_rfl) ?_ ?_
      rotate_left
      · (intro wS hSw; obtain ⟨c0, c1, c2, l0, l1, l2⟩ := HC.out _ (After.trans HA1.out (After.trans (After.drew (After.refl _)) hSw)); go_simp; try with_reducible rfl)
      try simp only [Act.put, List.getElem_toArray, List.getElem_cons_succ, List.getElem_cons_zero, List.setIfInBounds_toArray, List.set_cons_zero, List.set_cons_succ]
      refine Script.load (i := 3) (v := ?_) rfl (by kernel_rfl) (by kernel_rfl) (fun _ _ _ h => h) (by kernel_rfl) ?_ ?_
      rotate_left
      · (intro wS hSw; obtain ⟨c0, c1, c2, l0, l1, l2⟩ := HC.out _ (After.trans HA1.out (After.trans (After.drew (After.refl _)) hSw)); go_simp; try with_reducible rfl)
      try simp only [Act.put, List.getElem_toArray, List.getElem_cons_succ, List.getElem_cons_zero, List.setIfInBounds_toArray, List.set_cons_zero, List.set_cons_succ]
      refine Script.load (i := 4) (v := ?_) rfl (by kernel_rfl) (by kernel_rfl) (fun _ _ _ h => h) (by kernel_rfl) ?_ ?_
      rotate_left
      · (intro wS hSw; obtain ⟨c0, c1, c2, l0, l1, l2⟩ := HC.out _ (After.trans HA1.out (After.trans (After.drew (After.refl _)) hSw)); go_simp; try with_reducible rfl)
      try simp only [Act.put, List.getElem_toArray, List.getElem_cons_succ, List.getElem_cons_zero, List.setIfInBounds_toArray, List.set_cons_zero, List.set_cons_succ]
      refine Script.load (i := 5) (v := ?_) rfl (by kernel_rfl) (by kernel_rfl) (fun _ _ _ h => h) (by kernel_rfl) ?_ ?_
      rotate_left
      · (intro wS hSw; obtain ⟨c0, c1, c2, l0, l1, l2⟩ := HC.out _ (After.trans HA1.out (After.trans (After.drew (After.refl _)) hSw)); go_simp; try with_reducible rfl)
      try simp only [Act.put, List.getElem_toArray, List.getElem_cons_succ, List.getElem_cons_zero, List.setIfInBounds_toArray, List.set_cons_zero, List.set_cons_succ]
      refine Script.load (i := 6) (v := ?_) rfl (by kernel_rfl) (by kernel_rfl) (fun _ _ _ h => h) (by kernel_rfl) ?_ ?_
      rotate_left
      · (intro wS hSw; obtain ⟨c0, c1, c2, l0, l1, l2⟩ := HC.out _ (After.trans HA1.out (After.trans (After.drew (After.refl _)) hSw)); go_simp; try with_reducible rfl)
      try simp only [Act.put, List.getElem_toArray, List.getElem_cons_succ, List.getElem_cons_zero, List.setIfInBounds_toArray, List.set_cons_zero, List.set_cons_succ]
      refine Script.load (i := 7) (v := ?_) rfl (by kernel_rfl) (by kernel_rfl) (fun _ _ _ h => h) (by kernel_rfl) ?_ ?_
      rotate_left
      · (intro wS hSw; obtain ⟨c0, c1, c2, l0, l1, l2⟩ := HC.out _ (After.trans HA1.out (After.trans (After.drew (After.refl _)) hSw)); go_simp; try with_reducible rfl)
      try simp only [Act.put, List.getElem_toArray, List.getElem_cons_succ, List.getElem_cons_zero, List.setIfInBounds_toArray, List.set_cons_zero, List.set_cons_succ]
      refine Script.load (i := 8) (v := ?_) rfl (by kernel_rfl) (by kernel_rfl) (fun _ _ _ h => h) (by kernel_rfl) ?_ ?_
      rotate_left
      · (intro wS hSw; obtain ⟨c0, c1, c2, l0, l1, l2⟩ := HC.out _ (After.trans HA1.out (After.trans (After.drew (After.refl _)) hSw)); go_simp; try with_reducible rfl)
      try simp only [Act.put, List.getElem_toArray, List.getElem_cons_succ, List.getElem_cons_zero, List.setIfInBounds_toArray, List.set_cons_zero, List.set_cons_succ]
      refine Script.load (i := 9) (v := ?_) rfl (by kernel_rfl) (by kernel_rfl) (fun _ _ _ h => h) (by kernel_rfl) ?_ ?_
      rotate_left
      · (intro wS hSw; obtain ⟨c0, c1, c2, l0, l1, l2⟩ := HC.out _ (After.trans HA1.out (After.trans (After.drew (After.refl _)) hSw)); go_simp; try with_reducible rfl)
      try simp only [Act.put, List.getElem_toArray, List.getElem_cons_succ, List.getElem_cons_zero, List.setIfInBounds_toArray, List.set_cons_zero, List.set_cons_succ]
      refine Script.load (i := 10) (v := ?_) rfl (by kernel_rfl) (by kernel_rfl) (fun _ _ _ h => h) (by kernel_rfl) ?_ ?_
      rotate_left
      · (intro wS hSw; obtain ⟨c0, c1, c2, l0, l1, l2⟩ := HC.out _ (After.trans HA1.out (After.trans (After.drew (After.refl _)) hSw)); go_simp; try with_reducible rfl)
      try simp only [Act.put, List.getElem_toArray, List.getElem_cons_succ, List.getElem_cons_zero, List.setIfInBounds_toArray, List.set_cons_zero, List.set_cons_succ]
      refine Script.call (i := 11) (v := ?_) rfl (by kernel_rfl) (by kernel_rfl) (fun _ _ _ h => h) (by kernel_rfl) ?_ ?_
      rotate_left
      · (intro wS hSw K hK; obtain ⟨c0, c1, c2, l0, l1, l2⟩ := HC.out _ (After.trans HA1.out (After.trans (After.drew (After.refl _)) hSw)); go_simp; go_at_call 17; refine (C2.out _).mono ?_; rintro e wc ⟨rfl, hbc⟩; exact hK.out _ hbc)
      try simp only [Act.put, List.getElem_toArray, List.getElem_cons_succ, List.getElem_cons_zero, List.setIfInBounds_toArray, List.set_cons_zero, List.set_cons_succ]
      refine Script.load (i := 12) (v := ?_) rfl (by kernel_rfl) (by kernel_rfl) (fun _ _ _ h => h) (by kernel_rfl) ?_ ?_
      rotate_left
      · (intro wS hSw; obtain ⟨c0, c1, c2, l0, l1, l2⟩ := HC.out _ (After.trans HA1.out (After.trans (After.drew (After.refl _)) hSw)); go_simp; try with_reducible rfl)
      try simp only [Act.put, List.getElem_toArray, List.getElem_cons_succ, List.getElem_cons_zero, List.setIfInBounds_toArray, List.set_cons_zero, List.set_cons_succ]
      refine Script.load (i := 13) (v := ?_) rfl (by kernel_rfl) (by kernel_rfl) (fun _ _ _ h => h) (by kernel_rfl) ?_ ?_
      rotate_left
      · (intro wS hSw; obtain ⟨c0, c1, c2, l0, l1, l2⟩ := HC.out _ (After.trans HA1.out (After.trans (After.drew (After.refl _)) hSw)); go_simp; try with_reducible rfl)
      try simp only [Act.put, List.getElem_toArray, List.getElem_cons_succ, List.getElem_cons_zero, List.setIfInBounds_toArray, List.set_cons_zero, List.set_cons_succ]
      refine Script.load (i := 14) (v := ?_) rfl (by kernel_rfl) (by kernel_rfl) (fun _ _ _ h => h) (by kernel_rfl) ?_ ?_
      rotate_left
      · (intro wS hSw; obtain ⟨c0, c1, c2, l0, l1, l2⟩ := HC.out _ (After.trans HA1.out (After.trans (After.drew (After.refl _)) hSw)); go_simp; try with_reducible rfl)
      try simp only [Act.put, List.getElem_toArray, List.getElem_cons_succ, List.getElem_cons_zero, List.setIfInBounds_toArray, List.set_cons_zero, List.set_cons_succ]
      refine Script.oneG (i := 15) ((fun v w' => PtrRow wa.heap.size #[.int .i64 0, .int .i64 0, .int .i64 0] 31 v w')) rfl (by kernel_rfl) (by kernel_rfl) (closed_after _) (fun _ => by first | exact closed_ptr | exact closed_row _ _) ?_
      intro wO15 hO15 hG15 K hK
      go_simp
      refine hK.out _ _ (After.trans hO15 ((Below.refl _ _).alloc (Nat.le_refl _) _)) ⟨_, rfl, hO15.size, heap_alloc_new _ _⟩ ?_
      clear hK K
      try simp only [Act.put, List.getElem_toArray, List.getElem_cons_succ, List.getElem_cons_zero, List.setIfInBounds_toArray, List.set_cons_zero, List.set_cons_succ]
      refine Script.oneG (i := 16) ((fun _ w' => w'.heap[wO15.heap.size]? = some (.cells #[.int .i64 t, .int .i64 o, .int .i64 f] 31 (0, 0)))) rfl (by kernel_rfl) (by kernel_rfl) (closed_after _) (fun _ => by first | exact closed_ptr | exact closed_row _ _) ?_
      intro wO16 hO16 hG16 K hK
      obtain ⟨p, hp, hB, hrow⟩ := hG16; obtain rfl : wO15.heap.size = p := (by simpa using hp); obtain ⟨z0, z1, z2, f0, f1, f2⟩ := row_facts hrow
      go_simp
      refine hK.out undef _ (set_below (set_below (set_below hO16 hB) hB) hB) (row_set3 hrow) ?_
      clear hK K
      try simp only [Act.put, List.getElem_toArray, List.getElem_cons_succ, List.getElem_cons_zero, List.setIfInBounds_toArray, List.set_cons_zero, List.set_cons_succ]
      clear z0 z1 z2 f0 f1 f2 hrow
      refine Script.load (i := 17) (v := ?_) rfl (by kernel_rfl) (by kernel_rfl) (fun _ _ _ h => h) (by kernel_rfl) ?_ ?_
      rotate_left
      · (intro wS hSw; obtain ⟨c0, c1, c2, l0, l1, l2⟩ := HC.out _ (After.trans HA1.out (After.trans (After.drew (After.refl _)) hSw)); go_simp; try with_reducible rfl)
      try simp only [Act.put, List.getElem_toArray, List.getElem_cons_succ, List.getElem_cons_zero, List.setIfInBounds_toArray, List.set_cons_zero, List.set_cons_succ]
      refine Script.done (by kernel_rfl) ?_
      intro wD hD hG
      have HA2 : Hid (After wr wD) := HA1.out.trans (After.trans (After.drew (After.refl _)) hD)
      have HX := Lib.hid (closed_row _ _ _ _ HX1.out (After.trans (After.drew (After.refl _)) hD))
      have HY := Lib.hid hG
      generalize wO15.heap.size = p2 at *
      clear hD hG hO15 hO16 hB hp HA1 HX1
      generalize wD = wb at *
      go_wp2_with fail
      refine wp_region_script (by kernel_rfl) (by kernel_rfl) ?_
      refine Script.load (i := 0) (v := ?_) rfl (by kernel_rfl) (by kernel_rfl) (fun _ _ _ h => h) (by kernel_rfl) ?_ ?_
      rotate_left
      · (intro wS hSw; obtain ⟨c0, c1, c2, l0, l1, l2⟩ := HC.out _ (After.trans HA2.out (After.trans (After.drew (After.refl _)) hSw)); obtain ⟨x0, x1, x2, -, -, -⟩ := row_facts (closed_row _ _ _ _ HX.out (After.trans (After.drew (After.refl _)) hSw)); obtain ⟨y0, y1, y2, -, -, -⟩ := row_facts (closed_row _ _ _ _ HY.out (After.trans (After.drew (After.refl _)) hSw)); go_simp; try with_reducible rfl)
      try simp only [Act.put, List.getElem_toArray, List.getElem_cons_succ, List.getElem_cons_zero, List.setIfInBounds_toArray, List.set_cons_zero, List.set_cons_succ]
      refine Script.load (i := 1) (v := ?_) rfl (by kernel_rfl) (by kernel_rfl) (fun _ _ _ h => h) (by kernel_rfl) ?_ ?_
      rotate_left
      · (intro wS hSw; obtain ⟨c0, c1, c2, l0, l1, l2⟩ := HC.out _ (After.trans HA2.out (After.trans (After.drew (After.refl _)) hSw)); obtain ⟨x0, x1, x2, -, -, -⟩ := row_facts (closed_row _ _ _ _ HX.out (After.trans (After.drew (After.refl _)) hSw)); obtain ⟨y0, y1, y2, -, -, -⟩ := row_facts (closed_row _ _ _ _ HY.out (After.trans (After.drew (After.refl _)) hSw)); go_simp; try with_reducible rfl)
      try simp only [Act.put, List.getElem_toArray, List.getElem_cons_succ, List.getElem_cons_zero, List.setIfInBounds_toArray, List.set_cons_zero, List.set_cons_succ]
      refine Script.load (i := 2) (v := ?_) rfl (by kernel_rfl) (by kernel_rfl) (fun _ _ _ h => h) (by kernel_rfl) ?_ ?_
      rotate_left
      · (intro wS hSw; obtain ⟨c0, c1, c2, l0, l1, l2⟩ := HC.out _ (After.trans HA2.out (After.trans (After.drew (After.refl _)) hSw)); obtain ⟨x0, x1, x2, -, -, -⟩ := row_facts (closed_row _ _ _ _ HX.out (After.trans (After.drew (After.refl _)) hSw)); obtain ⟨y0, y1, y2, -, -, -⟩ := row_facts (closed_row _ _ _ _ HY.out (After.trans (After.drew (After.refl _)) hSw)); go_simp; try with_reducible rfl)
      try simp only [Act.put, List.getElem_toArray, List.getElem_cons_succ, List.getElem_cons_zero, List.setIfInBounds_toArray, List.set_cons_zero, List.set_cons_succ]
      refine Script.load (i := 3) (v := ?_) rfl (by kernel_rfl) (by kernel_rfl) (fun _ _ _ h => h) (by kernel_rfl) ?_ ?_
      rotate_left
      · (intro wS hSw; obtain ⟨c0, c1, c2, l0, l1, l2⟩ := HC.out _ (After.trans HA2.out (After.trans (After.drew (After.refl _)) hSw)); obtain ⟨x0, x1, x2, -, -, -⟩ := row_facts (closed_row _ _ _ _ HX.out (After.trans (After.drew (After.refl _)) hSw)); obtain ⟨y0, y1, y2, -, -, -⟩ := row_facts (closed_row _ _ _ _ HY.out (After.trans (After.drew (After.refl _)) hSw)); go_simp; try with_reducible rfl)
      try simp only [Act.put, List.getElem_toArray, List.getElem_cons_succ, List.getElem_cons_zero, List.setIfInBounds_toArray, List.set_cons_zero, List.set_cons_succ]
      refine Script.load (i := 4) (v := ?_) rfl (by kernel_rfl) (by kernel_rfl) (fun _ _ _ h => h) (by kernel_rfl) ?_ ?_
      rotate_left
      · (intro wS hSw; obtain ⟨c0, c1, c2, l0, l1, l2⟩ := HC.out _ (After.trans HA2.out (After.trans (After.drew (After.refl _)) hSw)); obtain ⟨x0, x1, x2, -, -, -⟩ := row_facts (closed_row _ _ _ _ HX.out (After.trans (After.drew (After.refl _)) hSw)); obtain ⟨y0, y1, y2, -, -, -⟩ := row_facts (closed_row _ _ _ _ HY.out (After.trans (After.drew (After.refl _)) hSw)); go_simp; try with_reducible rfl)
      try simp only [Act.put, List.getElem_toArray, List.getElem_cons_succ, List.getElem_cons_zero, List.setIfInBounds_toArray, List.set_cons_zero, List.set_cons_succ]
      refine Script.load (i := 5) (v := ?_) rfl (by kernel_rfl) (by kernel_rfl) (fun _ _ _ h => h) (by kernel_rfl) ?_ ?_
      rotate_left
      · (intro wS hSw; obtain ⟨c0, c1, c2, l0, l1, l2⟩ := HC.out _ (After.trans HA2.out (After.trans (After.drew (After.refl _)) hSw)); obtain ⟨x0, x1, x2, -, -, -⟩ := row_facts (closed_row _ _ _ _ HX.out (After.trans (After.drew (After.refl _)) hSw)); obtain ⟨y0, y1, y2, -, -, -⟩ := row_facts (closed_row _ _ _ _ HY.out (After.trans (After.drew (After.refl _)) hSw)); go_simp; try with_reducible rfl)
      try simp only [Act.put, List.getElem_toArray, List.getElem_cons_succ, List.getElem_cons_zero, List.setIfInBounds_toArray, List.set_cons_zero, List.set_cons_succ]
      refine Script.load (i := 6) (v := ?_) rfl (by kernel_rfl) (by kernel_rfl) (fun _ _ _ h => h) (by kernel_rfl) ?_ ?_
      rotate_left
      · (intro wS hSw; obtain ⟨c0, c1, c2, l0, l1, l2⟩ := HC.out _ (After.trans HA2.out (After.trans (After.drew (After.refl _)) hSw)); obtain ⟨x0, x1, x2, -, -, -⟩ := row_facts (closed_row _ _ _ _ HX.out (After.trans (After.drew (After.refl _)) hSw)); obtain ⟨y0, y1, y2, -, -, -⟩ := row_facts (closed_row _ _ _ _ HY.out (After.trans (After.drew (After.refl _)) hSw)); go_simp; try with_reducible rfl)
      try simp only [Act.put, List.getElem_toArray, List.getElem_cons_succ, List.getElem_cons_zero, List.setIfInBounds_toArray, List.set_cons_zero, List.set_cons_succ]
      refine Script.load (i := 7) (v := ?_) rfl (by kernel_rfl) (by kernel_rfl) (fun _ _ _ h => h) (by kernel_rfl) ?_ ?_
      rotate_left
      · (intro wS hSw; obtain ⟨c0, c1, c2, l0, l1, l2⟩ := HC.out _ (After.trans HA2.out (After.trans (After.drew (After.refl _)) hSw)); obtain ⟨x0, x1, x2, -, -, -⟩ := row_facts (closed_row _ _ _ _ HX.out (After.trans (After.drew (After.refl _)) hSw)); obtain ⟨y0, y1, y2, -, -, -⟩ := row_facts (closed_row _ _ _ _ HY.out (After.trans (After.drew (After.refl _)) hSw)); go_simp; try with_reducible rfl)
      try simp only [Act.put, List.getElem_toArray, List.getElem_cons_succ, List.getElem_cons_zero, List.setIfInBounds_toArray, List.set_cons_zero, List.set_cons_succ]
      refine Script.load (i := 8) (v := ?_) rfl (by kernel_rfl) (by kernel_rfl) (fun _ _ _ h => h) (by kernel_rfl) ?_ ?_
      rotate_left
      · (intro wS hSw; obtain ⟨c0, c1, c2, l0, l1, l2⟩ := HC.out _ (After.trans HA2.out (After.trans (After.drew (After.refl _)) hSw)); obtain ⟨x0, x1, x2, -, -, -⟩ := row_facts (closed_row _ _ _ _ HX.out (After.trans (After.drew (After.refl _)) hSw)); obtain ⟨y0, y1, y2, -, -, -⟩ := row_facts (closed_row _ _ _ _ HY.out (After.trans (After.drew (After.refl _)) hSw)); go_simp; try with_reducible rfl)
      try simp only [Act.put, List.getElem_toArray, List.getElem_cons_succ, List.getElem_cons_zero, List.setIfInBounds_toArray, List.set_cons_zero, List.set_cons_succ]
      refine Script.load (i := 9) (v := ?_) rfl (by kernel_rfl) (by kernel_rfl) (fun _ _ _ h => h) (by kernel_rfl) ?_ ?_
      rotate_left
      · (intro wS hSw; obtain ⟨c0, c1, c2, l0, l1, l2⟩ := HC.out _ (After.trans HA2.out (After.trans (After.drew (After.refl _)) hSw)); obtain ⟨x0, x1, x2, -, -, -⟩ := row_facts (closed_row _ _ _ _ HX.out (After.trans (After.drew (After.refl _)) hSw)); obtain ⟨y0, y1, y2, -, -, -⟩ := row_facts (closed_row _ _ _ _ HY.out (After.trans (After.drew (After.refl _)) hSw)); go_simp; try with_reducible rfl)
      try simp only [Act.put, List.getElem_toArray, List.getElem_cons_succ, List.getElem_cons_zero, List.setIfInBounds_toArray, List.set_cons_zero, List.set_cons_succ]
      refine Script.load (i := 10) (v := ?_) rfl (by kernel_rfl) (by kernel_rfl) (fun _ _ _ h => h) (by kernel_rfl) ?_ ?_
      rotate_left
      · (intro wS hSw; obtain ⟨c0, c1, c2, l0, l1, l2⟩ := HC.out _ (After.trans HA2.out (After.trans (After.drew (After.refl _)) hSw)); obtain ⟨x0, x1, x2, -, -, -⟩ := row_facts (closed_row _ _ _ _ HX.out (After.trans (After.drew (After.refl _)) hSw)); obtain ⟨y0, y1, y2, -, -, -⟩ := row_facts (closed_row _ _ _ _ HY.out (After.trans (After.drew (After.refl _)) hSw)); go_simp; try with_reducible rfl)
      try simp only [Act.put, List.getElem_toArray, List.getElem_cons_succ, List.getElem_cons_zero, List.setIfInBounds_toArray, List.set_cons_zero, List.set_cons_succ]
      refine Script.load (i := 11) (v := ?_) rfl (by kernel_rfl) (by kernel_rfl) (fun _ _ _ h => h) (by kernel_rfl) ?_ ?_
      rotate_left
      · (intro wS hSw; obtain ⟨c0, c1, c2, l0, l1, l2⟩ := HC.out _ (After.trans HA2.out (After.trans (After.drew (After.refl _)) hSw)); obtain ⟨x0, x1, x2, -, -, -⟩ := row_facts (closed_row _ _ _ _ HX.out (After.trans (After.drew (After.refl _)) hSw)); obtain ⟨y0, y1, y2, -, -, -⟩ := row_facts (closed_row _ _ _ _ HY.out (After.trans (After.drew (After.refl _)) hSw)); go_simp; try with_reducible rfl)
      try simp only [Act.put, List.getElem_toArray, List.getElem_cons_succ, List.getElem_cons_zero, List.setIfInBounds_toArray, List.set_cons_zero, List.set_cons_succ]
      refine Script.load (i := 12) (v := ?_) rfl (by kernel_rfl) (by kernel_rfl) (fun _ _ _ h => h) (by kernel_rfl) ?_ ?_
      rotate_left
      · (intro wS hSw; obtain ⟨c0, c1, c2, l0, l1, l2⟩ := HC.out _ (After.trans HA2.out (After.trans (After.drew (After.refl _)) hSw)); obtain ⟨x0, x1, x2, -, -, -⟩ := row_facts (closed_row _ _ _ _ HX.out (After.trans (After.drew (After.refl _)) hSw)); obtain ⟨y0, y1, y2, -, -, -⟩ := row_facts (closed_row _ _ _ _ HY.out (After.trans (After.drew (After.refl _)) hSw)); go_simp; try with_reducible rfl)
      try simp only [Act.put, List.getElem_toArray, List.getElem_cons_succ, List.getElem_cons_zero, List.setIfInBounds_toArray, List.set_cons_zero, List.set_cons_succ]
      refine Script.load (i := 13) (v := ?_) rfl (by kernel_rfl) (by kernel_rfl) (fun _ _ _ h => h) (by kernel_rfl) ?_ ?_
      rotate_left
      · (intro wS hSw; obtain ⟨c0, c1, c2, l0, l1, l2⟩ := HC.out _ (After.trans HA2.out (After.trans (After.drew (After.refl _)) hSw)); obtain ⟨x0, x1, x2, -, -, -⟩ := row_facts (closed_row _ _ _ _ HX.out (After.trans (After.drew (After.refl _)) hSw)); obtain ⟨y0, y1, y2, -, -, -⟩ := row_facts (closed_row _ _ _ _ HY.out (After.trans (After.drew (After.refl _)) hSw)); go_simp; try with_reducible rfl)
      try simp only [Act.put, List.getElem_toArray, List.getElem_cons_succ, List.getElem_cons_zero, List.setIfInBounds_toArray, List.set_cons_zero, List.set_cons_succ]
      refine Script.load (i := 14) (v := ?_) rfl (by kernel_rfl) (by kernel_rfl) (fun _ _ _ h => h) (by kernel_rfl) ?_ ?_
      rotate_left
      · (intro wS hSw; obtain ⟨c0, c1, c2, l0, l1, l2⟩ := HC.out _ (After.trans HA2.out (After.trans (After.drew (After.refl _)) hSw)); obtain ⟨x0, x1, x2, -, -, -⟩ := row_facts (closed_row _ _ _ _ HX.out (After.trans (After.drew (After.refl _)) hSw)); obtain ⟨y0, y1, y2, -, -, -⟩ := row_facts (closed_row _ _ _ _ HY.out (After.trans (After.drew (After.refl _)) hSw)); go_simp; try with_reducible rfl)
      try simp only [Act.put, List.getElem_toArray, List.getElem_cons_succ, List.getElem_cons_zero, List.setIfInBounds_toArray, List.set_cons_zero, List.set_cons_succ]
      refine Script.load (i := 15) (v := ?_) rfl (by kernel_rfl) (by kernel_rfl) (fun _ _ _ h => h) (by kernel_rfl) ?_ ?_
      rotate_left
      · (intro wS hSw; obtain ⟨c0, c1, c2, l0, l1, l2⟩ := HC.out _ (After.trans HA2.out (After.trans (After.drew (After.refl _)) hSw)); obtain ⟨x0, x1, x2, -, -, -⟩ := row_facts (closed_row _ _ _ _ HX.out (After.trans (After.drew (After.refl _)) hSw)); obtain ⟨y0, y1, y2, -, -, -⟩ := row_facts (closed_row _ _ _ _ HY.out (After.trans (After.drew (After.refl _)) hSw)); go_simp; try with_reducible rfl)
      try simp only [Act.put, List.getElem_toArray, List.getElem_cons_succ, List.getElem_cons_zero, List.setIfInBounds_toArray, List.set_cons_zero, List.set_cons_succ]
      refine Script.load (i := 16) (v := ?_) rfl (by kernel_rfl) (by kernel_rfl) (fun _ _ _ h => h) (by kernel_rfl) ?_ ?_
      rotate_left
      · (intro wS hSw; obtain ⟨c0, c1, c2, l0, l1, l2⟩ := HC.out _ (After.trans HA2.out (After.trans (After.drew (After.refl _)) hSw)); obtain ⟨x0, x1, x2, -, -, -⟩ := row_facts (closed_row _ _ _ _ HX.out (After.trans (After.drew (After.refl _)) hSw)); obtain ⟨y0, y1, y2, -, -, -⟩ := row_facts (closed_row _ _ _ _ HY.out (After.trans (After.drew (After.refl _)) hSw)); go_simp; try with_reducible rfl)
      try simp only [Act.put, List.getElem_toArray, List.getElem_cons_succ, List.getElem_cons_zero, List.setIfInBounds_toArray, List.set_cons_zero, List.set_cons_succ]
      refine Script.call (i := 17) (v := ?_) rfl (by kernel_rfl) (by kernel_rfl) (fun _ _ _ h => h) (by kernel_rfl) ?_ ?_
      rotate_left
      · (intro wS hSw K hK; obtain ⟨c0, c1, c2, l0, l1, l2⟩ := HC.out _ (After.trans HA2.out (After.trans (After.drew (After.refl _)) hSw)); obtain ⟨x0, x1, x2, -, -, -⟩ := row_facts (closed_row _ _ _ _ HX.out (After.trans (After.drew (After.refl _)) hSw)); obtain ⟨y0, y1, y2, -, -, -⟩ := row_facts (closed_row _ _ _ _ HY.out (After.trans (After.drew (After.refl _)) hSw)); go_simp; go_at_call 18; refine (implTurn _ _ _ _).mono ?_; rintro e wc ⟨rfl, hbc⟩; exact hK.out _ hbc)
      try simp only [Act.put, List.getElem_toArray, List.getElem_cons_succ, List.getElem_cons_zero, List.setIfInBounds_toArray, List.set_cons_zero, List.set_cons_succ]
      refine Script.load (i := 18) (v := ?_) rfl (by kernel_rfl) (by kernel_rfl) (fun _ _ _ h => h) (by kernel_rfl) ?_ ?_
      rotate_left
      · (intro wS hSw; obtain ⟨c0, c1, c2, l0, l1, l2⟩ := HC.out _ (After.trans HA2.out (After.trans (After.drew (After.refl _)) hSw)); obtain ⟨x0, x1, x2, -, -, -⟩ := row_facts (closed_row _ _ _ _ HX.out (After.trans (After.drew (After.refl _)) hSw)); obtain ⟨y0, y1, y2, -, -, -⟩ := row_facts (closed_row _ _ _ _ HY.out (After.trans (After.drew (After.refl _)) hSw)); go_simp; try with_reducible rfl)
      try simp only [Act.put, List.getElem_toArray, List.getElem_cons_succ, List.getElem_cons_zero, List.setIfInBounds_toArray, List.set_cons_zero, List.set_cons_succ]
      refine Script.load (i := 19) (v := ?_) rfl (by kernel_rfl) (by kernel_rfl) (fun _ _ _ h => h) (by kernel_rfl) ?_ ?_
      rotate_left
      · (intro wS hSw; obtain ⟨c0, c1, c2, l0, l1, l2⟩ := HC.out _ (After.trans HA2.out (After.trans (After.drew (After.refl _)) hSw)); obtain ⟨x0, x1, x2, -, -, -⟩ := row_facts (closed_row _ _ _ _ HX.out (After.trans (After.drew (After.refl _)) hSw)); obtain ⟨y0, y1, y2, -, -, -⟩ := row_facts (closed_row _ _ _ _ HY.out (After.trans (After.drew (After.refl _)) hSw)); go_simp; try with_reducible rfl)
      try simp only [Act.put, List.getElem_toArray, List.getElem_cons_succ, List.getElem_cons_zero, List.setIfInBounds_toArray, List.set_cons_zero, List.set_cons_succ]
      refine Script.load (i := 20) (v := ?_) rfl (by kernel_rfl) (by kernel_rfl) (fun _ _ _ h => h) (by kernel_rfl) ?_ ?_
      rotate_left
      · (intro wS hSw; obtain ⟨c0, c1, c2, l0, l1, l2⟩ := HC.out _ (After.trans HA2.out (After.trans (After.drew (After.refl _)) hSw)); obtain ⟨x0, x1, x2, -, -, -⟩ := row_facts (closed_row _ _ _ _ HX.out (After.trans (After.drew (After.refl _)) hSw)); obtain ⟨y0, y1, y2, -, -, -⟩ := row_facts (closed_row _ _ _ _ HY.out (After.trans (After.drew (After.refl _)) hSw)); go_simp; try with_reducible rfl)
      try simp only [Act.put, List.getElem_toArray, List.getElem_cons_succ, List.getElem_cons_zero, List.setIfInBounds_toArray, List.set_cons_zero, List.set_cons_succ]
      refine Script.load (i := 21) (v := ?_) rfl (by kernel_rfl) (by kernel_rfl) (fun _ _ _ h => h) (by kernel_rfl) ?_ ?_
      rotate_left
      · (intro wS hSw; obtain ⟨c0, c1, c2, l0, l1, l2⟩ := HC.out _ (After.trans HA2.out (After.trans (After.drew (After.refl _)) hSw)); obtain ⟨x0, x1, x2, -, -, -⟩ := row_facts (closed_row _ _ _ _ HX.out (After.trans (After.drew (After.refl _)) hSw)); obtain ⟨y0, y1, y2, -, -, -⟩ := row_facts (closed_row _ _ _ _ HY.out (After.trans (After.drew (After.refl _)) hSw)); go_simp; try with_reducible rfl)
      try simp only [Act.put, List.getElem_toArray, List.getElem_cons_succ, List.getElem_cons_zero, List.setIfInBounds_toArray, List.set_cons_zero, List.set_cons_succ]
      refine Script.load (i := 22) (v := ?_) rfl (by kernel_rfl) (by kernel_rfl) (fun _ _ _ h => h) (by kernel_rfl) ?_ ?_
      rotate_left
      · (intro wS hSw; obtain ⟨c0, c1, c2, l0, l1, l2⟩ := HC.out _ (After.trans HA2.out (After.trans (After.drew (After.refl _)) hSw)); obtain ⟨x0, x1, x2, -, -, -⟩ := row_facts (closed_row _ _ _ _ HX.out (After.trans (After.drew (After.refl _)) hSw)); obtain ⟨y0, y1, y2, -, -, -⟩ := row_facts (closed_row _ _ _ _ HY.out (After.trans (After.drew (After.refl _)) hSw)); go_simp; try with_reducible rfl)
      try simp only [Act.put, List.getElem_toArray, List.getElem_cons_succ, List.getElem_cons_zero, List.setIfInBounds_toArray, List.set_cons_zero, List.set_cons_succ]
      refine Script.load (i := 23) (v := ?_) rfl (by kernel_rfl) (by kernel_rfl) (fun _ _ _ h => h) (by kernel_rfl) ?_ ?_
      rotate_left
      · (intro wS hSw; obtain ⟨c0, c1, c2, l0, l1, l2⟩ := HC.out _ (After.trans HA2.out (After.trans (After.drew (After.refl _)) hSw)); obtain ⟨x0, x1, x2, -, -, -⟩ := row_facts (closed_row _ _ _ _ HX.out (After.trans (After.drew (After.refl _)) hSw)); obtain ⟨y0, y1, y2, -, -, -⟩ := row_facts (closed_row _ _ _ _ HY.out (After.trans (After.drew (After.refl _)) hSw)); go_simp; try with_reducible rfl)
      try simp only [Act.put, List.getElem_toArray, List.getElem_cons_succ, List.getElem_cons_zero, List.setIfInBounds_toArray, List.set_cons_zero, List.set_cons_succ]
      refine Script.load (i := 24) (v := ?_) rfl (by kernel_rfl) (by kernel_rfl) (fun _ _ _ h => h) (by kernel_rfl) ?_ ?_
      rotate_left
      · (intro wS hSw; obtain ⟨c0, c1, c2, l0, l1, l2⟩ := HC.out _ (After.trans HA2.out (After.trans (After.drew (After.refl _)) hSw)); obtain ⟨x0, x1, x2, -, -, -⟩ := row_facts (closed_row _ _ _ _ HX.out (After.trans (After.drew (After.refl _)) hSw)); obtain ⟨y0, y1, y2, -, -, -⟩ := row_facts (closed_row _ _ _ _ HY.out (After.trans (After.drew (After.refl _)) hSw)); go_simp; try with_reducible rfl)
      try simp only [Act.put, List.getElem_toArray, List.getElem_cons_succ, List.getElem_cons_zero, List.setIfInBounds_toArray, List.set_cons_zero, List.set_cons_succ]
      refine Script.load (i := 25) (v := ?_) rfl (by kernel_rfl) (by kernel_rfl) (fun _ _ _ h => h) (by kernel_rfl) ?_ ?_
      rotate_left
      · (intro wS hSw; obtain ⟨c0, c1, c2, l0, l1, l2⟩ := HC.out _ (After.trans HA2.out (After.trans (After.drew (After.refl _)) hSw)); obtain ⟨x0, x1, x2, -, -, -⟩ := row_facts (closed_row _ _ _ _ HX.out (After.trans (After.drew (After.refl _)) hSw)); obtain ⟨y0, y1, y2, -, -, -⟩ := row_facts (closed_row _ _ _ _ HY.out (After.trans (After.drew (After.refl _)) hSw)); go_simp; try with_reducible rfl)
      try simp only [Act.put, List.getElem_toArray, List.getElem_cons_succ, List.getElem_cons_zero, List.setIfInBounds_toArray, List.set_cons_zero, List.set_cons_succ]
      refine Script.load (i := 26) (v := ?_) rfl (by kernel_rfl) (by kernel_rfl) (fun _ _ _ h => h) (by kernel_rfl) ?_ ?_
      rotate_left
      · (intro wS hSw; obtain ⟨c0, c1, c2, l0, l1, l2⟩ := HC.out _ (After.trans HA2.out (After.trans (After.drew (After.refl _)) hSw)); obtain ⟨x0, x1, x2, -, -, -⟩ := row_facts (closed_row _ _ _ _ HX.out (After.trans (After.drew (After.refl _)) hSw)); obtain ⟨y0, y1, y2, -, -, -⟩ := row_facts (closed_row _ _ _ _ HY.out (After.trans (After.drew (After.refl _)) hSw)); go_simp; try with_reducible rfl)
      try simp only [Act.put, List.getElem_toArray, List.getElem_cons_succ, List.getElem_cons_zero, List.setIfInBounds_toArray, List.set_cons_zero, List.set_cons_succ]
      refine Script.load (i := 27) (v := ?_) rfl (by kernel_rfl) (by kernel_rfl) (fun _ _ _ h => h) (by kernel_rfl) ?_ ?_
      rotate_left
      · (intro wS hSw; obtain ⟨c0, c1, c2, l0, l1, l2⟩ := HC.out _ (After.trans HA2.out (After.trans (After.drew (After.refl _)) hSw)); obtain ⟨x0, x1, x2, -, -, -⟩ := row_facts (closed_row _ _ _ _ HX.out (After.trans (After.drew (After.refl _)) hSw)); obtain ⟨y0, y1, y2, -, -, -⟩ := row_facts (closed_row _ _ _ _ HY.out (After.trans (After.drew (After.refl _)) hSw)); go_simp; try with_reducible rfl)
      try simp only [Act.put, List.getElem_toArray, List.getElem_cons_succ, List.getElem_cons_zero, List.setIfInBounds_toArray, List.set_cons_zero, List.set_cons_succ]
      refine Script.load (i := 28) (v := ?_) rfl (by kernel_rfl) (by kernel_rfl) (fun _ _ _ h => h) (by kernel_rfl) ?_ ?_
      rotate_left
      · (intro wS hSw; obtain ⟨c0, c1, c2, l0, l1, l2⟩ := HC.out _ (After.trans HA2.out (After.trans (After.drew (After.refl _)) hSw)); obtain ⟨x0, x1, x2, -, -, -⟩ := row_facts (closed_row _ _ _ _ HX.out (After.trans (After.drew (After.refl _)) hSw)); obtain ⟨y0, y1, y2, -, -, -⟩ := row_facts (closed_row _ _ _ _ HY.out (After.trans (After.drew (After.refl _)) hSw)); go_simp; try with_reducible rfl)
      try simp only [Act.put, List.getElem_toArray, List.getElem_cons_succ, List.getElem_cons_zero, List.setIfInBounds_toArray, List.set_cons_zero, List.set_cons_succ]
      refine Script.load (i := 29) (v := ?_) rfl (by kernel_rfl) (by kernel_rfl) (fun _ _ _ h => h) (by kernel_rfl) ?_ ?_
      rotate_left
      · (intro wS hSw; obtain ⟨c0, c1, c2, l0, l1, l2⟩ := HC.out _ (After.trans HA2.out (After.trans (After.drew (After.refl _)) hSw)); obtain ⟨x0, x1, x2, -, -, -⟩ := row_facts (closed_row _ _ _ _ HX.out (After.trans (After.drew (After.refl _)) hSw)); obtain ⟨y0, y1, y2, -, -, -⟩ := row_facts (closed_row _ _ _ _ HY.out (After.trans (After.drew (After.refl _)) hSw)); go_simp; try with_reducible rfl)
      try simp only [Act.put, List.getElem_toArray, List.getElem_cons_succ, List.getElem_cons_zero, List.setIfInBounds_toArray, List.set_cons_zero, List.set_cons_succ]
      refine Script.load (i := 30) (v := ?_) rfl (by kernel_rfl) (by kernel_rfl) (fun _ _ _ h => h) (by kernel_rfl) ?_ ?_
      rotate_left
      · (intro wS hSw; obtain ⟨c0, c1, c2, l0, l1, l2⟩ := HC.out _ (After.trans HA2.out (After.trans (After.drew (After.refl _)) hSw)); obtain ⟨x0, x1, x2, -, -, -⟩ := row_facts (closed_row _ _ _ _ HX.out (After.trans (After.drew (After.refl _)) hSw)); obtain ⟨y0, y1, y2, -, -, -⟩ := row_facts (closed_row _ _ _ _ HY.out (After.trans (After.drew (After.refl _)) hSw)); go_simp; try with_reducible rfl)
      try simp only [Act.put, List.getElem_toArray, List.getElem_cons_succ, List.getElem_cons_zero, List.setIfInBounds_toArray, List.set_cons_zero, List.set_cons_succ]
      refine Script.load (i := 31) (v := ?_) rfl (by kernel_rfl) (by kernel_rfl) (fun _ _ _ h => h) (by kernel_rfl) ?_ ?_
      rotate_left
      · (intro wS hSw; obtain ⟨c0, c1, c2, l0, l1, l2⟩ := HC.out _ (After.trans HA2.out (After.trans (After.drew (After.refl _)) hSw)); obtain ⟨x0, x1, x2, -, -, -⟩ := row_facts (closed_row _ _ _ _ HX.out (After.trans (After.drew (After.refl _)) hSw)); obtain ⟨y0, y1, y2, -, -, -⟩ := row_facts (closed_row _ _ _ _ HY.out (After.trans (After.drew (After.refl _)) hSw)); go_simp; try with_reducible rfl)
      try simp only [Act.put, List.getElem_toArray, List.getElem_cons_succ, List.getElem_cons_zero, List.setIfInBounds_toArray, List.set_cons_zero, List.set_cons_succ]
      refine Script.load (i := 32) (v := ?_) rfl (by kernel_rfl) (by kernel_rfl) (fun _ _ _ h => h) (by kernel_rfl) ?_ ?_
      rotate_left
      · (intro wS hSw; obtain ⟨c0, c1, c2, l0, l1, l2⟩ := HC.out _ (After.trans HA2.out (After.trans (After.drew (After.refl _)) hSw)); obtain ⟨x0, x1, x2, -, -, -⟩ := row_facts (closed_row _ _ _ _ HX.out (After.trans (After.drew (After.refl _)) hSw)); obtain ⟨y0, y1, y2, -, -, -⟩ := row_facts (closed_row _ _ _ _ HY.out (After.trans (After.drew (After.refl _)) hSw)); go_simp; try with_reducible rfl)
      try simp only [Act.put, List.getElem_toArray, List.getElem_cons_succ, List.getElem_cons_zero, List.setIfInBounds_toArray, List.set_cons_zero, List.set_cons_succ]
      refine Script.load (i := 33) (v := ?_) rfl (by kernel_rfl) (by kernel_rfl) (fun _ _ _ h => h) (by kernel_rfl) ?_ ?_
      rotate_left
      · (intro wS hSw; obtain ⟨c0, c1, c2, l0, l1, l2⟩ := HC.out _ (After.trans HA2.out (After.trans (After.drew (After.refl _)) hSw)); obtain ⟨x0, x1, x2, -, -, -⟩ := row_facts (closed_row _ _ _ _ HX.out (After.trans (After.drew (After.refl _)) hSw)); obtain ⟨y0, y1, y2, -, -, -⟩ := row_facts (closed_row _ _ _ _ HY.out (After.trans (After.drew (After.refl _)) hSw)); go_simp; try with_reducible rfl)
      try simp only [Act.put, List.getElem_toArray, List.getElem_cons_succ, List.getElem_cons_zero, List.setIfInBounds_toArray, List.set_cons_zero, List.set_cons_succ]
      refine Script.load (i := 34) (v := ?_) rfl (by kernel_rfl) (by kernel_rfl) (fun _ _ _ h => h) (by kernel_rfl) ?_ ?_
      rotate_left
      · (intro wS hSw; obtain ⟨c0, c1, c2, l0, l1, l2⟩ := HC.out _ (After.trans HA2.out (After.trans (After.drew (After.refl _)) hSw)); obtain ⟨x0, x1, x2, -, -, -⟩ := row_facts (closed_row _ _ _ _ HX.out (After.trans (After.drew (After.refl _)) hSw)); obtain ⟨y0, y1, y2, -, -, -⟩ := row_facts (closed_row _ _ _ _ HY.out (After.trans (After.drew (After.refl _)) hSw)); go_simp; try with_reducible rfl)
      try simp only [Act.put, List.getElem_toArray, List.getElem_cons_succ, List.getElem_cons_zero, List.setIfInBounds_toArray, List.set_cons_zero, List.set_cons_succ]
      refine Script.load (i := 35) (v := ?_) rfl (by kernel_rfl) (by kernel_rfl) (fun _ _ _ h => h) (by kernel_rfl) ?_ ?_
      rotate_left
      · (intro wS hSw; obtain ⟨c0, c1, c2, l0, l1, l2⟩ := HC.out _ (After.trans HA2.out (After.trans (After.drew (After.refl _)) hSw)); obtain ⟨x0, x1, x2, -, -, -⟩ := row_facts (closed_row _ _ _ _ HX.out (After.trans (After.drew (After.refl _)) hSw)); obtain ⟨y0, y1, y2, -, -, -⟩ := row_facts (closed_row _ _ _ _ HY.out (After.trans (After.drew (After.refl _)) hSw)); go_simp; try with_reducible rfl)
      try simp only [Act.put, List.getElem_toArray, List.getElem_cons_succ, List.getElem_cons_zero, List.setIfInBounds_toArray, List.set_cons_zero, List.set_cons_succ]
      refine Script.load (i := 36) (v := ?_) rfl (by kernel_rfl) (by kernel_rfl) (fun _ _ _ h => h) (by kernel_rfl) ?_ ?_
      rotate_left
      · (intro wS hSw; obtain ⟨c0, c1, c2, l0, l1, l2⟩ := HC.out _ (After.trans HA2.out (After.trans (After.drew (After.refl _)) hSw)); obtain ⟨x0, x1, x2, -, -, -⟩ := row_facts (closed_row _ _ _ _ HX.out (After.trans (After.drew (After.refl _)) hSw)); obtain ⟨y0, y1, y2, -, -, -⟩ := row_facts (closed_row _ _ _ _ HY.out (After.trans (After.drew (After.refl _)) hSw)); go_simp; try with_reducible rfl)
      try simp only [Act.put, List.getElem_toArray, List.getElem_cons_succ, List.getElem_cons_zero, List.setIfInBounds_toArray, List.set_cons_zero, List.set_cons_succ]
      refine Script.load (i := 37) (v := ?_) rfl (by kernel_rfl) (by kernel_rfl) (fun _ _ _ h => h) (by kernel_rfl) ?_ ?_
      rotate_left
      · (intro wS hSw; obtain ⟨c0, c1, c2, l0, l1, l2⟩ := HC.out _ (After.trans HA2.out (After.trans (After.drew (After.refl _)) hSw)); obtain ⟨x0, x1, x2, -, -, -⟩ := row_facts (closed_row _ _ _ _ HX.out (After.trans (After.drew (After.refl _)) hSw)); obtain ⟨y0, y1, y2, -, -, -⟩ := row_facts (closed_row _ _ _ _ HY.out (After.trans (After.drew (After.refl _)) hSw)); go_simp; try with_reducible rfl)
      try simp only [Act.put, List.getElem_toArray, List.getElem_cons_succ, List.getElem_cons_zero, List.setIfInBounds_toArray, List.set_cons_zero, List.set_cons_succ]
      refine Script.load (i := 38) (v := ?_) rfl (by kernel_rfl) (by kernel_rfl) (fun _ _ _ h => h) (by kernel_rfl) ?_ ?_
      rotate_left
      · (intro wS hSw; obtain ⟨c0, c1, c2, l0, l1, l2⟩ := HC.out _ (After.trans HA2.out (After.trans (After.drew (After.refl _)) hSw)); obtain ⟨x0, x1, x2, -, -, -⟩ := row_facts (closed_row _ _ _ _ HX.out (After.trans (After.drew (After.refl _)) hSw)); obtain ⟨y0, y1, y2, -, -, -⟩ := row_facts (closed_row _ _ _ _ HY.out (After.trans (After.drew (After.refl _)) hSw)); go_simp; try with_reducible rfl)
      try simp only [Act.put, List.getElem_toArray, List.getElem_cons_succ, List.getElem_cons_zero, List.setIfInBounds_toArray, List.set_cons_zero, List.set_cons_succ]
      refine Script.load (i := 39) (v := ?_) rfl (by kernel_rfl) (by kernel_rfl) (fun _ _ _ h => h) (by kernel_rfl) ?_ ?_
      rotate_left
      · (intro wS hSw; obtain ⟨c0, c1, c2, l0, l1, l2⟩ := HC.out _ (After.trans HA2.out (After.trans (After.drew (After.refl _)) hSw)); obtain ⟨x0, x1, x2, -, -, -⟩ := row_facts (closed_row _ _ _ _ HX.out (After.trans (After.drew (After.refl _)) hSw)); obtain ⟨y0, y1, y2, -, -, -⟩ := row_facts (closed_row _ _ _ _ HY.out (After.trans (After.drew (After.refl _)) hSw)); go_simp; try with_reducible rfl)
      try simp only [Act.put, List.getElem_toArray, List.getElem_cons_succ, List.getElem_cons_zero, List.setIfInBounds_toArray, List.set_cons_zero, List.set_cons_succ]
      refine Script.load (i := 40) (v := ?_) rfl (by kernel_rfl) (by kernel_rfl) (fun _ _ _ h => h) (by kernel_rfl) ?_ ?_
      rotate_left
      · (intro wS hSw; obtain ⟨c0, c1, c2, l0, l1, l2⟩ := HC.out _ (After.trans HA2.out (After.trans (After.drew (After.refl _)) hSw)); obtain ⟨x0, x1, x2, -, -, -⟩ := row_facts (closed_row _ _ _ _ HX.out (After.trans (After.drew (After.refl _)) hSw)); obtain ⟨y0, y1, y2, -, -, -⟩ := row_facts (closed_row _ _ _ _ HY.out (After.trans (After.drew (After.refl _)) hSw)); go_simp; try with_reducible rfl)
      try simp only [Act.put, List.getElem_toArray, List.getElem_cons_succ, List.getElem_cons_zero, List.setIfInBounds_toArray, List.set_cons_zero, List.set_cons_succ]
      refine Script.load (i := 41) (v := ?_) rfl (by kernel_rfl) (by kernel_rfl) (fun _ _ _ h => h) (by kernel_rfl) ?_ ?_
      rotate_left
      · (intro wS hSw; obtain ⟨c0, c1, c2, l0, l1, l2⟩ := HC.out _ (After.trans HA2.out (After.trans (After.drew (After.refl _)) hSw)); obtain ⟨x0, x1, x2, -, -, -⟩ := row_facts (closed_row _ _ _ _ HX.out (After.trans (After.drew (After.refl _)) hSw)); obtain ⟨y0, y1, y2, -, -, -⟩ := row_facts (closed_row _ _ _ _ HY.out (After.trans (After.drew (After.refl _)) hSw)); go_simp; try with_reducible rfl)
      try simp only [Act.put, List.getElem_toArray, List.getElem_cons_succ, List.getElem_cons_zero, List.setIfInBounds_toArray, List.set_cons_zero, List.set_cons_succ]
      refine Script.load (i := 42) (v := ?_) rfl (by kernel_rfl) (by kernel_rfl) (fun _ _ _ h => h) (by kernel_rfl) ?_ ?_
      rotate_left
      · (intro wS hSw; obtain ⟨c0, c1, c2, l0, l1, l2⟩ := HC.out _ (After.trans HA2.out (After.trans (After.drew (After.refl _)) hSw)); obtain ⟨x0, x1, x2, -, -, -⟩ := row_facts (closed_row _ _ _ _ HX.out (After.trans (After.drew (After.refl _)) hSw)); obtain ⟨y0, y1, y2, -, -, -⟩ := row_facts (closed_row _ _ _ _ HY.out (After.trans (After.drew (After.refl _)) hSw)); go_simp; try with_reducible rfl)
      try simp only [Act.put, List.getElem_toArray, List.getElem_cons_succ, List.getElem_cons_zero, List.setIfInBounds_toArray, List.set_cons_zero, List.set_cons_succ]
      refine Script.load (i := 43) (v := ?_) rfl (by kernel_rfl) (by kernel_rfl) (fun _ _ _ h => h) (by kernel_rfl) ?_ ?_
      rotate_left
      · (intro wS hSw; obtain ⟨c0, c1, c2, l0, l1, l2⟩ := HC.out _ (After.trans HA2.out (After.trans (After.drew (After.refl _)) hSw)); obtain ⟨x0, x1, x2, -, -, -⟩ := row_facts (closed_row _ _ _ _ HX.out (After.trans (After.drew (After.refl _)) hSw)); obtain ⟨y0, y1, y2, -, -, -⟩ := row_facts (closed_row _ _ _ _ HY.out (After.trans (After.drew (After.refl _)) hSw)); go_simp; try with_reducible rfl)
      try simp only [Act.put, List.getElem_toArray, List.getElem_cons_succ, List.getElem_cons_zero, List.setIfInBounds_toArray, List.set_cons_zero, List.set_cons_succ]
      refine Script.load (i := 44) (v := ?_) rfl (by kernel_rfl) (by kernel_rfl) (fun _ _ _ h => h) (by kernel_rfl) ?_ ?_
      rotate_left
      · (intro wS hSw; obtain ⟨c0, c1, c2, l0, l1, l2⟩ := HC.out _ (After.trans HA2.out (After.trans (After.drew (After.refl _)) hSw)); obtain ⟨x0, x1, x2, -, -, -⟩ := row_facts (closed_row _ _ _ _ HX.out (After.trans (After.drew (After.refl _)) hSw)); obtain ⟨y0, y1, y2, -, -, -⟩ := row_facts (closed_row _ _ _ _ HY.out (After.trans (After.drew (After.refl _)) hSw)); go_simp; try with_reducible rfl)
      try simp only [Act.put, List.getElem_toArray, List.getElem_cons_succ, List.getElem_cons_zero, List.setIfInBounds_toArray, List.set_cons_zero, List.set_cons_succ]
      refine Script.load (i := 45) (v := ?_) rfl (by kernel_rfl) (by kernel_rfl) (fun _ _ _ h => h) (by kernel_rfl) ?_ ?_
      rotate_left
      · (intro wS hSw; obtain ⟨c0, c1, c2, l0, l1, l2⟩ := HC.out _ (After.trans HA2.out (After.trans (After.drew (After.refl _)) hSw)); obtain ⟨x0, x1, x2, -, -, -⟩ := row_facts (closed_row _ _ _ _ HX.out (After.trans (After.drew (After.refl _)) hSw)); obtain ⟨y0, y1, y2, -, -, -⟩ := row_facts (closed_row _ _ _ _ HY.out (After.trans (After.drew (After.refl _)) hSw)); go_simp; try with_reducible rfl)
      try simp only [Act.put, List.getElem_toArray, List.getElem_cons_succ, List.getElem_cons_zero, List.setIfInBounds_toArray, List.set_cons_zero, List.set_cons_succ]
      refine Script.load (i := 46) (v := ?_) rfl (by kernel_rfl) (by kernel_rfl) (fun _ _ _ h => h) (by kernel_rfl) ?_ ?_
      rotate_left
      · (intro wS hSw; obtain ⟨c0, c1, c2, l0, l1, l2⟩ := HC.out _ (After.trans HA2.out (After.trans (After.drew (After.refl _)) hSw)); obtain ⟨x0, x1, x2, -, -, -⟩ := row_facts (closed_row _ _ _ _ HX.out (After.trans (After.drew (After.refl _)) hSw)); obtain ⟨y0, y1, y2, -, -, -⟩ := row_facts (closed_row _ _ _ _ HY.out (After.trans (After.drew (After.refl _)) hSw)); go_simp; try with_reducible rfl)
      try simp only [Act.put, List.getElem_toArray, List.getElem_cons_succ, List.getElem_cons_zero, List.setIfInBounds_toArray, List.set_cons_zero, List.set_cons_succ]
      refine Script.call (i := 47) (v := ?_) rfl (by kernel_rfl) (by kernel_rfl) (fun _ _ _ h => h) (by kernel_rfl) ?_ ?_
      rotate_left
      · (intro wS hSw K hK; obtain ⟨c0, c1, c2, l0, l1, l2⟩ := HC.out _ (After.trans HA2.out (After.trans (After.drew (After.refl _)) hSw)); obtain ⟨x0, x1, x2, -, -, -⟩ := row_facts (closed_row _ _ _ _ HX.out (After.trans (After.drew (After.refl _)) hSw)); obtain ⟨y0, y1, y2, -, -, -⟩ := row_facts (closed_row _ _ _ _ HY.out (After.trans (After.drew (After.refl _)) hSw)); go_simp; go_at_call 19; refine (C3.out _).mono ?_; rintro e wc ⟨rfl, hbc⟩; exact hK.out _ hbc)
      try simp only [Act.put, List.getElem_toArray, List.getElem_cons_succ, List.getElem_cons_zero, List.setIfInBounds_toArray, List.set_cons_zero, List.set_cons_succ]
      refine Script.load (i := 48) (v := ?_) rfl (by kernel_rfl) (by kernel_rfl) (fun _ _ _ h => h) (by kernel_rfl) ?_ ?_
      rotate_left
      · (intro wS hSw; obtain ⟨c0, c1, c2, l0, l1, l2⟩ := HC.out _ (After.trans HA2.out (After.trans (After.drew (After.refl _)) hSw)); obtain ⟨x0, x1, x2, -, -, -⟩ := row_facts (closed_row _ _ _ _ HX.out (After.trans (After.drew (After.refl _)) hSw)); obtain ⟨y0, y1, y2, -, -, -⟩ := row_facts (closed_row _ _ _ _ HY.out (After.trans (After.drew (After.refl _)) hSw)); go_simp; try with_reducible rfl)
      try simp only [Act.put, List.getElem_toArray, List.getElem_cons_succ, List.getElem_cons_zero, List.setIfInBounds_toArray, List.set_cons_zero, List.set_cons_succ]
      refine Script.load (i := 49) (v := ?_) rfl (by kernel_rfl) (by kernel_rfl) (fun _ _ _ h => h) (by kernel_rfl) ?_ ?_
      rotate_left
      · (intro wS hSw; obtain ⟨c0, c1, c2, l0, l1, l2⟩ := HC.out _ (After.trans HA2.out (After.trans (After.drew (After.refl _)) hSw)); obtain ⟨x0, x1, x2, -, -, -⟩ := row_facts (closed_row _ _ _ _ HX.out (After.trans (After.drew (After.refl _)) hSw)); obtain ⟨y0, y1, y2, -, -, -⟩ := row_facts (closed_row _ _ _ _ HY.out (After.trans (After.drew (After.refl _)) hSw)); go_simp; try with_reducible rfl)
      try simp only [Act.put, List.getElem_toArray, List.getElem_cons_succ, List.getElem_cons_zero, List.setIfInBounds_toArray, List.set_cons_zero, List.set_cons_succ]
      refine Script.load (i := 50) (v := ?_) rfl (by kernel_rfl) (by kernel_rfl) (fun _ _ _ h => h) (by kernel_rfl) ?_ ?_
      rotate_left
      · (intro wS hSw; obtain ⟨c0, c1, c2, l0, l1, l2⟩ := HC.out _ (After.trans HA2.out (After.trans (After.drew (After.refl _)) hSw)); obtain ⟨x0, x1, x2, -, -, -⟩ := row_facts (closed_row _ _ _ _ HX.out (After.trans (After.drew (After.refl _)) hSw)); obtain ⟨y0, y1, y2, -, -, -⟩ := row_facts (closed_row _ _ _ _ HY.out (After.trans (After.drew (After.refl _)) hSw)); go_simp; try with_reducible rfl)
      try simp only [Act.put, List.getElem_toArray, List.getElem_cons_succ, List.getElem_cons_zero, List.setIfInBounds_toArray, List.set_cons_zero, List.set_cons_succ]
      refine Script.load (i := 51) (v := ?_) rfl (by kernel_rfl) (by kernel_rfl) (fun _ _ _ h => h) (by kernel_rfl) ?_ ?_
      rotate_left
      · (intro wS hSw; obtain ⟨c0, c1, c2, l0, l1, l2⟩ := HC.out _ (After.trans HA2.out (After.trans (After.drew (After.refl _)) hSw)); obtain ⟨x0, x1, x2, -, -, -⟩ := row_facts (closed_row _ _ _ _ HX.out (After.trans (After.drew (After.refl _)) hSw)); obtain ⟨y0, y1, y2, -, -, -⟩ := row_facts (closed_row _ _ _ _ HY.out (After.trans (After.drew (After.refl _)) hSw)); go_simp; try with_reducible rfl)
      try simp only [Act.put, List.getElem_toArray, List.getElem_cons_succ, List.getElem_cons_zero, List.setIfInBounds_toArray, List.set_cons_zero, List.set_cons_succ]
      refine Script.load (i := 52) (v := ?_) rfl (by kernel_rfl) (by kernel_rfl) (fun _ _ _ h => h) (by kernel_rfl) ?_ ?_
      rotate_left
      · (intro wS hSw; obtain ⟨c0, c1, c2, l0, l1, l2⟩ := HC.out _ (After.trans HA2.out (After.trans (After.drew (After.refl _)) hSw)); obtain ⟨x0, x1, x2, -, -, -⟩ := row_facts (closed_row _ _ _ _ HX.out (After.trans (After.drew (After.refl _)) hSw)); obtain ⟨y0, y1, y2, -, -, -⟩ := row_facts (closed_row _ _ _ _ HY.out (After.trans (After.drew (After.refl _)) hSw)); go_simp; try with_reducible rfl)
      try simp only [Act.put, List.getElem_toArray, List.getElem_cons_succ, List.getElem_cons_zero, List.setIfInBounds_toArray, List.set_cons_zero, List.set_cons_succ]
      refine Script.load (i := 53) (v := ?_) rfl (by kernel_rfl) (by kernel_rfl) (fun _ _ _ h => h) (by kernel_rfl) ?_ ?_
      rotate_left
      · (intro wS hSw; obtain ⟨c0, c1, c2, l0, l1, l2⟩ := HC.out _ (After.trans HA2.out (After.trans (After.drew (After.refl _)) hSw)); obtain ⟨x0, x1, x2, -, -, -⟩ := row_facts (closed_row _ _ _ _ HX.out (After.trans (After.drew (After.refl _)) hSw)); obtain ⟨y0, y1, y2, -, -, -⟩ := row_facts (closed_row _ _ _ _ HY.out (After.trans (After.drew (After.refl _)) hSw)); go_simp; try with_reducible rfl)
      try simp only [Act.put, List.getElem_toArray, List.getElem_cons_succ, List.getElem_cons_zero, List.setIfInBounds_toArray, List.set_cons_zero, List.set_cons_succ]
      refine Script.load (i := 54) (v := ?_) rfl (by kernel_rfl) (by kernel_rfl) (fun _ _ _ h => h) (by kernel_rfl) ?_ ?_
      rotate_left
      · (intro wS hSw; obtain ⟨c0, c1, c2, l0, l1, l2⟩ := HC.out _ (After.trans HA2.out (After.trans (After.drew (After.refl _)) hSw)); obtain ⟨x0, x1, x2, -, -, -⟩ := row_facts (closed_row _ _ _ _ HX.out (After.trans (After.drew (After.refl _)) hSw)); obtain ⟨y0, y1, y2, -, -, -⟩ := row_facts (closed_row _ _ _ _ HY.out (After.trans (After.drew (After.refl _)) hSw)); go_simp; try with_reducible rfl)
      try simp only [Act.put, List.getElem_toArray, List.getElem_cons_succ, List.getElem_cons_zero, List.setIfInBounds_toArray, List.set_cons_zero, List.set_cons_succ]
      refine Script.load (i := 55) (v := ?_) rfl (by kernel_rfl) (by kernel_rfl) (fun _ _ _ h => h) (by kernel_rfl) ?_ ?_
      rotate_left
      · (intro wS hSw; obtain ⟨c0, c1, c2, l0, l1, l2⟩ := HC.out _ (After.trans HA2.out (After.trans (After.drew (After.refl _)) hSw)); obtain ⟨x0, x1, x2, -, -, -⟩ := row_facts (closed_row _ _ _ _ HX.out (After.trans (After.drew (After.refl _)) hSw)); obtain ⟨y0, y1, y2, -, -, -⟩ := row_facts (closed_row _ _ _ _ HY.out (After.trans (After.drew (After.refl _)) hSw)); go_simp; try with_reducible rfl)
      try simp only [Act.put, List.getElem_toArray, List.getElem_cons_succ, List.getElem_cons_zero, List.setIfInBounds_toArray, List.set_cons_zero, List.set_cons_succ]
      refine Script.one (i := 56) rfl (by kernel_rfl) (by kernel_rfl) ?_
      intro wO hO K hK; have hSw := hO; obtain ⟨c0, c1, c2, l0, l1, l2⟩ := HC.out _ (After.trans HA2.out (After.trans (After.drew (After.refl _)) hSw)); obtain ⟨x0, x1, x2, -, -, -⟩ := row_facts (closed_row _ _ _ _ HX.out (After.trans (After.drew (After.refl _)) hSw)); obtain ⟨y0, y1, y2, -, -, -⟩ := row_facts (closed_row _ _ _ _ HY.out (After.trans (After.drew (After.refl _)) hSw)); go_simp
      clear hSw
      go_at_call 20; refine (C4.out _).mono ?_; rintro e wc ⟨vt, rfl, ht, hbc⟩; rw [HN2.out] at ht; obtain ⟨ta, tc, rfl⟩ := lines_form ht
      refine hK.out _ _ hbc ?_
      clear hK K
      try simp only [Act.put, List.getElem_toArray, List.getElem_cons_succ, List.getElem_cons_zero, List.setIfInBounds_toArray, List.set_cons_zero, List.set_cons_succ]
      clear c0 c1 c2 l0 l1 l2 x0 x1 x2 y0 y1 y2
      refine Script.load (i := 57) (v := ?_) rfl (by kernel_rfl) (by kernel_rfl) (fun _ _ _ h => h) (by kernel_rfl) ?_ ?_
      rotate_left
      · (intro wS hSw; obtain ⟨c0, c1, c2, l0, l1, l2⟩ := HC.out _ (After.trans HA2.out (After.trans (After.drew (After.refl _)) (After.trans hO (After.trans hbc hSw)))); obtain ⟨x0, x1, x2, -, -, -⟩ := row_facts (closed_row _ _ _ _ HX.out (After.trans (After.drew (After.refl _)) (After.trans hO (After.trans hbc hSw)))); obtain ⟨y0, y1, y2, -, -, -⟩ := row_facts (closed_row _ _ _ _ HY.out (After.trans (After.drew (After.refl _)) (After.trans hO (After.trans hbc hSw)))); go_simp; try with_reducible rfl)
      try simp only [Act.put, List.getElem_toArray, List.getElem_cons_succ, List.getElem_cons_zero, List.setIfInBounds_toArray, List.set_cons_zero, List.set_cons_succ]
      refine Script.load (i := 58) (v := ?_) rfl (by kernel_rfl) (by kernel_rfl) (fun _ _ _ h => h) (by kernel_rfl) ?_ ?_
      rotate_left
      · (intro wS hSw; obtain ⟨c0, c1, c2, l0, l1, l2⟩ := HC.out _ (After.trans HA2.out (After.trans (After.drew (After.refl _)) (After.trans hO (After.trans hbc hSw)))); obtain ⟨x0, x1, x2, -, -, -⟩ := row_facts (closed_row _ _ _ _ HX.out (After.trans (After.drew (After.refl _)) (After.trans hO (After.trans hbc hSw)))); obtain ⟨y0, y1, y2, -, -, -⟩ := row_facts (closed_row _ _ _ _ HY.out (After.trans (After.drew (After.refl _)) (After.trans hO (After.trans hbc hSw)))); go_simp; try with_reducible rfl)
      try simp only [Act.put, List.getElem_toArray, List.getElem_cons_succ, List.getElem_cons_zero, List.setIfInBounds_toArray, List.set_cons_zero, List.set_cons_succ]
      refine Script.load (i := 59) (v := ?_) rfl (by kernel_rfl) (by kernel_rfl) (fun _ _ _ h => h) (by kernel_rfl) ?_ ?_
      rotate_left
      · (intro wS hSw; obtain ⟨c0, c1, c2, l0, l1, l2⟩ := HC.out _ (After.trans HA2.out (After.trans (After.drew (After.refl _)) (After.trans hO (After.trans hbc hSw)))); obtain ⟨x0, x1, x2, -, -, -⟩ := row_facts (closed_row _ _ _ _ HX.out (After.trans (After.drew (After.refl _)) (After.trans hO (After.trans hbc hSw)))); obtain ⟨y0, y1, y2, -, -, -⟩ := row_facts (closed_row _ _ _ _ HY.out (After.trans (After.drew (After.refl _)) (After.trans hO (After.trans hbc hSw)))); go_simp; try with_reducible rfl)
      try simp only [Act.put, List.getElem_toArray, List.getElem_cons_succ, List.getElem_cons_zero, List.setIfInBounds_toArray, List.set_cons_zero, List.set_cons_succ]
      refine Script.done (by kernel_rfl) ?_
      intro wD hD hG
      have HA3 : Hid (Below w3.heap.size w3 wD) := hw.out.trans (Below.mono (HA2.out.trans (After.trans (After.drew (After.refl _)) (After.trans hO (After.trans hbc hD)))) hw.out.size)
      clear hD hG hO hbc HA2 HX HY HC hw q1 q2 q3 q4 ethr f0 f1 o0 o1 t0 t1
      go_wp2_with fail
      go_roundw
      case rel => exact ⟨k + 1, by omega, by go_num, HA3⟩
      case measure => simp [intOf]; omega
    · obtain rfl : k = n := by omega
      have hev : ((k : Int) % 2 == 0) = true := by have := HEV.out; simp; omega
      have BX := Lib.hid (B3.out.later hw.out)
      have BW := Lib.hid (HBW.out.trans (hw.out.mono HBW.out.size))
      clear hw B3 HBW
      obtain ⟨c0, c1, c2, hlt, -⟩ := BX.out
      have su : sideB U = true := by simp only [sideB, Bool.and_eq_true, decide_eq_true_eq]; omega
      have sv : sideB V = true := by simp only [sideB, Bool.and_eq_true, decide_eq_true_eq]; omega
      obtain ⟨M, hM, m1, m49, -, -, -, -⟩ := sides su sv
      have HR := Lib.hid (rect_yes su sv hM)
      have HRL := Lib.hid (rect_num u1 u7 v1 v7 hM)
      obtain ⟨L, hL⟩ : ∃ L, (lnsOf U V (2 ^ M - 1)).length = L := ⟨_, rfl⟩
      have CR := Lib.hid (fun w => implCountL U V (2 ^ M - 1) w)
      have CX := Lib.hid (fun w => implCountL 7 7 (crossN 49) w)
      rw [cross_lines] at CX
      rw [hL] at CR HRL
      clear su sv hM m1 m49 hL
      obtain ⟨P1, P2, p10, p17, p20, p27, g1, g2, g3, g4, hLL⟩ := rect_parts u1 u7 v1 v7 HRL.out
      go_wp2_with fail
      refine (CC.out _).mono ?_
      rintro e w4 ⟨rfl, hb4⟩
      have BW4 := Lib.hid (BW.out.trans (hb4.mono BW.out.size))
      clear hb4 BX BW c0 c1 c2 hlt
      go_wp2_with fail
      refine (implRect _ _ _).mono ?_
      rintro e w5 ⟨rfl, hb5⟩
      rw [HR.out]
      unfold bd
      have BW5 := Lib.hid (BW4.out.trans (hb5.mono BW4.out.size))
      clear hb5 BW4
      go_wp2_with fail
      refine (CR.out _).mono ?_
      rintro e w6 ⟨rfl, hb6⟩
      have BW6 := Lib.hid (BW5.out.trans (hb6.mono BW5.out.size))
      clear hb6 BW5
      by_cases hu : 2 < U <;> by_cases hv : 2 < V
      · have e1 := g1 hu
        have e2 := g3 hv
        have u2 : 0 < U - 2 := by omega
        have v2 : 0 < V - 2 := by omega
        have hq : ((L : Int) == 2 * (P1 + P2)) = true := by rw [hLL]; simp
        clear g1 g2 g3 g4 hLL
        go_wp2_with fail
        refine (implCross _).mono ?_
        rintro e w7 ⟨rfl, hb7⟩
        unfold bd
        have BW7 := Lib.hid (BW6.out.trans (hb7.mono BW6.out.size))
        clear hb7 BW6
        go_wp2_with fail
        refine (CX.out _).mono ?_
        rintro e w8 ⟨rfl, hb8⟩
        have BW8 := Lib.hid (BW7.out.trans (hb8.mono BW7.out.size))
        clear hb8 BW7
        go_wp2_with fail
        go_ret
        exact ⟨rfl, BW8.out⟩
      · have e1 := g1 hu
        have e2 := g4 (by omega)
        have u2 : 0 < U - 2 := by omega
        have v2 : ¬ 0 < V - 2 := by omega
        have hq : ((L : Int) == 2 * P1) = true := by rw [hLL, e2]; simp
        clear g1 g2 g3 g4 hLL e2
        go_wp2_with fail
        refine (implCross _).mono ?_
        rintro e w7 ⟨rfl, hb7⟩
        unfold bd
        have BW7 := Lib.hid (BW6.out.trans (hb7.mono BW6.out.size))
        clear hb7 BW6
        go_wp2_with fail
        refine (CX.out _).mono ?_
        rintro e w8 ⟨rfl, hb8⟩
        have BW8 := Lib.hid (BW7.out.trans (hb8.mono BW7.out.size))
        clear hb8 BW7
        go_wp2_with fail
        go_ret
        exact ⟨rfl, BW8.out⟩
      · have e1 := g2 (by omega)
        have e2 := g3 hv
        have u2 : ¬ 0 < U - 2 := by omega
        have v2 : 0 < V - 2 := by omega
        have hq : ((L : Int) == 2 * P2) = true := by rw [hLL, e1]; simp
        clear g1 g2 g3 g4 hLL e1
        go_wp2_with fail
        refine (implCross _).mono ?_
        rintro e w7 ⟨rfl, hb7⟩
        unfold bd
        have BW7 := Lib.hid (BW6.out.trans (hb7.mono BW6.out.size))
        clear hb7 BW6
        go_wp2_with fail
        refine (CX.out _).mono ?_
        rintro e w8 ⟨rfl, hb8⟩
        have BW8 := Lib.hid (BW7.out.trans (hb8.mono BW7.out.size))
        clear hb8 BW7
        go_wp2_with fail
        go_ret
        exact ⟨rfl, BW8.out⟩
      · have e1 := g2 (by omega)
        have e2 := g4 (by omega)
        have u2 : ¬ 0 < U - 2 := by omega
        have v2 : ¬ 0 < V - 2 := by omega
        have hq : L = 0 := by rw [e1, e2] at hLL; omega
        clear g1 g2 g3 g4 hLL e1 e2
        go_wp2_with fail
        refine (implCross _).mono ?_
        rintro e w7 ⟨rfl, hb7⟩
        unfold bd
        have BW7 := Lib.hid (BW6.out.trans (hb7.mono BW6.out.size))
        clear hb7 BW6
        go_wp2_with fail
        refine (CX.out _).mono ?_
        rintro e w8 ⟨rfl, hb8⟩
        have BW8 := Lib.hid (BW7.out.trans (hb8.mono BW7.out.size))
        clear hb8 BW7
        go_wp2_with fail
        go_ret
        exact ⟨rfl, BW8.out⟩
theorem walk_far {a0 : Option Addr} {len cap : Nat} (w : World) (h : 1048576 < len) :
    Calls Try.prog 3 #[.slice a0 len cap] w fun e w' => e = .returned (.bool true) ∧ Below w.heap.size w w' := by
  go_enter Try.func3, Try.ntmps3
  go_wp2_with fail
  refine (big_yes _ h).mono ?_
  rintro e w' ⟨rfl, rfl⟩
  go_wp2_with fail
  go_ret
  exact ⟨rfl, Below.refl _ _⟩
theorem walk (a0 : Option Addr) (len0 cap0 : Nat) (z0 : List Int) (w : World) (w0 : IsRow .u8 w a0 len0 cap0 z0) :
    Calls Try.prog 3 #[.slice a0 len0 cap0] w fun e w' => e = .returned (.bool true) ∧ Below w.heap.size w w' := by
  by_cases h2 : len0 ≤ 1048576
  · exact walk_in w (code_of w0 h2)
  · exact walk_far w (by omega)
set_option maxRecDepth 100000 in
theorem lifted (os : Os) (started : os.Started) (H : Type) (enc : TypeId × Value → H) :
    ReturnsInHanded {} Try.checked os 3 .any (Rows.fnLinesSpec.pre6 enc Try.prog Try.f3 Rows.fnLinesRow.domain false) (Rows.fnLinesSpec.post enc Try.prog Try.f3 false true false false) := by
  refine returnsInHanded_of_change (C := Try.checked) own started (by kernel_rfl) Try.func3
    (ChangeSpec.witness6 (enc := enc) (C := Try.checked) false ⟨#[], #[.slice none 0 0], []⟩ 8 (by kernel_rfl) (by kernel_rfl) (by kernel_rfl) (by kernel_rfl)) ?_
  intro W base args ds gs before hval0 hW hcnd _
  have hval : ∀ (j : Nat) t v, Try.f3.params[j]? = some t → args[j]? = some v → Value.okWide Try.prog W .any base t v := hval0
  have hW' := hW
  obtain ⟨p, q, hA0, hV, rfl, hfz, hnd⟩ := hW
  have hA : DataW.TrodAll enc Try.prog W 0 (fun _ => true) true Try.f3.params.toList args.toList ds p := hA0
  rw [Try.params3] at hA hval
  obtain ⟨v0, vs0, d0, ds0, p0, q0, hargs, rfl, rfl, h0, r0⟩ := trodAll_cons hA
  obtain ⟨rfl, rfl, rfl⟩ := trodAll_nil r0
  obtain rfl : args = #[v0] := by cases args; simp_all
  obtain ⟨rfl, rfl⟩ := trodVars_none hV
  obtain ⟨a0, len0, cap0, rfl⟩ := okWide_slice Try.underlying22 (hval 0 22 v0 rfl rfl)
  have k0 := h0
  have lt0 : ∀ x ∈ p0, x.block < W.heap.size := by obtain ⟨m, hm⟩ := k0; exact DataW.trod_lt m _ _ _ hm
  obtain ⟨z0, w0⟩ : ∃ zs, IsRow .u8 W a0 len0 cap0 zs := by
    obtain ⟨fuel, hf⟩ := h0
    rcases open_ints Try.underlying22 Try.underlying5 (by kernel_rfl) hf with ⟨hcs, _⟩ | ⟨x, l, c, zs, hcs, _, hl, hm, hz, _, hcell, hwz⟩
    · simp [Value.cells] at hcs
      obtain ⟨rfl, rfl, rfl⟩ := hcs
      exact ⟨[], .inl ⟨rfl, rfl, rfl, rfl⟩⟩
    · simp [Value.cells] at hcs
      obtain ⟨rfl, rfl, rfl⟩ := hcs
      exact ⟨zs, .inr ⟨_, rfl, hl, hm, by simpa using hz, hcell, hwz⟩⟩
  clear hA0 hval0
  refine (walk a0 len0 cap0 z0 W w0).mono fun e W' ⟨he, bel⟩ => ?_
  subst he
  exact ⟨_, rfl, _, _, _, [], _, [], hW', trodAll_mk1 (shut_bool Try.underlying4 _), (trodAll_cons_mk (Below.trod laidOut (by kernel_rfl) (of_decide_eq_true (by kernel_rfl)) k0 bel lt0) trodAll_mk0), rfl, bel.frame _, fun h => by cases h⟩

theorem over : Rows.fnLinesRow.holds Try.pinned (OpenSpec.ofChange Rows.fnLinesSpec) :=
  OpenClaim.holds_of_wide 3 Try.f3 rfl rfl rfl rfl rfl rfl rfl ⟨rfl, rfl, rfl, rfl, rfl⟩ rfl rfl rfl rfl rfl (by kernel_rfl) Try.func3 (by kernel_rfl)
    (of_decide_eq_true (by kernel_rfl)) (by unfold Func.isWrapper; first | (rw [if_pos (by decide +kernel)]; kernel_rfl) | (rw [if_neg (by decide +kernel)]; exact ⟨rfl, rfl⟩))
    (fun os started H enc _ => lifted os started H enc)

theorem proved : Rows.FnLinesSaid := over
end Go.Proofs.Ytpdhdogllejdbaa.fnLines
