/- The law FnBackwards returns true for every code: of a drawn board, position and goal: the goal is among the positions from which it is reached, and another is just if it reaches it; a hole is a start just if the position with all holes but it is; pairs of holes turned are pairs, and there are some just if a hole can be solved; nothing but the empty position leads to it. No condition. -/
import Derived.Test.YtkenlighpelhiaaGreatRows
import Derived.WalkKit
import Derived.WalkSpells
import Derived.ProofKit
import Derived.OpenShut
import Derived.ShutString
import Derived.ChangeOld
import Derived.Below
import Derived.Lib.Hide
import Derived.Lib.SmallJoins
import Derived.ChangeArms
import Derived.Test.YtkenlighpelhiaaGreatDrawReach
import Derived.Test.YtkenlighpelhiaaGreatDrawSolv
import Derived.Test.YtkenlighpelhiaaGreatBackMath
import Derived.Test.YtkenlighpelhiaaGreatBackR
import Derived.Test.YtkenlighpelhiaaGreatReachC
import Derived.Test.YtkenlighpelhiaaGreatHas
import Derived.Deep.DeepCutAuto
namespace Go.Proofs.YtkenlighpelhiaaGreat.fnBackwards
open Go.ChangeShapes Go.WideShapes Go.ChangeAt Go.RowKit
open Go.ChangeMaps (open_string shut_string)
set_option linter.unusedVariables false
set_option linter.unusedSimpArgs false
theorem own : ownKnob Tryz.prog.godebug = none := by kernel_rfl
theorem laidOut : laidOutB Tryz.prog = true := by kernel_rfl
/-- What the walk is told of a slice of integers that came in. -/
def IsRow (k : IntKind) (w : World) (a : Option Addr) (len cap : Nat) (zs : List Int) : Prop :=
  (a = none ∧ len = 0 ∧ cap = 0 ∧ zs = []) ∨
  ∃ x, a = some x ∧ len ≤ cap ∧ cap ≤ maxLen ∧ zs.length = cap ∧ (∀ i, i < zs.length → w.cell? (x.add i) = some (.int k (zs.getD i 0))) ∧ ∀ n ∈ zs, (Lit.int k n).wf = true
/-- The board's block, the list of positions, the starts, the holes. -/
structure QSt (w0 : World) (q : Nat) (W H Z : Int) (B1 B2 B3 : Nat) (la : Option Addr) (n lc : Nat) (l : List Nat) (sa : Option Addr) (m sc : Nat) (s : List Nat) (ha : Option Addr) (k hc : Nat) (h : List Nat) (w : World) : Prop where
  board : w.heap[q]? = some (.cells #[.int .i64 W, .int .i64 H, .int .i64 Z] 25 (0, 0))
  l : w.ownsRow B1 3 1 (.slice la n lc) n (Ints l)
  s : w.ownsRow B2 3 1 (.slice sa m sc) m (Ints s)
  h : w.ownsRow B3 3 1 (.slice ha k hc) k (Ints h)
  below : Below w0.heap.size w0 w
theorem QSt.later {w0 w w' : World} {q B1 B2 B3 n lc m sc k hc : Nat} {W H Z : Int} {la sa ha : Option Addr} {l s h : List Nat} (g : QSt w0 q W H Z B1 B2 B3 la n lc l sa m sc s ha k hc h w) (hb : Below w.heap.size w w') : QSt w0 q W H Z B1 B2 B3 la n lc l sa m sc s ha k hc h w' :=
  ⟨closed_row _ _ _ _ g.board hb, own_below g.l hb, own_below g.s hb, own_below g.h hb, g.below.trans (hb.mono g.below.size)⟩
theorem seq_get {w : World} {B n c k y : Nat} {a : Option Addr} {T : TypeId} {l : List Nat} (h : w.ownsRow B T 1 (.slice a n c) n (Ints l)) (hk : k < n) (hy : l[k]? = some y) : ∃ g, a = some ⟨g, 0, none⟩ ∧ w.cell? ⟨g, k, none⟩ = some (.int .i64 (y : Int)) := by
  obtain ⟨g, rfl⟩ := one_block h (by omega)
  exact ⟨g, rfl, own_cell h k hk _ (by simp [Ints, hy])⟩
/-- A pair of a list of pairs: its cells in every world that keeps the list. -/
theorem nest_get {b B n c g i : Nat} {TO TI : TypeId} {vs : List Value} {xss : List (List Int)} {w : World} {x y : Int} (h : NestI b B TO TI (.slice (some ⟨g, 0, none⟩) n c) n vs xss w) (hi : xss[i]? = some [x, y]) : ∃ gi ci, ∀ w', NestI b B TO TI (.slice (some ⟨g, 0, none⟩) n c) n vs xss w' → w'.cell? ⟨g, i, none⟩ = some (.slice (some ⟨gi, 0, none⟩) 2 ci) ∧ w'.cell? ⟨gi, 0, none⟩ = some (.int .i64 x) ∧ w'.cell? ⟨gi, 1, none⟩ = some (.int .i64 y) := by
  obtain ⟨u, hu, ho, -⟩ := h.inner i _ hi
  rcases Go.Joins.ownsRow_forms ho with ⟨h1, h2⟩ | ⟨gi, ci, rfl⟩
  · exfalso; first | (simp at h1; done) | (simp at h2; done)
  · refine ⟨gi, ci, fun w' h' => ?_⟩
    obtain ⟨u', hu', ho', -⟩ := h'.inner i _ hi
    rw [hu] at hu'
    cases hu'
    have hin : i < n := h.len ▸ (List.getElem?_eq_some_iff.1 hi).1
    exact ⟨own_cell h'.outer i hin _ hu, own_cell ho' 0 (by simp) _ rfl, own_cell ho' 1 (by simp) _ rfl⟩
/-- The small board's block, the list of pairs, the holes that can be solved. -/
structure PSt (w0 : World) (q : Nat) (W H Z : Int) (B1 B2 B3 : Nat) (pa : Option Addr) (n pc : Nat) (vs : List Value) (xss : List (List Int)) (sa : Option Addr) (m sc : Nat) (s : List Nat) (w : World) : Prop where
  board : w.heap[q]? = some (.cells #[.int .i64 W, .int .i64 H, .int .i64 Z] 25 (0, 0))
  p : NestI B1 B2 28 3 (.slice pa n pc) n vs xss w
  s : w.ownsRow B3 3 1 (.slice sa m sc) m (Ints s)
  below : Below w0.heap.size w0 w
theorem PSt.later {w0 w w' : World} {q B1 B2 B3 n pc m sc : Nat} {W H Z : Int} {pa sa : Option Addr} {vs : List Value} {xss : List (List Int)} {s : List Nat} (g : PSt w0 q W H Z B1 B2 B3 pa n pc vs xss sa m sc s w) (hb : Below w.heap.size w w') : PSt w0 q W H Z B1 B2 B3 pa n pc vs xss sa m sc s w' :=
  ⟨closed_row _ _ _ _ g.board hb, g.p.later hb, own_below g.s hb, g.below.trans (hb.mono g.below.size)⟩
set_option maxHeartbeats 8000000 in
set_option maxRecDepth 100000 in
theorem walk_in {a0 : Option Addr} {len cap : Nat} (w : World) (hcode : CodeAt w a0 len) :
    Calls Tryz.prog 3 #[.slice a0 len cap] w fun e w' => e = .returned (.bool true) ∧ Below w.heap.size w w' := by
  have HCO := Lib.hid hcode
  clear hcode
  go_enter Tryz.func3, Tryz.ntmps3
  go_wp2_with fail
  refine (big_no _ HCO.out.1).mono ?_
  rintro e w' ⟨rfl, rfl⟩
  go_wp2_with fail
  refine (drawAim w HCO.out).mono ?_
  rintro e w1 ⟨W, H, N, z, p, g, ho, hN, h10, hp, hg, rfl, hb1⟩
  unfold bd
  obtain ⟨a, rfl⟩ := Int.eq_ofNat_of_zero_le (show 0 ≤ W by have := ho.w1; omega)
  obtain ⟨b, rfl⟩ := Int.eq_ofNat_of_zero_le (show 0 ≤ H by have := ho.h1; omega)
  have S : Small5 (a : Int) (b : Int) (z : Int) (g : Int) a b N z g := ⟨rfl, rfl, rfl, rfl, ho, hN, hg⟩
  have hp63 : (p : Int) ≤ 9223372036854775807 := by have := hp.le; have := ho.zbig; omega
  have hg63 : (g : Int) ≤ 9223372036854775807 := by have := hg.le; have := ho.zbig; omega
  have CB := Lib.hid (fun w => implBackOf (a : Int) b z g hg63 w)
  have CN := Lib.hid (fun w => implCountBack (a : Int) b z g hg63 w)
  have CS := Lib.hid (fun w => implStarts (a : Int) b z g hg63 w)
  have CH := Lib.hid (fun w => specHolesR (a : Int) b z w)
  have CC := Lib.hid (fun w => specCanRch (a : Int) b z p g hp63 hg63 w)
  have hself := S.selfB
  have hpg : reachB false (a : Int) b z p g = decide (p ∈ reachL true (a : Int) b z g) := by
    rw [Bool.eq_iff_iff, decide_eq_true_iff]; exact (S.backs hp).symm
  have hst : ∀ k ∈ holesR (a : Int) b z, ∃ r : Nat, butB (a : Int) b z k = (r : Int) ∧ (k ∈ startL (a : Int) b z g ↔ r ∈ reachL true (a : Int) b z g) := fun k hk => ⟨_, (S.but hk).1, S.start hk⟩
  have hl65 := reach_len true (a : Int) b z g
  have hs49 : (startL (a : Int) b z g).length ≤ 49 := Nat.le_trans (List.length_filter_le ..) (holesR_len _ _ _)
  have hh49 := holesR_len (a : Int) b z
  have CBut := Lib.hid (fun (k : Nat) w => specBut (a : Int) b z k w)
  rw [hpg] at CC
  generalize reachL true (a : Int) b z g = l at *
  generalize startL (a : Int) b z g = s at *
  generalize holesR (a : Int) b z = h at *
  obtain ⟨n, hn⟩ : ∃ n, l.length = n := ⟨_, rfl⟩
  obtain ⟨m, hm⟩ : ∃ m, s.length = m := ⟨_, rfl⟩
  obtain ⟨k, hk⟩ : ∃ k, h.length = k := ⟨_, rfl⟩
  rw [hn] at hl65 CN
  rw [hm] at hs49
  rw [hk] at hh49
  have HN := Lib.hid hn
  have HM := Lib.hid hm
  have HK := Lib.hid hk
  have HST := Lib.hid hst
  have HGo := Lib.hid hself
  have HB1 := Lib.hid hb1
  clear S ho hp hg hself hpg hst hb1 hn hm hk h10 hN hp63 hg63
  have HQ2 : Hid ((w1.alloc (.cells #[.int .i64 (a : Int), .int .i64 (b : Int), .int .i64 (z : Int)] 25)).heap[w1.heap.size]? = some (.cells #[.int .i64 (a : Int), .int .i64 (b : Int), .int .i64 (z : Int)] 25 (0, 0))) := heap_alloc_new w1 _
  have HB2 : Hid (Below w.heap.size w (w1.alloc (.cells #[.int .i64 (a : Int), .int .i64 (b : Int), .int .i64 (z : Int)] 25))) := HB1.out.alloc HB1.out.size _
  obtain ⟨c0, c1, c2, -, -, -⟩ := row_facts HQ2.out
  go_wp2_with fail
  clear c0 c1 c2
  generalize w1.alloc (.cells #[.int .i64 (a : Int), .int .i64 (b : Int), .int .i64 (z : Int)] 25) = w2 at *
  generalize w1.heap.size = q at *
  refine (CB.out _).mono ?_
  rintro e w3 ⟨v, rfl, hh, hb⟩
  rw [HN.out] at hh
  obtain ⟨la, lc, rfl⟩ := one_form hh
  have HL3 := Lib.hid hh
  have HQ3 := Lib.hid (closed_row _ _ _ _ HQ2.out hb)
  have HB3 := Lib.hid (HB2.out.trans (hb.mono HB2.out.size))
  clear hh hb HQ2 HB2 CB
  go_wp2_with fail
  have KG : Hid (∀ w', w'.ownsRow w2.heap.size 3 1 (.slice la n lc) n (Ints l) → Calls Tryz.prog 7 #[.slice la n lc, .int .i64 (g : Int)] w' (QB true w')) := fun w' h' => hasIn w' HN.out h' HGo.out (by omega)
  obtain ⟨bb, hbb0⟩ : ∃ bb, decide (p ∈ l) = bb := ⟨_, rfl⟩
  have KP : Hid (∀ w', w'.ownsRow w2.heap.size 3 1 (.slice la n lc) n (Ints l) → Calls Tryz.prog 7 #[.slice la n lc, .int .i64 (p : Int)] w' (QB bb w')) := fun w' h' => by rw [← hbb0]; exact hasAny w' HN.out h' (by omega)
  rw [hbb0] at CC
  have hbb : (bb != bb) = false := by cases bb <;> rfl
  have hnn : ((n : Int) != (n : Int)) = false := by simp
  clear hbb0
  refine wp_region_script (by kernel_rfl) (by kernel_rfl) ?_
  refine Script.load (i := 0) (v := ?_) rfl (by kernel_rfl) (by kernel_rfl) (fun _ _ _ h => h) (by kernel_rfl) ?_ ?_
  rotate_left
  · (intro wS hSw; have hSb := After.trans (After.drew (After.refl _)) hSw; have hl := own_below HL3.out hSb; obtain ⟨c0, c1, c2, -, -, -⟩ := row_facts (closed_row _ _ _ _ HQ3.out hSb); go_simp; try with_reducible rfl)
  try simp only [Act.put, List.getElem_toArray, List.getElem_cons_succ, List.getElem_cons_zero, List.setIfInBounds_toArray, List.set_cons_zero, List.set_cons_succ]
  refine Script.load (i := 1) (v := ?_) rfl (by kernel_rfl) (by kernel_rfl) (fun _ _ _ h => h) (by kernel_rfl) ?_ ?_
  rotate_left
  · (intro wS hSw; have hSb := After.trans (After.drew (After.refl _)) hSw; have hl := own_below HL3.out hSb; obtain ⟨c0, c1, c2, -, -, -⟩ := row_facts (closed_row _ _ _ _ HQ3.out hSb); go_simp; try with_reducible rfl)
  try simp only [Act.put, List.getElem_toArray, List.getElem_cons_succ, List.getElem_cons_zero, List.setIfInBounds_toArray, List.set_cons_zero, List.set_cons_succ]
  refine Script.call (i := 2) (v := ?_) rfl (by kernel_rfl) (by kernel_rfl) (fun _ _ _ h => h) (by kernel_rfl) ?_ ?_
  rotate_left
  · (intro wS hSw K hK; have hSb := After.trans (After.drew (After.refl _)) hSw; have hl := own_below HL3.out hSb; obtain ⟨c0, c1, c2, -, -, -⟩ := row_facts (closed_row _ _ _ _ HQ3.out hSb); go_simp; go_at_call 7; refine (KG.out _ hl).mono ?_; rintro e wc' ⟨rfl, hbc⟩; exact hK.out _ hbc)
  try simp only [Act.put, List.getElem_toArray, List.getElem_cons_succ, List.getElem_cons_zero, List.setIfInBounds_toArray, List.set_cons_zero, List.set_cons_succ]
  refine Script.load (i := 3) (v := ?_) rfl (by kernel_rfl) (by kernel_rfl) (fun _ _ _ h => h) (by kernel_rfl) ?_ ?_
  rotate_left
  · (intro wS hSw; have hSb := After.trans (After.drew (After.refl _)) hSw; have hl := own_below HL3.out hSb; obtain ⟨c0, c1, c2, -, -, -⟩ := row_facts (closed_row _ _ _ _ HQ3.out hSb); go_simp; try with_reducible rfl)
  try simp only [Act.put, List.getElem_toArray, List.getElem_cons_succ, List.getElem_cons_zero, List.setIfInBounds_toArray, List.set_cons_zero, List.set_cons_succ]
  refine Script.load (i := 4) (v := ?_) rfl (by kernel_rfl) (by kernel_rfl) (fun _ _ _ h => h) (by kernel_rfl) ?_ ?_
  rotate_left
  · (intro wS hSw; have hSb := After.trans (After.drew (After.refl _)) hSw; have hl := own_below HL3.out hSb; obtain ⟨c0, c1, c2, -, -, -⟩ := row_facts (closed_row _ _ _ _ HQ3.out hSb); go_simp; try with_reducible rfl)
  try simp only [Act.put, List.getElem_toArray, List.getElem_cons_succ, List.getElem_cons_zero, List.setIfInBounds_toArray, List.set_cons_zero, List.set_cons_succ]
  refine Script.load (i := 5) (v := ?_) rfl (by kernel_rfl) (by kernel_rfl) (fun _ _ _ h => h) (by kernel_rfl) ?_ ?_
  rotate_left
  · (intro wS hSw; have hSb := After.trans (After.drew (After.refl _)) hSw; have hl := own_below HL3.out hSb; obtain ⟨c0, c1, c2, -, -, -⟩ := row_facts (closed_row _ _ _ _ HQ3.out hSb); go_simp; try with_reducible rfl)
  try simp only [Act.put, List.getElem_toArray, List.getElem_cons_succ, List.getElem_cons_zero, List.setIfInBounds_toArray, List.set_cons_zero, List.set_cons_succ]
  refine Script.load (i := 6) (v := ?_) rfl (by kernel_rfl) (by kernel_rfl) (fun _ _ _ h => h) (by kernel_rfl) ?_ ?_
  rotate_left
  · (intro wS hSw; have hSb := After.trans (After.drew (After.refl _)) hSw; have hl := own_below HL3.out hSb; obtain ⟨c0, c1, c2, -, -, -⟩ := row_facts (closed_row _ _ _ _ HQ3.out hSb); go_simp; try with_reducible rfl)
  try simp only [Act.put, List.getElem_toArray, List.getElem_cons_succ, List.getElem_cons_zero, List.setIfInBounds_toArray, List.set_cons_zero, List.set_cons_succ]
  refine Script.call (i := 7) (v := ?_) rfl (by kernel_rfl) (by kernel_rfl) (fun _ _ _ h => h) (by kernel_rfl) ?_ ?_
  rotate_left
  · (intro wS hSw K hK; have hSb := After.trans (After.drew (After.refl _)) hSw; have hl := own_below HL3.out hSb; obtain ⟨c0, c1, c2, -, -, -⟩ := row_facts (closed_row _ _ _ _ HQ3.out hSb); go_simp; go_at_call 7; refine (KP.out _ hl).mono ?_; rintro e wc' ⟨rfl, hbc⟩; exact hK.out _ hbc)
  try simp only [Act.put, List.getElem_toArray, List.getElem_cons_succ, List.getElem_cons_zero, List.setIfInBounds_toArray, List.set_cons_zero, List.set_cons_succ]
  refine Script.load (i := 8) (v := ?_) rfl (by kernel_rfl) (by kernel_rfl) (fun _ _ _ h => h) (by kernel_rfl) ?_ ?_
  rotate_left
  · (intro wS hSw; have hSb := After.trans (After.drew (After.refl _)) hSw; have hl := own_below HL3.out hSb; obtain ⟨c0, c1, c2, -, -, -⟩ := row_facts (closed_row _ _ _ _ HQ3.out hSb); go_simp; try with_reducible rfl)
  try simp only [Act.put, List.getElem_toArray, List.getElem_cons_succ, List.getElem_cons_zero, List.setIfInBounds_toArray, List.set_cons_zero, List.set_cons_succ]
  refine Script.load (i := 9) (v := ?_) rfl (by kernel_rfl) (by kernel_rfl) (fun _ _ _ h => h) (by kernel_rfl) ?_ ?_
  rotate_left
  · (intro wS hSw; have hSb := After.trans (After.drew (After.refl _)) hSw; have hl := own_below HL3.out hSb; obtain ⟨c0, c1, c2, -, -, -⟩ := row_facts (closed_row _ _ _ _ HQ3.out hSb); go_simp; try with_reducible rfl)
  try simp only [Act.put, List.getElem_toArray, List.getElem_cons_succ, List.getElem_cons_zero, List.setIfInBounds_toArray, List.set_cons_zero, List.set_cons_succ]
  refine Script.load (i := 10) (v := ?_) rfl (by kernel_rfl) (by kernel_rfl) (fun _ _ _ h => h) (by kernel_rfl) ?_ ?_
  rotate_left
  · (intro wS hSw; have hSb := After.trans (After.drew (After.refl _)) hSw; have hl := own_below HL3.out hSb; obtain ⟨c0, c1, c2, -, -, -⟩ := row_facts (closed_row _ _ _ _ HQ3.out hSb); go_simp; try with_reducible rfl)
  try simp only [Act.put, List.getElem_toArray, List.getElem_cons_succ, List.getElem_cons_zero, List.setIfInBounds_toArray, List.set_cons_zero, List.set_cons_succ]
  refine Script.call (i := 11) (v := ?_) rfl (by kernel_rfl) (by kernel_rfl) (fun _ _ _ h => h) (by kernel_rfl) ?_ ?_
  rotate_left
  · (intro wS hSw K hK; have hSb := After.trans (After.drew (After.refl _)) hSw; have hl := own_below HL3.out hSb; obtain ⟨c0, c1, c2, -, -, -⟩ := row_facts (closed_row _ _ _ _ HQ3.out hSb); go_simp; go_at_call 8; refine (CC.out _).mono ?_; rintro e wc' ⟨rfl, hbc⟩; exact hK.out _ hbc)
  try simp only [Act.put, List.getElem_toArray, List.getElem_cons_succ, List.getElem_cons_zero, List.setIfInBounds_toArray, List.set_cons_zero, List.set_cons_succ]
  refine Script.load (i := 12) (v := ?_) rfl (by kernel_rfl) (by kernel_rfl) (fun _ _ _ h => h) (by kernel_rfl) ?_ ?_
  rotate_left
  · (intro wS hSw; have hSb := After.trans (After.drew (After.refl _)) hSw; have hl := own_below HL3.out hSb; obtain ⟨c0, c1, c2, -, -, -⟩ := row_facts (closed_row _ _ _ _ HQ3.out hSb); go_simp; try with_reducible rfl)
  try simp only [Act.put, List.getElem_toArray, List.getElem_cons_succ, List.getElem_cons_zero, List.setIfInBounds_toArray, List.set_cons_zero, List.set_cons_succ]
  refine Script.load (i := 13) (v := ?_) rfl (by kernel_rfl) (by kernel_rfl) (fun _ _ _ h => h) (by kernel_rfl) ?_ ?_
  rotate_left
  · (intro wS hSw; have hSb := After.trans (After.drew (After.refl _)) hSw; have hl := own_below HL3.out hSb; obtain ⟨c0, c1, c2, -, -, -⟩ := row_facts (closed_row _ _ _ _ HQ3.out hSb); go_simp; try with_reducible rfl)
  try simp only [Act.put, List.getElem_toArray, List.getElem_cons_succ, List.getElem_cons_zero, List.setIfInBounds_toArray, List.set_cons_zero, List.set_cons_succ]
  refine Script.load (i := 14) (v := ?_) rfl (by kernel_rfl) (by kernel_rfl) (fun _ _ _ h => h) (by kernel_rfl) ?_ ?_
  rotate_left
  · (intro wS hSw; have hSb := After.trans (After.drew (After.refl _)) hSw; have hl := own_below HL3.out hSb; obtain ⟨c0, c1, c2, -, -, -⟩ := row_facts (closed_row _ _ _ _ HQ3.out hSb); go_simp; try with_reducible rfl)
  try simp only [Act.put, List.getElem_toArray, List.getElem_cons_succ, List.getElem_cons_zero, List.setIfInBounds_toArray, List.set_cons_zero, List.set_cons_succ]
  refine Script.load (i := 15) (v := ?_) rfl (by kernel_rfl) (by kernel_rfl) (fun _ _ _ h => h) (by kernel_rfl) ?_ ?_
  rotate_left
  · (intro wS hSw; have hSb := After.trans (After.drew (After.refl _)) hSw; have hl := own_below HL3.out hSb; obtain ⟨c0, c1, c2, -, -, -⟩ := row_facts (closed_row _ _ _ _ HQ3.out hSb); go_simp; try with_reducible rfl)
  try simp only [Act.put, List.getElem_toArray, List.getElem_cons_succ, List.getElem_cons_zero, List.setIfInBounds_toArray, List.set_cons_zero, List.set_cons_succ]
  refine Script.load (i := 16) (v := ?_) rfl (by kernel_rfl) (by kernel_rfl) (fun _ _ _ h => h) (by kernel_rfl) ?_ ?_
  rotate_left
  · (intro wS hSw; have hSb := After.trans (After.drew (After.refl _)) hSw; have hl := own_below HL3.out hSb; obtain ⟨c0, c1, c2, -, -, -⟩ := row_facts (closed_row _ _ _ _ HQ3.out hSb); go_simp; try with_reducible rfl)
  try simp only [Act.put, List.getElem_toArray, List.getElem_cons_succ, List.getElem_cons_zero, List.setIfInBounds_toArray, List.set_cons_zero, List.set_cons_succ]
  refine Script.call (i := 17) (v := ?_) rfl (by kernel_rfl) (by kernel_rfl) (fun _ _ _ h => h) (by kernel_rfl) ?_ ?_
  rotate_left
  · (intro wS hSw K hK; have hSb := After.trans (After.drew (After.refl _)) hSw; have hl := own_below HL3.out hSb; obtain ⟨c0, c1, c2, -, -, -⟩ := row_facts (closed_row _ _ _ _ HQ3.out hSb); go_simp; go_at_call 9; refine (CN.out _).mono ?_; rintro e wc' ⟨rfl, hbc⟩; exact hK.out _ hbc)
  try simp only [Act.put, List.getElem_toArray, List.getElem_cons_succ, List.getElem_cons_zero, List.setIfInBounds_toArray, List.set_cons_zero, List.set_cons_succ]
  refine Script.load (i := 18) (v := ?_) rfl (by kernel_rfl) (by kernel_rfl) (fun _ _ _ h => h) (by kernel_rfl) ?_ ?_
  rotate_left
  · (intro wS hSw; have hSb := After.trans (After.drew (After.refl _)) hSw; have hl := own_below HL3.out hSb; obtain ⟨c0, c1, c2, -, -, -⟩ := row_facts (closed_row _ _ _ _ HQ3.out hSb); go_simp; try with_reducible rfl)
  try simp only [Act.put, List.getElem_toArray, List.getElem_cons_succ, List.getElem_cons_zero, List.setIfInBounds_toArray, List.set_cons_zero, List.set_cons_succ]
  refine Script.load (i := 19) (v := ?_) rfl (by kernel_rfl) (by kernel_rfl) (fun _ _ _ h => h) (by kernel_rfl) ?_ ?_
  rotate_left
  · (intro wS hSw; have hSb := After.trans (After.drew (After.refl _)) hSw; have hl := own_below HL3.out hSb; obtain ⟨c0, c1, c2, -, -, -⟩ := row_facts (closed_row _ _ _ _ HQ3.out hSb); go_simp; try with_reducible rfl)
  try simp only [Act.put, List.getElem_toArray, List.getElem_cons_succ, List.getElem_cons_zero, List.setIfInBounds_toArray, List.set_cons_zero, List.set_cons_succ]
  refine Script.load (i := 20) (v := ?_) rfl (by kernel_rfl) (by kernel_rfl) (fun _ _ _ h => h) (by kernel_rfl) ?_ ?_
  rotate_left
  · (intro wS hSw; have hSb := After.trans (After.drew (After.refl _)) hSw; have hl := own_below HL3.out hSb; obtain ⟨c0, c1, c2, -, -, -⟩ := row_facts (closed_row _ _ _ _ HQ3.out hSb); go_simp; try with_reducible rfl)
  try simp only [Act.put, List.getElem_toArray, List.getElem_cons_succ, List.getElem_cons_zero, List.setIfInBounds_toArray, List.set_cons_zero, List.set_cons_succ]
  refine Script.load (i := 21) (v := ?_) rfl (by kernel_rfl) (by kernel_rfl) (fun _ _ _ h => h) (by kernel_rfl) ?_ ?_
  rotate_left
  · (intro wS hSw; have hSb := After.trans (After.drew (After.refl _)) hSw; have hl := own_below HL3.out hSb; obtain ⟨c0, c1, c2, -, -, -⟩ := row_facts (closed_row _ _ _ _ HQ3.out hSb); go_simp; try with_reducible rfl)
  try simp only [Act.put, List.getElem_toArray, List.getElem_cons_succ, List.getElem_cons_zero, List.setIfInBounds_toArray, List.set_cons_zero, List.set_cons_succ]
  refine Script.done (by kernel_rfl) ?_
  intro wD hD hG
  have HSb := Lib.hid (After.trans (After.drew (After.refl _)) hD)
  clear hD hG KG KP CC CN
  have HL4 := Lib.hid (own_below HL3.out HSb.out)
  have HQ4 := Lib.hid (closed_row _ _ _ _ HQ3.out HSb.out)
  have HB4 := Lib.hid (HB3.out.trans (HSb.out.mono HB3.out.size))
  clear HQ3 HB3 HL3 HSb
  obtain ⟨c0, c1, c2, -, -, -⟩ := row_facts HQ4.out
  go_wp2_with fail
  clear c0 c1 c2
  refine (CS.out _).mono ?_
  rintro e w5 ⟨v, rfl, hh, hb⟩
  rw [HM.out] at hh
  obtain ⟨sa, sc, rfl⟩ := one_form hh
  have HT5 := Lib.hid hh
  have HL5 := Lib.hid (own_below HL4.out hb)
  have HQ5 := Lib.hid (closed_row _ _ _ _ HQ4.out hb)
  have HB5 := Lib.hid (HB4.out.trans (hb.mono HB4.out.size))
  clear hh hb HQ4 HB4 HL4 CS
  obtain ⟨c0, c1, c2, -, -, -⟩ := row_facts HQ5.out
  go_wp2_with fail
  clear c0 c1 c2
  refine (CH.out _).mono ?_
  rintro e w6 ⟨v, rfl, hh, hb⟩
  rw [HK.out] at hh
  obtain ⟨ha, hc, rfl⟩ := one_form hh
  have HS6 : Hid (QSt w q a b z w2.heap.size wD.heap.size w5.heap.size la n lc l sa m sc s ha k hc h w6) := ⟨closed_row _ _ _ _ HQ5.out hb, own_below HL5.out hb, own_below HT5.out hb, hh, HB5.out.trans (hb.mono HB5.out.size)⟩
  clear hh hb HQ5 HB5 HL5 HT5 CH
  generalize w2.heap.size = B1 at *
  generalize wD.heap.size = B2 at *
  generalize w5.heap.size = B3 at *
  go_wp2_with fail
  go_loopw [9] (fun i wr => ∃ j : Nat, j ≤ k ∧ i = .int .i64 j ∧ Hid (QSt w q a b z B1 B2 B3 la n lc l sa m sc s ha k hc h wr)) (fun i _ => k - (intOf i).toNat)
  case atStart => exact ⟨0, Nat.zero_le _, rfl, HS6⟩
  case round =>
    clear HS6
    obtain ⟨j, hj, rfl, HS⟩ := hrel
    by_cases hjk : j < k
    · have j0 : (0 : Int) ≤ (j : Int) := by omega
      have j1 : (j : Int) < (k : Int) := by omega
      obtain ⟨x, hx⟩ : ∃ x, h[j]? = some x := ⟨_, List.getElem?_eq_getElem (by rw [HK.out]; exact hjk)⟩
      obtain ⟨r, hr1, hr2⟩ := HST.out x (List.mem_of_getElem? hx)
      obtain ⟨gg, rfl, -⟩ := seq_get HS.out.h hjk hx
      have HCl : Hid (∀ w', QSt w q a b z B1 B2 B3 la n lc l sa m sc s (some ⟨gg, 0, none⟩) k hc h w' → w'.cell? ⟨gg, j, none⟩ = some (.int .i64 (x : Int))) := fun w' h' => by
        obtain ⟨g', e, h''⟩ := seq_get h'.h hjk hx
        cases e; exact h''
      have CX : Hid (∀ w', Calls Tryz.prog 12 #[.agg #[.int .i64 (a : Int), .int .i64 (b : Int), .int .i64 (z : Int)], .int .i64 (x : Int)] w' (QI (r : Int) w')) := fun w' => by have := CBut.out x w'; rwa [hr1] at this
      obtain ⟨bb, hbb0⟩ : ∃ bb, decide (x ∈ s) = bb := ⟨_, rfl⟩
      have hbb1 : decide (r ∈ l) = bb := by rw [← hbb0]; exact decide_eq_decide.2 hr2.symm
      have K1 : Hid (∀ w', QSt w q a b z B1 B2 B3 la n lc l sa m sc s (some ⟨gg, 0, none⟩) k hc h w' → Calls Tryz.prog 7 #[.slice sa m sc, .int .i64 (x : Int)] w' (QB bb w')) := fun w' h' => by rw [← hbb0]; exact hasAny w' HM.out h'.s (by omega)
      have K2 : Hid (∀ w', QSt w q a b z B1 B2 B3 la n lc l sa m sc s (some ⟨gg, 0, none⟩) k hc h w' → Calls Tryz.prog 7 #[.slice la n lc, .int .i64 (r : Int)] w' (QB bb w')) := fun w' h' => by rw [← hbb1]; exact hasAny w' HN.out h'.l (by omega)
      clear hx hr1 hr2 hbb0 hbb1
      have hbb : (bb != bb) = false := by cases bb <;> rfl
      go_wp2_with fail
      refine wp_region_script (by kernel_rfl) (by kernel_rfl) ?_
      refine Script.load (i := 0) (v := ?_) rfl (by kernel_rfl) (by kernel_rfl) (fun _ _ _ h => h) (by kernel_rfl) ?_ ?_
      rotate_left
      · (intro wS hSw; have hS := HS.out.later (After.trans (After.drew (After.refl _)) hSw); obtain ⟨c0, c1, c2, -, -, -⟩ := row_facts hS.board; have hcl := HCl.out wS hS; go_simp; try with_reducible rfl)
      try simp only [Act.put, List.getElem_toArray, List.getElem_cons_succ, List.getElem_cons_zero, List.setIfInBounds_toArray, List.set_cons_zero, List.set_cons_succ]
      refine Script.load (i := 1) (v := ?_) rfl (by kernel_rfl) (by kernel_rfl) (fun _ _ _ h => h) (by kernel_rfl) ?_ ?_
      rotate_left
      · (intro wS hSw; have hS := HS.out.later (After.trans (After.drew (After.refl _)) hSw); obtain ⟨c0, c1, c2, -, -, -⟩ := row_facts hS.board; have hcl := HCl.out wS hS; go_simp; try with_reducible rfl)
      try simp only [Act.put, List.getElem_toArray, List.getElem_cons_succ, List.getElem_cons_zero, List.setIfInBounds_toArray, List.set_cons_zero, List.set_cons_succ]
      refine Script.load (i := 2) (v := ?_) rfl (by kernel_rfl) (by kernel_rfl) (fun _ _ _ h => h) (by kernel_rfl) ?_ ?_
      rotate_left
      · (intro wS hSw; have hS := HS.out.later (After.trans (After.drew (After.refl _)) hSw); obtain ⟨c0, c1, c2, -, -, -⟩ := row_facts hS.board; have hcl := HCl.out wS hS; go_simp; try with_reducible rfl)
      try simp only [Act.put, List.getElem_toArray, List.getElem_cons_succ, List.getElem_cons_zero, List.setIfInBounds_toArray, List.set_cons_zero, List.set_cons_succ]
      refine Script.load (i := 3) (v := ?_) rfl (by kernel_rfl) (by kernel_rfl) (fun _ _ _ h => h) (by kernel_rfl) ?_ ?_
      rotate_left
      · (intro wS hSw; have hS := HS.out.later (After.trans (After.drew (After.refl _)) hSw); obtain ⟨c0, c1, c2, -, -, -⟩ := row_facts hS.board; have hcl := HCl.out wS hS; go_simp; try with_reducible rfl)
      try simp only [Act.put, List.getElem_toArray, List.getElem_cons_succ, List.getElem_cons_zero, List.setIfInBounds_toArray, List.set_cons_zero, List.set_cons_succ]
      refine Script.load (i := 4) (v := ?_) rfl (by kernel_rfl) (by kernel_rfl) (fun _ _ _ h => h) (by kernel_rfl) ?_ ?_
      rotate_left
      · (intro wS hSw; have hS := HS.out.later (After.trans (After.drew (After.refl _)) hSw); obtain ⟨c0, c1, c2, -, -, -⟩ := row_facts hS.board; have hcl := HCl.out wS hS; go_simp; try with_reducible rfl)
      try simp only [Act.put, List.getElem_toArray, List.getElem_cons_succ, List.getElem_cons_zero, List.setIfInBounds_toArray, List.set_cons_zero, List.set_cons_succ]
      refine Script.call (i := 5) (v := ?_) rfl (by kernel_rfl) (by kernel_rfl) (fun _ _ _ h => h) (by kernel_rfl) ?_ ?_
      rotate_left
      · (intro wS hSw K hK; have hS := HS.out.later (After.trans (After.drew (After.refl _)) hSw); obtain ⟨c0, c1, c2, -, -, -⟩ := row_facts hS.board; have hcl := HCl.out wS hS; go_simp; go_at_call 7; refine (K1.out _ hS).mono ?_; rintro e wc' ⟨rfl, hbc⟩; exact hK.out _ hbc)
      try simp only [Act.put, List.getElem_toArray, List.getElem_cons_succ, List.getElem_cons_zero, List.setIfInBounds_toArray, List.set_cons_zero, List.set_cons_succ]
      refine Script.load (i := 6) (v := ?_) rfl (by kernel_rfl) (by kernel_rfl) (fun _ _ _ h => h) (by kernel_rfl) ?_ ?_
      rotate_left
      · (intro wS hSw; have hS := HS.out.later (After.trans (After.drew (After.refl _)) hSw); obtain ⟨c0, c1, c2, -, -, -⟩ := row_facts hS.board; have hcl := HCl.out wS hS; go_simp; try with_reducible rfl)
      try simp only [Act.put, List.getElem_toArray, List.getElem_cons_succ, List.getElem_cons_zero, List.setIfInBounds_toArray, List.set_cons_zero, List.set_cons_succ]
      refine Script.load (i := 7) (v := ?_) rfl (by kernel_rfl) (by kernel_rfl) (fun _ _ _ h => h) (by kernel_rfl) ?_ ?_
      rotate_left
      · (intro wS hSw; have hS := HS.out.later (After.trans (After.drew (After.refl _)) hSw); obtain ⟨c0, c1, c2, -, -, -⟩ := row_facts hS.board; have hcl := HCl.out wS hS; go_simp; try with_reducible rfl)
      try simp only [Act.put, List.getElem_toArray, List.getElem_cons_succ, List.getElem_cons_zero, List.setIfInBounds_toArray, List.set_cons_zero, List.set_cons_succ]
      refine Script.load (i := 8) (v := ?_) rfl (by kernel_rfl) (by kernel_rfl) (fun _ _ _ h => h) (by kernel_rfl) ?_ ?_
      rotate_left
      · (intro wS hSw; have hS := HS.out.later (After.trans (After.drew (After.refl _)) hSw); obtain ⟨c0, c1, c2, -, -, -⟩ := row_facts hS.board; have hcl := HCl.out wS hS; go_simp; try with_reducible rfl)
      try simp only [Act.put, List.getElem_toArray, List.getElem_cons_succ, List.getElem_cons_zero, List.setIfInBounds_toArray, List.set_cons_zero, List.set_cons_succ]
      refine Script.load (i := 9) (v := ?_) rfl (by kernel_rfl) (by kernel_rfl) (fun _ _ _ h => h) (by kernel_rfl) ?_ ?_
      rotate_left
      · (intro wS hSw; have hS := HS.out.later (After.trans (After.drew (After.refl _)) hSw); obtain ⟨c0, c1, c2, -, -, -⟩ := row_facts hS.board; have hcl := HCl.out wS hS; go_simp; try with_reducible rfl)
      try simp only [Act.put, List.getElem_toArray, List.getElem_cons_succ, List.getElem_cons_zero, List.setIfInBounds_toArray, List.set_cons_zero, List.set_cons_succ]
      refine Script.load (i := 10) (v := ?_) rfl (by kernel_rfl) (by kernel_rfl) (fun _ _ _ h => h) (by kernel_rfl) ?_ ?_
      rotate_left
      · (intro wS hSw; have hS := HS.out.later (After.trans (After.drew (After.refl _)) hSw); obtain ⟨c0, c1, c2, -, -, -⟩ := row_facts hS.board; have hcl := HCl.out wS hS; go_simp; try with_reducible rfl)
      try simp only [Act.put, List.getElem_toArray, List.getElem_cons_succ, List.getElem_cons_zero, List.setIfInBounds_toArray, List.set_cons_zero, List.set_cons_succ]
      refine Script.load (i := 11) (v := ?_) rfl (by kernel_rfl) (by kernel_rfl) (fun _ _ _ h => h) (by kernel_rfl) ?_ ?_
      rotate_left
      · (intro wS hSw; have hS := HS.out.later (After.trans (After.drew (After.refl _)) hSw); obtain ⟨c0, c1, c2, -, -, -⟩ := row_facts hS.board; have hcl := HCl.out wS hS; go_simp; try with_reducible rfl)
      try simp only [Act.put, List.getElem_toArray, List.getElem_cons_succ, List.getElem_cons_zero, List.setIfInBounds_toArray, List.set_cons_zero, List.set_cons_succ]
      refine Script.call (i := 12) (v := ?_) rfl (by kernel_rfl) (by kernel_rfl) (fun _ _ _ h => h) (by kernel_rfl) ?_ ?_
      rotate_left
      · (intro wS hSw K hK; have hS := HS.out.later (After.trans (After.drew (After.refl _)) hSw); obtain ⟨c0, c1, c2, -, -, -⟩ := row_facts hS.board; have hcl := HCl.out wS hS; go_simp; go_at_call 12; refine (CX.out _).mono ?_; rintro e wc' ⟨rfl, hbc⟩; exact hK.out _ hbc)
      try simp only [Act.put, List.getElem_toArray, List.getElem_cons_succ, List.getElem_cons_zero, List.setIfInBounds_toArray, List.set_cons_zero, List.set_cons_succ]
      refine Script.call (i := 13) (v := ?_) rfl (by kernel_rfl) (by kernel_rfl) (fun _ _ _ h => h) (by kernel_rfl) ?_ ?_
      rotate_left
      · (intro wS hSw K hK; have hS := HS.out.later (After.trans (After.drew (After.refl _)) hSw); obtain ⟨c0, c1, c2, -, -, -⟩ := row_facts hS.board; have hcl := HCl.out wS hS; go_simp; go_at_call 7; refine (K2.out _ hS).mono ?_; rintro e wc' ⟨rfl, hbc⟩; exact hK.out _ hbc)
      try simp only [Act.put, List.getElem_toArray, List.getElem_cons_succ, List.getElem_cons_zero, List.setIfInBounds_toArray, List.set_cons_zero, List.set_cons_succ]
      refine Script.load (i := 14) (v := ?_) rfl (by kernel_rfl) (by kernel_rfl) (fun _ _ _ h => h) (by kernel_rfl) ?_ ?_
      rotate_left
      · (intro wS hSw; have hS := HS.out.later (After.trans (After.drew (After.refl _)) hSw); obtain ⟨c0, c1, c2, -, -, -⟩ := row_facts hS.board; have hcl := HCl.out wS hS; go_simp; try with_reducible rfl)
      try simp only [Act.put, List.getElem_toArray, List.getElem_cons_succ, List.getElem_cons_zero, List.setIfInBounds_toArray, List.set_cons_zero, List.set_cons_succ]
      refine Script.done (by kernel_rfl) ?_
      intro wD hD hG
      have HS2 := Lib.hid (HS.out.later (After.trans (After.drew (After.refl _)) hD))
      clear hD hG HS HCl CX K1 K2
      go_wp2_with fail
      go_roundw
      case rel => exact ⟨j + 1, by omega, by go_num, HS2⟩
      case measure => simp [intOf]; omega
    · have j1 : ¬ (j : Int) < (k : Int) := by omega
      have HB7 := Lib.hid HS.out.below
      have HC7 := Lib.hid (HCO.out.below HB7.out)
      clear HS HST CBut
      go_wp2_with fail
      refine (drawSolv _ HC7.out).mono ?_
      rintro e w8 ⟨W, H, Z, rfl, hb⟩
      have HB8 := Lib.hid (HB7.out.trans (hb.mono HB7.out.size))
      clear hb HB7 HC7
      have HQ9 : Hid ((w8.alloc (.cells #[.int .i64 W, .int .i64 H, .int .i64 Z] 25)).heap[w8.heap.size]? = some (.cells #[.int .i64 W, .int .i64 H, .int .i64 Z] 25 (0, 0))) := heap_alloc_new w8 _
      have HB9 : Hid (Below w.heap.size w (w8.alloc (.cells #[.int .i64 W, .int .i64 H, .int .i64 Z] 25))) := HB8.out.alloc HB8.out.size _
      have CCt := Lib.hid (fun w => specCountR W H Z w)
      have CSm := Lib.hid (fun w => specSmall W H Z w)
      have hh49' := holesR_len W H Z
      obtain ⟨t, ht⟩ : ∃ t, (holesR W H Z).length = t := ⟨_, rfl⟩
      rw [ht] at CCt hh49'
      obtain ⟨c0, c1, c2, -, -, -⟩ := row_facts HQ9.out
      go_wp2_with fail
      clear c0 c1 c2
      generalize w8.alloc (.cells #[.int .i64 W, .int .i64 H, .int .i64 Z] 25) = w9 at *
      generalize w8.heap.size = q2 at *
      refine (CCt.out _).mono ?_
      rintro e w10 ⟨rfl, hb⟩
      have HQ10 := Lib.hid (closed_row _ _ _ _ HQ9.out hb)
      have HB10 := Lib.hid (HB9.out.trans (hb.mono HB9.out.size))
      clear hb HQ9 HB9 HB8
      by_cases h9 : 9 < t
      · have h9' : (9 : Int) < (t : Int) := by omega
        go_wp2_with fail
        go_ret
        exact ⟨rfl, HB10.out⟩
      · have h9' : ¬ (9 : Int) < (t : Int) := by omega
        obtain ⟨c0, c1, c2, -, -, -⟩ := row_facts HQ10.out
        go_wp2_with fail
        clear c0 c1 c2
        refine (CSm.out _).mono ?_
        rintro e w11 ⟨rfl, hb⟩
        have HQ11 := Lib.hid (closed_row _ _ _ _ HQ10.out hb)
        have HB11 := Lib.hid (HB10.out.trans (hb.mono HB10.out.size))
        clear hb HQ10 HB10 CSm CCt
        cases hsm : smallB W H Z
        · go_wp2_with fail
          go_ret
          exact ⟨rfl, HB11.out⟩
        · obtain ⟨a', b', N', z', S'⟩ := zero_small hsm
          have hone := S'.none
          have CP := Lib.hid (fun w => implPairs W H Z w)
          have CV := Lib.hid (fun w => implSolv W H Z w)
          have CN := Lib.hid (fun w => implCountBack W H Z 0 (by decide) w)
          rw [hone] at CN
          have hsome := pair_some (W := W) (H := H) (Z := Z) (by omega)
          have hfa : ∀ xs ∈ pairL W H Z, ∃ k m : Nat, xs = [(k : Int), (m : Int)] ∧ k ∈ solvL W H Z ∧ [(m : Int), (k : Int)] ∈ pairL W H Z := fun xs hx => pair_facts hx
          have hp144 := pair_le W H Z
          have hs49' : (solvL W H Z).length ≤ 49 := by have := solv_leI W H Z; rwa [natsI_len] at this
          clear hone S' hsm ht
          generalize pairL W H Z = xss at *
          generalize solvL W H Z = v at *
          obtain ⟨n', hn'⟩ : ∃ n', xss.length = n' := ⟨_, rfl⟩
          obtain ⟨m', hm'⟩ : ∃ m', v.length = m' := ⟨_, rfl⟩
          rw [← List.length_eq_zero_iff, ← List.length_eq_zero_iff, hn', hm'] at hsome
          rw [hn'] at hp144
          rw [hm'] at hs49'
          have HN' := Lib.hid hn'
          have HM' := Lib.hid hm'
          have HFa := Lib.hid hfa
          clear hfa hn' hm' HN HM HK HGo hh49' hh49 hs49 hl65
          obtain ⟨c0, c1, c2, -, -, -⟩ := row_facts HQ11.out
          go_wp2_with fail
          clear c0 c1 c2
          refine (CP.out _).mono ?_
          rintro e w12 ⟨v0, n0, vs0, rfl, o0, hb⟩
          obtain rfl : n0 = n' := o0.len.symm.trans HN'.out
          obtain ⟨pa, pc, rfl⟩ := o0.form
          have HP12 := Lib.hid o0
          have HQ12 := Lib.hid (closed_row _ _ _ _ HQ11.out hb)
          have HB12 := Lib.hid (HB11.out.trans (hb.mono HB11.out.size))
          clear hb o0 HQ11 HB11 CP
          obtain ⟨c0, c1, c2, -, -, -⟩ := row_facts HQ12.out
          go_wp2_with fail
          clear c0 c1 c2
          refine (CV.out _).mono ?_
          rintro e w13 ⟨v1, rfl, hh, hb⟩
          rw [HM'.out] at hh
          obtain ⟨va, vc, rfl⟩ := one_form hh
          have HS13 : Hid (PSt w q2 W H Z w11.heap.size w12.heap.size w12.heap.size pa n0 pc vs0 xss va m' vc v w13) := ⟨closed_row _ _ _ _ HQ12.out hb, HP12.out.later hb, hh, HB12.out.trans (hb.mono HB12.out.size)⟩
          clear hh hb HQ12 HB12 HP12 CV
          generalize w11.heap.size = B1' at *
          generalize w12.heap.size = B2' at *
          go_wp2_with fail
          clear h9 h9'
          go_loopw [13] (fun i wr => ∃ j : Nat, j ≤ n0 ∧ i = .int .i64 j ∧ Hid (PSt w q2 W H Z B1' B2' B2' pa n0 pc vs0 xss va m' vc v wr)) (fun i _ => n0 - (intOf i).toNat)
          case atStart => exact ⟨0, Nat.zero_le _, rfl, HS13⟩
          case round =>
            clear HS13
            obtain ⟨j, hj, rfl, HS⟩ := hrel
            by_cases hjn : j < n0
            · have j0 : (0 : Int) ≤ (j : Int) := by omega
              have j1 : (j : Int) < (n0 : Int) := by omega
              clear CN hsome
              obtain ⟨xs, hx⟩ : ∃ xs, xss[j]? = some xs := ⟨_, List.getElem?_eq_getElem (by rw [HN'.out]; exact hjn)⟩
              obtain ⟨x, y, rfl, hxv, hyx⟩ := HFa.out xs (List.mem_of_getElem? hx)
              obtain ⟨jj, hjj⟩ := List.mem_iff_getElem?.1 hyx
              have hjjn : jj < n0 := by rw [← HN'.out]; exact (List.getElem?_eq_some_iff.1 hjj).1
              obtain ⟨gp, cp, e⟩ := HS.out.p.block (by omega)
              injection e with e1 e2 e3
              subst e1 e3
              obtain ⟨gj, cj, hcl⟩ := nest_get HS.out.p hx
              have HCl := Lib.hid hcl
              have KV : Hid (∀ w', PSt w q2 W H Z B1' B2' B2' (some ⟨gp, 0, none⟩) n0 pc vs0 xss va m' vc v w' → Calls Tryz.prog 7 #[.slice va m' vc, .int .i64 (x : Int)] w' (QB true w')) := fun w' h' => hasIn w' HM'.out h'.s hxv (by omega)
              have HJJ := Lib.hid hjj
              obtain ⟨k0, k1, k2⟩ := hcl _ HS.out.p
              clear hx hxv hyx hjj hcl
              go_wp2_with fail
              refine (KV.out _ HS.out).mono ?_
              rintro e w14 ⟨rfl, hb⟩
              have HS14 := Lib.hid (HS.out.later hb)
              clear hb HS KV k0 k1 k2
              go_wp2_with fail
              go_loopw [14, 15] (fun u i wr => ∃ (d : Bool) (r : Nat), r ≤ n0 ∧ i = .int .i64 r ∧ u = .bool d ∧ Hid (jj < r → d = true) ∧ Hid (PSt w q2 W H Z B1' B2' B2' (some ⟨gp, 0, none⟩) n0 pc vs0 xss va m' vc v wr)) (fun _ i _ => n0 - (intOf i).toNat)
              case atStart => exact ⟨false, 0, Nat.zero_le _, rfl, rfl, fun h => absurd h (Nat.not_lt_zero _), HS14⟩
              case round =>
                clear HS14
                obtain ⟨d, r, hr, rfl, rfl, HD, HS⟩ := hrel
                by_cases hrn : r < n0
                · have r0 : (0 : Int) ≤ (r : Int) := by omega
                  have r1 : (r : Int) < (n0 : Int) := by omega
                  obtain ⟨xs, hx⟩ : ∃ xs, xss[r]? = some xs := ⟨_, List.getElem?_eq_getElem (by rw [HN'.out]; exact hrn)⟩
                  obtain ⟨x', y', rfl, -, -⟩ := HFa.out xs (List.mem_of_getElem? hx)
                  obtain ⟨gr, cr, hcr⟩ := nest_get HS.out.p hx
                  have HCr := Lib.hid hcr
                  have HE : Hid (r = jj → x' = y ∧ y' = x) := fun e => by
                    subst e
                    rw [HJJ.out] at hx
                    injection hx with hx
                    injection hx with e1 e2
                    injection e2 with e2
                    exact ⟨by omega, by omega⟩
                  clear hx hcr
                  obtain ⟨bb, hbb⟩ : ∃ bb, ((y' : Int) == (x : Int)) = bb := ⟨_, rfl⟩
                  have HBb := Lib.hid hbb
                  go_wp2_with fail
                  cases d
                  · by_cases hxy : x' = y
                    · have hxy' : ((x' : Int) == (y : Int)) = true := by simp [hxy]
                      refine wp_region_script (by kernel_rfl) (by kernel_rfl) ?_
                      refine Script.load (i := 0) (v := ?_) rfl (by kernel_rfl) (by kernel_rfl) (fun _ _ _ h => h) (by kernel_rfl) ?_ ?_
                      rotate_left
                      · (intro wS hSw; have hS := HS.out.later (After.trans (After.drew (After.refl _)) hSw); obtain ⟨k0, k1, k2⟩ := HCl.out wS hS.p; obtain ⟨m0, m1, m2⟩ := HCr.out wS hS.p; go_simp; try with_reducible rfl)
                      try simp only [Act.put, List.getElem_toArray, List.getElem_cons_succ, List.getElem_cons_zero, List.setIfInBounds_toArray, List.set_cons_zero, List.set_cons_succ]
                      refine Script.load (i := 1) (v := ?_) rfl (by kernel_rfl) (by kernel_rfl) (fun _ _ _ h => h) (by kernel_rfl) ?_ ?_
                      rotate_left
                      · (intro wS hSw; have hS := HS.out.later (After.trans (After.drew (After.refl _)) hSw); obtain ⟨k0, k1, k2⟩ := HCl.out wS hS.p; obtain ⟨m0, m1, m2⟩ := HCr.out wS hS.p; go_simp; try with_reducible rfl)
                      try simp only [Act.put, List.getElem_toArray, List.getElem_cons_succ, List.getElem_cons_zero, List.setIfInBounds_toArray, List.set_cons_zero, List.set_cons_succ]
                      refine Script.load (i := 2) (v := ?_) rfl (by kernel_rfl) (by kernel_rfl) (fun _ _ _ h => h) (by kernel_rfl) ?_ ?_
                      rotate_left
                      · (intro wS hSw; have hS := HS.out.later (After.trans (After.drew (After.refl _)) hSw); obtain ⟨k0, k1, k2⟩ := HCl.out wS hS.p; obtain ⟨m0, m1, m2⟩ := HCr.out wS hS.p; go_simp; try with_reducible rfl)
                      try simp only [Act.put, List.getElem_toArray, List.getElem_cons_succ, List.getElem_cons_zero, List.setIfInBounds_toArray, List.set_cons_zero, List.set_cons_succ]
                      refine Script.load (i := 3) (v := ?_) rfl (by kernel_rfl) (by kernel_rfl) (fun _ _ _ h => h) (by kernel_rfl) ?_ ?_
                      rotate_left
                      · (intro wS hSw; have hS := HS.out.later (After.trans (After.drew (After.refl _)) hSw); obtain ⟨k0, k1, k2⟩ := HCl.out wS hS.p; obtain ⟨m0, m1, m2⟩ := HCr.out wS hS.p; go_simp; try with_reducible rfl)
                      try simp only [Act.put, List.getElem_toArray, List.getElem_cons_succ, List.getElem_cons_zero, List.setIfInBounds_toArray, List.set_cons_zero, List.set_cons_succ]
                      refine Script.load (i := 4) (v := ?_) rfl (by kernel_rfl) (by kernel_rfl) (fun _ _ _ h => h) (by kernel_rfl) ?_ ?_
                      rotate_left
                      · (intro wS hSw; have hS := HS.out.later (After.trans (After.drew (After.refl _)) hSw); obtain ⟨k0, k1, k2⟩ := HCl.out wS hS.p; obtain ⟨m0, m1, m2⟩ := HCr.out wS hS.p; go_simp; try with_reducible rfl)
                      try simp only [Act.put, List.getElem_toArray, List.getElem_cons_succ, List.getElem_cons_zero, List.setIfInBounds_toArray, List.set_cons_zero, List.set_cons_succ]
                      refine Script.load (i := 5) (v := ?_) rfl (by kernel_rfl) (by kernel_rfl) (fun _ _ _ h => h) (by kernel_rfl) ?_ ?_
                      rotate_left
                      · (intro wS hSw; have hS := HS.out.later (After.trans (After.drew (After.refl _)) hSw); obtain ⟨k0, k1, k2⟩ := HCl.out wS hS.p; obtain ⟨m0, m1, m2⟩ := HCr.out wS hS.p; go_simp; try with_reducible rfl)
                      try simp only [Act.put, List.getElem_toArray, List.getElem_cons_succ, List.getElem_cons_zero, List.setIfInBounds_toArray, List.set_cons_zero, List.set_cons_succ]
                      refine Script.load (i := 6) (v := ?_) rfl (by kernel_rfl) (by kernel_rfl) (fun _ _ _ h => h) (by kernel_rfl) ?_ ?_
                      rotate_left
                      · (intro wS hSw; have hS := HS.out.later (After.trans (After.drew (After.refl _)) hSw); obtain ⟨k0, k1, k2⟩ := HCl.out wS hS.p; obtain ⟨m0, m1, m2⟩ := HCr.out wS hS.p; go_simp; try with_reducible rfl)
                      try simp only [Act.put, List.getElem_toArray, List.getElem_cons_succ, List.getElem_cons_zero, List.setIfInBounds_toArray, List.set_cons_zero, List.set_cons_succ]
                      refine Script.load (i := 7) (v := ?_) rfl (by kernel_rfl) (by kernel_rfl) (fun _ _ _ h => h) (by kernel_rfl) ?_ ?_
                      rotate_left
                      · (intro wS hSw; have hS := HS.out.later (After.trans (After.drew (After.refl _)) hSw); obtain ⟨k0, k1, k2⟩ := HCl.out wS hS.p; obtain ⟨m0, m1, m2⟩ := HCr.out wS hS.p; go_simp; try with_reducible rfl)
                      try simp only [Act.put, List.getElem_toArray, List.getElem_cons_succ, List.getElem_cons_zero, List.setIfInBounds_toArray, List.set_cons_zero, List.set_cons_succ]
                      refine Script.load (i := 8) (v := ?_) rfl (by kernel_rfl) (by kernel_rfl) (fun _ _ _ h => h) (by kernel_rfl) ?_ ?_
                      rotate_left
                      · (intro wS hSw; have hS := HS.out.later (After.trans (After.drew (After.refl _)) hSw); obtain ⟨k0, k1, k2⟩ := HCl.out wS hS.p; obtain ⟨m0, m1, m2⟩ := HCr.out wS hS.p; go_simp; try with_reducible rfl)
                      try simp only [Act.put, List.getElem_toArray, List.getElem_cons_succ, List.getElem_cons_zero, List.setIfInBounds_toArray, List.set_cons_zero, List.set_cons_succ]
                      refine Script.load (i := 9) (v := ?_) rfl (by kernel_rfl) (by kernel_rfl) (fun _ _ _ h => h) (by kernel_rfl) ?_ ?_
                      rotate_left
                      · (intro wS hSw; have hS := HS.out.later (After.trans (After.drew (After.refl _)) hSw); obtain ⟨k0, k1, k2⟩ := HCl.out wS hS.p; obtain ⟨m0, m1, m2⟩ := HCr.out wS hS.p; go_simp; try with_reducible rfl)
                      try simp only [Act.put, List.getElem_toArray, List.getElem_cons_succ, List.getElem_cons_zero, List.setIfInBounds_toArray, List.set_cons_zero, List.set_cons_succ]
                      refine Script.load (i := 10) (v := ?_) rfl (by kernel_rfl) (by kernel_rfl) (fun _ _ _ h => h) (by kernel_rfl) ?_ ?_
                      rotate_left
                      · (intro wS hSw; have hS := HS.out.later (After.trans (After.drew (After.refl _)) hSw); obtain ⟨k0, k1, k2⟩ := HCl.out wS hS.p; obtain ⟨m0, m1, m2⟩ := HCr.out wS hS.p; go_simp; try with_reducible rfl)
                      try simp only [Act.put, List.getElem_toArray, List.getElem_cons_succ, List.getElem_cons_zero, List.setIfInBounds_toArray, List.set_cons_zero, List.set_cons_succ]
                      refine Script.load (i := 11) (v := ?_) rfl (by kernel_rfl) (by kernel_rfl) (fun _ _ _ h => h) (by kernel_rfl) ?_ ?_
                      rotate_left
                      · (intro wS hSw; have hS := HS.out.later (After.trans (After.drew (After.refl _)) hSw); obtain ⟨k0, k1, k2⟩ := HCl.out wS hS.p; obtain ⟨m0, m1, m2⟩ := HCr.out wS hS.p; go_simp; try with_reducible rfl)
                      try simp only [Act.put, List.getElem_toArray, List.getElem_cons_succ, List.getElem_cons_zero, List.setIfInBounds_toArray, List.set_cons_zero, List.set_cons_succ]
                      refine Script.load (i := 12) (v := ?_) rfl (by kernel_rfl) (by kernel_rfl) (fun _ _ _ h => h) (by kernel_rfl) ?_ ?_
                      rotate_left
                      · (intro wS hSw; have hS := HS.out.later (After.trans (After.drew (After.refl _)) hSw); obtain ⟨k0, k1, k2⟩ := HCl.out wS hS.p; obtain ⟨m0, m1, m2⟩ := HCr.out wS hS.p; go_simp; try with_reducible rfl)
                      try simp only [Act.put, List.getElem_toArray, List.getElem_cons_succ, List.getElem_cons_zero, List.setIfInBounds_toArray, List.set_cons_zero, List.set_cons_succ]
                      refine Script.load (i := 13) (v := ?_) rfl (by kernel_rfl) (by kernel_rfl) (fun _ _ _ h => h) (by kernel_rfl) ?_ ?_
                      rotate_left
                      · (intro wS hSw; have hS := HS.out.later (After.trans (After.drew (After.refl _)) hSw); obtain ⟨k0, k1, k2⟩ := HCl.out wS hS.p; obtain ⟨m0, m1, m2⟩ := HCr.out wS hS.p; go_simp; try with_reducible rfl)
                      try simp only [Act.put, List.getElem_toArray, List.getElem_cons_succ, List.getElem_cons_zero, List.setIfInBounds_toArray, List.set_cons_zero, List.set_cons_succ]
                      refine Script.load (i := 14) (v := ?_) rfl (by kernel_rfl) (by kernel_rfl) (fun _ _ _ h => h) (by kernel_rfl) ?_ ?_
                      rotate_left
                      · (intro wS hSw; have hS := HS.out.later (After.trans (After.drew (After.refl _)) hSw); obtain ⟨k0, k1, k2⟩ := HCl.out wS hS.p; obtain ⟨m0, m1, m2⟩ := HCr.out wS hS.p; go_simp; try with_reducible rfl)
                      try simp only [Act.put, List.getElem_toArray, List.getElem_cons_succ, List.getElem_cons_zero, List.setIfInBounds_toArray, List.set_cons_zero, List.set_cons_succ]
                      refine Script.load (i := 15) (v := ?_) rfl (by kernel_rfl) (by kernel_rfl) (fun _ _ _ h => h) (by kernel_rfl) ?_ ?_
                      rotate_left
                      · (intro wS hSw; have hS := HS.out.later (After.trans (After.drew (After.refl _)) hSw); obtain ⟨k0, k1, k2⟩ := HCl.out wS hS.p; obtain ⟨m0, m1, m2⟩ := HCr.out wS hS.p; go_simp; try with_reducible rfl)
                      try simp only [Act.put, List.getElem_toArray, List.getElem_cons_succ, List.getElem_cons_zero, List.setIfInBounds_toArray, List.set_cons_zero, List.set_cons_succ]
                      refine Script.load (i := 16) (v := ?_) rfl (by kernel_rfl) (by kernel_rfl) (fun _ _ _ h => h) (by kernel_rfl) ?_ ?_
                      rotate_left
                      · (intro wS hSw; have hS := HS.out.later (After.trans (After.drew (After.refl _)) hSw); obtain ⟨k0, k1, k2⟩ := HCl.out wS hS.p; obtain ⟨m0, m1, m2⟩ := HCr.out wS hS.p; go_simp; try with_reducible rfl)
                      try simp only [Act.put, List.getElem_toArray, List.getElem_cons_succ, List.getElem_cons_zero, List.setIfInBounds_toArray, List.set_cons_zero, List.set_cons_succ]
                      refine Script.load (i := 17) (v := ?_) rfl (by kernel_rfl) (by kernel_rfl) (fun _ _ _ h => h) (by kernel_rfl) ?_ ?_
                      rotate_left
                      · (intro wS hSw; have hS := HS.out.later (After.trans (After.drew (After.refl _)) hSw); obtain ⟨k0, k1, k2⟩ := HCl.out wS hS.p; obtain ⟨m0, m1, m2⟩ := HCr.out wS hS.p; go_simp; try with_reducible rfl)
                      try simp only [Act.put, List.getElem_toArray, List.getElem_cons_succ, List.getElem_cons_zero, List.setIfInBounds_toArray, List.set_cons_zero, List.set_cons_succ]
                      refine Script.load (i := 18) (v := ?_) rfl (by kernel_rfl) (by kernel_rfl) (fun _ _ _ h => h) (by kernel_rfl) ?_ ?_
                      rotate_left
                      · (intro wS hSw; have hS := HS.out.later (After.trans (After.drew (After.refl _)) hSw); obtain ⟨k0, k1, k2⟩ := HCl.out wS hS.p; obtain ⟨m0, m1, m2⟩ := HCr.out wS hS.p; go_simp; try with_reducible rfl)
                      try simp only [Act.put, List.getElem_toArray, List.getElem_cons_succ, List.getElem_cons_zero, List.setIfInBounds_toArray, List.set_cons_zero, List.set_cons_succ]
                      refine Script.load (i := 19) (v := ?_) rfl (by kernel_rfl) (by kernel_rfl) (fun _ _ _ h => h) (by kernel_rfl) ?_ ?_
                      rotate_left
                      · (intro wS hSw; have hS := HS.out.later (After.trans (After.drew (After.refl _)) hSw); obtain ⟨k0, k1, k2⟩ := HCl.out wS hS.p; obtain ⟨m0, m1, m2⟩ := HCr.out wS hS.p; go_simp; try with_reducible rfl)
                      try simp only [Act.put, List.getElem_toArray, List.getElem_cons_succ, List.getElem_cons_zero, List.setIfInBounds_toArray, List.set_cons_zero, List.set_cons_succ]
                      refine Script.load (i := 20) (v := ?_) rfl (by kernel_rfl) (by kernel_rfl) (fun _ _ _ h => h) (by kernel_rfl) ?_ ?_
                      rotate_left
                      · (intro wS hSw; have hS := HS.out.later (After.trans (After.drew (After.refl _)) hSw); obtain ⟨k0, k1, k2⟩ := HCl.out wS hS.p; obtain ⟨m0, m1, m2⟩ := HCr.out wS hS.p; go_simp; try with_reducible rfl)
                      try simp only [Act.put, List.getElem_toArray, List.getElem_cons_succ, List.getElem_cons_zero, List.setIfInBounds_toArray, List.set_cons_zero, List.set_cons_succ]
                      refine Script.load (i := 21) (v := ?_) rfl (by kernel_rfl) (by kernel_rfl) (fun _ _ _ h => h) (by kernel_rfl) ?_ ?_
                      rotate_left
                      · (intro wS hSw; have hS := HS.out.later (After.trans (After.drew (After.refl _)) hSw); obtain ⟨k0, k1, k2⟩ := HCl.out wS hS.p; obtain ⟨m0, m1, m2⟩ := HCr.out wS hS.p; go_simp; try with_reducible rfl)
                      try simp only [Act.put, List.getElem_toArray, List.getElem_cons_succ, List.getElem_cons_zero, List.setIfInBounds_toArray, List.set_cons_zero, List.set_cons_succ]
                      refine Script.load (i := 22) (v := ?_) rfl (by kernel_rfl) (by kernel_rfl) (fun _ _ _ h => h) (by kernel_rfl) ?_ ?_
                      rotate_left
                      · (intro wS hSw; have hS := HS.out.later (After.trans (After.drew (After.refl _)) hSw); obtain ⟨k0, k1, k2⟩ := HCl.out wS hS.p; obtain ⟨m0, m1, m2⟩ := HCr.out wS hS.p; go_simp; try with_reducible rfl)
                      try simp only [Act.put, List.getElem_toArray, List.getElem_cons_succ, List.getElem_cons_zero, List.setIfInBounds_toArray, List.set_cons_zero, List.set_cons_succ]
                      refine Script.load (i := 23) (v := ?_) rfl (by kernel_rfl) (by kernel_rfl) (fun _ _ _ h => h) (by kernel_rfl) ?_ ?_
                      rotate_left
                      · (intro wS hSw; have hS := HS.out.later (After.trans (After.drew (After.refl _)) hSw); obtain ⟨k0, k1, k2⟩ := HCl.out wS hS.p; obtain ⟨m0, m1, m2⟩ := HCr.out wS hS.p; go_simp; try with_reducible rfl)
                      try simp only [Act.put, List.getElem_toArray, List.getElem_cons_succ, List.getElem_cons_zero, List.setIfInBounds_toArray, List.set_cons_zero, List.set_cons_succ]
                      refine Script.load (i := 24) (v := ?_) rfl (by kernel_rfl) (by kernel_rfl) (fun _ _ _ h => h) (by kernel_rfl) ?_ ?_
                      rotate_left
                      · (intro wS hSw; have hS := HS.out.later (After.trans (After.drew (After.refl _)) hSw); obtain ⟨k0, k1, k2⟩ := HCl.out wS hS.p; obtain ⟨m0, m1, m2⟩ := HCr.out wS hS.p; go_simp; try with_reducible rfl)
                      try simp only [Act.put, List.getElem_toArray, List.getElem_cons_succ, List.getElem_cons_zero, List.setIfInBounds_toArray, List.set_cons_zero, List.set_cons_succ]
                      refine Script.load (i := 25) (v := ?_) rfl (by kernel_rfl) (by kernel_rfl) (fun _ _ _ h => h) (by kernel_rfl) ?_ ?_
                      rotate_left
                      · (intro wS hSw; have hS := HS.out.later (After.trans (After.drew (After.refl _)) hSw); obtain ⟨k0, k1, k2⟩ := HCl.out wS hS.p; obtain ⟨m0, m1, m2⟩ := HCr.out wS hS.p; go_simp; try with_reducible rfl)
                      try simp only [Act.put, List.getElem_toArray, List.getElem_cons_succ, List.getElem_cons_zero, List.setIfInBounds_toArray, List.set_cons_zero, List.set_cons_succ]
                      refine Script.load (i := 26) (v := ?_) rfl (by kernel_rfl) (by kernel_rfl) (fun _ _ _ h => h) (by kernel_rfl) ?_ ?_
                      rotate_left
                      · (intro wS hSw; have hS := HS.out.later (After.trans (After.drew (After.refl _)) hSw); obtain ⟨k0, k1, k2⟩ := HCl.out wS hS.p; obtain ⟨m0, m1, m2⟩ := HCr.out wS hS.p; go_simp; try with_reducible rfl)
                      try simp only [Act.put, List.getElem_toArray, List.getElem_cons_succ, List.getElem_cons_zero, List.setIfInBounds_toArray, List.set_cons_zero, List.set_cons_succ]
                      refine Script.load (i := 27) (v := ?_) rfl (by kernel_rfl) (by kernel_rfl) (fun _ _ _ h => h) (by kernel_rfl) ?_ ?_
                      rotate_left
                      · (intro wS hSw; have hS := HS.out.later (After.trans (After.drew (After.refl _)) hSw); obtain ⟨k0, k1, k2⟩ := HCl.out wS hS.p; obtain ⟨m0, m1, m2⟩ := HCr.out wS hS.p; go_simp; try with_reducible rfl)
                      try simp only [Act.put, List.getElem_toArray, List.getElem_cons_succ, List.getElem_cons_zero, List.setIfInBounds_toArray, List.set_cons_zero, List.set_cons_succ]
                      refine Script.load (i := 28) (v := ?_) rfl (by kernel_rfl) (by kernel_rfl) (fun _ _ _ h => h) (by kernel_rfl) ?_ ?_
                      rotate_left
                      · (intro wS hSw; have hS := HS.out.later (After.trans (After.drew (After.refl _)) hSw); obtain ⟨k0, k1, k2⟩ := HCl.out wS hS.p; obtain ⟨m0, m1, m2⟩ := HCr.out wS hS.p; go_simp; try with_reducible rfl)
                      try simp only [Act.put, List.getElem_toArray, List.getElem_cons_succ, List.getElem_cons_zero, List.setIfInBounds_toArray, List.set_cons_zero, List.set_cons_succ]
                      refine Script.load (i := 29) (v := ?_) rfl (by kernel_rfl) (by kernel_rfl) (fun _ _ _ h => h) (by kernel_rfl) ?_ ?_
                      rotate_left
                      · (intro wS hSw; have hS := HS.out.later (After.trans (After.drew (After.refl _)) hSw); obtain ⟨k0, k1, k2⟩ := HCl.out wS hS.p; obtain ⟨m0, m1, m2⟩ := HCr.out wS hS.p; go_simp; try with_reducible rfl)
                      try simp only [Act.put, List.getElem_toArray, List.getElem_cons_succ, List.getElem_cons_zero, List.setIfInBounds_toArray, List.set_cons_zero, List.set_cons_succ]
                      refine Script.load (i := 30) (v := ?_) rfl (by kernel_rfl) (by kernel_rfl) (fun _ _ _ h => h) (by kernel_rfl) ?_ ?_
                      rotate_left
                      · (intro wS hSw; have hS := HS.out.later (After.trans (After.drew (After.refl _)) hSw); obtain ⟨k0, k1, k2⟩ := HCl.out wS hS.p; obtain ⟨m0, m1, m2⟩ := HCr.out wS hS.p; go_simp; try with_reducible rfl)
                      try simp only [Act.put, List.getElem_toArray, List.getElem_cons_succ, List.getElem_cons_zero, List.setIfInBounds_toArray, List.set_cons_zero, List.set_cons_succ]
                      refine Script.load (i := 31) (v := ?_) rfl (by kernel_rfl) (by kernel_rfl) (fun _ _ _ h => h) (by kernel_rfl) ?_ ?_
                      rotate_left
                      · (intro wS hSw; have hS := HS.out.later (After.trans (After.drew (After.refl _)) hSw); obtain ⟨k0, k1, k2⟩ := HCl.out wS hS.p; obtain ⟨m0, m1, m2⟩ := HCr.out wS hS.p; go_simp; try with_reducible rfl)
                      try simp only [Act.put, List.getElem_toArray, List.getElem_cons_succ, List.getElem_cons_zero, List.setIfInBounds_toArray, List.set_cons_zero, List.set_cons_succ]
                      refine Script.load (i := 32) (v := ?_) rfl (by kernel_rfl) (by kernel_rfl) (fun _ _ _ h => h) (by kernel_rfl) ?_ ?_
                      rotate_left
                      · (intro wS hSw; have hS := HS.out.later (After.trans (After.drew (After.refl _)) hSw); obtain ⟨k0, k1, k2⟩ := HCl.out wS hS.p; obtain ⟨m0, m1, m2⟩ := HCr.out wS hS.p; go_simp; try with_reducible rfl)
                      try simp only [Act.put, List.getElem_toArray, List.getElem_cons_succ, List.getElem_cons_zero, List.setIfInBounds_toArray, List.set_cons_zero, List.set_cons_succ]
                      refine Script.load (i := 33) (v := ?_) rfl (by kernel_rfl) (by kernel_rfl) (fun _ _ _ h => h) (by kernel_rfl) ?_ ?_
                      rotate_left
                      · (intro wS hSw; have hS := HS.out.later (After.trans (After.drew (After.refl _)) hSw); obtain ⟨k0, k1, k2⟩ := HCl.out wS hS.p; obtain ⟨m0, m1, m2⟩ := HCr.out wS hS.p; go_simp; try with_reducible rfl)
                      try simp only [Act.put, List.getElem_toArray, List.getElem_cons_succ, List.getElem_cons_zero, List.setIfInBounds_toArray, List.set_cons_zero, List.set_cons_succ]
                      refine Script.load (i := 34) (v := ?_) rfl (by kernel_rfl) (by kernel_rfl) (fun _ _ _ h => h) (by kernel_rfl) ?_ ?_
                      rotate_left
                      · (intro wS hSw; have hS := HS.out.later (After.trans (After.drew (After.refl _)) hSw); obtain ⟨k0, k1, k2⟩ := HCl.out wS hS.p; obtain ⟨m0, m1, m2⟩ := HCr.out wS hS.p; go_simp; try with_reducible rfl)
                      try simp only [Act.put, List.getElem_toArray, List.getElem_cons_succ, List.getElem_cons_zero, List.setIfInBounds_toArray, List.set_cons_zero, List.set_cons_succ]
                      refine Script.load (i := 35) (v := ?_) rfl (by kernel_rfl) (by kernel_rfl) (fun _ _ _ h => h) (by kernel_rfl) ?_ ?_
                      rotate_left
                      · (intro wS hSw; have hS := HS.out.later (After.trans (After.drew (After.refl _)) hSw); obtain ⟨k0, k1, k2⟩ := HCl.out wS hS.p; obtain ⟨m0, m1, m2⟩ := HCr.out wS hS.p; go_simp; try with_reducible rfl)
                      try simp only [Act.put, List.getElem_toArray, List.getElem_cons_succ, List.getElem_cons_zero, List.setIfInBounds_toArray, List.set_cons_zero, List.set_cons_succ]
                      refine Script.load (i := 36) (v := ?_) rfl (by kernel_rfl) (by kernel_rfl) (fun _ _ _ h => h) (by kernel_rfl) ?_ ?_
                      rotate_left
                      · (intro wS hSw; have hS := HS.out.later (After.trans (After.drew (After.refl _)) hSw); obtain ⟨k0, k1, k2⟩ := HCl.out wS hS.p; obtain ⟨m0, m1, m2⟩ := HCr.out wS hS.p; go_simp; try with_reducible rfl)
                      try simp only [Act.put, List.getElem_toArray, List.getElem_cons_succ, List.getElem_cons_zero, List.setIfInBounds_toArray, List.set_cons_zero, List.set_cons_succ]
                      refine Script.load (i := 37) (v := ?_) rfl (by kernel_rfl) (by kernel_rfl) (fun _ _ _ h => h) (by kernel_rfl) ?_ ?_
                      rotate_left
                      · (intro wS hSw; have hS := HS.out.later (After.trans (After.drew (After.refl _)) hSw); obtain ⟨k0, k1, k2⟩ := HCl.out wS hS.p; obtain ⟨m0, m1, m2⟩ := HCr.out wS hS.p; go_simp; try with_reducible rfl)
                      try simp only [Act.put, List.getElem_toArray, List.getElem_cons_succ, List.getElem_cons_zero, List.setIfInBounds_toArray, List.set_cons_zero, List.set_cons_succ]
                      refine Script.load (i := 38) (v := ?_) rfl (by kernel_rfl) (by kernel_rfl) (fun _ _ _ h => h) (by kernel_rfl) ?_ ?_
                      rotate_left
                      · (intro wS hSw; have hS := HS.out.later (After.trans (After.drew (After.refl _)) hSw); obtain ⟨k0, k1, k2⟩ := HCl.out wS hS.p; obtain ⟨m0, m1, m2⟩ := HCr.out wS hS.p; go_simp; try with_reducible rfl)
                      try simp only [Act.put, List.getElem_toArray, List.getElem_cons_succ, List.getElem_cons_zero, List.setIfInBounds_toArray, List.set_cons_zero, List.set_cons_succ]
                      refine Script.load (i := 39) (v := ?_) rfl (by kernel_rfl) (by kernel_rfl) (fun _ _ _ h => h) (by kernel_rfl) ?_ ?_
                      rotate_left
                      · (intro wS hSw; have hS := HS.out.later (After.trans (After.drew (After.refl _)) hSw); obtain ⟨k0, k1, k2⟩ := HCl.out wS hS.p; obtain ⟨m0, m1, m2⟩ := HCr.out wS hS.p; go_simp; try with_reducible rfl)
                      try simp only [Act.put, List.getElem_toArray, List.getElem_cons_succ, List.getElem_cons_zero, List.setIfInBounds_toArray, List.set_cons_zero, List.set_cons_succ]
                      refine Script.done (by kernel_rfl) ?_
                      intro wD hD hG
                      have HS2 := Lib.hid (HS.out.later (After.trans (After.drew (After.refl _)) hD))
                      have HD2 : Hid (jj < r + 1 → bb = true) := fun h => by
                        rcases Nat.lt_or_eq_of_le (Nat.le_of_lt_succ h) with h | h
                        · cases HD.out h
                        · have := (HE.out h.symm).2
                          rw [← HBb.out, this]; simp
                      clear hD hG HS HCr HE HD
                      go_wp2_with fail
                      go_roundw
                      case rel => exact ⟨bb, r + 1, by omega, by go_num, rfl, HD2, HS2⟩
                      case measure => simp [intOf]; omega
                    · have hxy' : ((x' : Int) == (y : Int)) = false := by simp; omega
                      refine wp_region_script (by kernel_rfl) (by kernel_rfl) ?_
                      refine Script.load (i := 0) (v := ?_) rfl (by kernel_rfl) (by kernel_rfl) (fun _ _ _ h => h) (by kernel_rfl) ?_ ?_
                      rotate_left
                      · (intro wS hSw; have hS := HS.out.later (After.trans (After.drew (After.refl _)) hSw); obtain ⟨k0, k1, k2⟩ := HCl.out wS hS.p; obtain ⟨m0, m1, m2⟩ := HCr.out wS hS.p; go_simp; try with_reducible rfl)
                      try simp only [Act.put, List.getElem_toArray, List.getElem_cons_succ, List.getElem_cons_zero, List.setIfInBounds_toArray, List.set_cons_zero, List.set_cons_succ]
                      refine Script.load (i := 1) (v := ?_) rfl (by kernel_rfl) (by kernel_rfl) (fun _ _ _ h => h) (by kernel_rfl) ?_ ?_
                      rotate_left
                      · (intro wS hSw; have hS := HS.out.later (After.trans (After.drew (After.refl _)) hSw); obtain ⟨k0, k1, k2⟩ := HCl.out wS hS.p; obtain ⟨m0, m1, m2⟩ := HCr.out wS hS.p; go_simp; try with_reducible rfl)
                      try simp only [Act.put, List.getElem_toArray, List.getElem_cons_succ, List.getElem_cons_zero, List.setIfInBounds_toArray, List.set_cons_zero, List.set_cons_succ]
                      refine Script.load (i := 2) (v := ?_) rfl (by kernel_rfl) (by kernel_rfl) (fun _ _ _ h => h) (by kernel_rfl) ?_ ?_
                      rotate_left
                      · (intro wS hSw; have hS := HS.out.later (After.trans (After.drew (After.refl _)) hSw); obtain ⟨k0, k1, k2⟩ := HCl.out wS hS.p; obtain ⟨m0, m1, m2⟩ := HCr.out wS hS.p; go_simp; try with_reducible rfl)
                      try simp only [Act.put, List.getElem_toArray, List.getElem_cons_succ, List.getElem_cons_zero, List.setIfInBounds_toArray, List.set_cons_zero, List.set_cons_succ]
                      refine Script.load (i := 3) (v := ?_) rfl (by kernel_rfl) (by kernel_rfl) (fun _ _ _ h => h) (by kernel_rfl) ?_ ?_
                      rotate_left
                      · (intro wS hSw; have hS := HS.out.later (After.trans (After.drew (After.refl _)) hSw); obtain ⟨k0, k1, k2⟩ := HCl.out wS hS.p; obtain ⟨m0, m1, m2⟩ := HCr.out wS hS.p; go_simp; try with_reducible rfl)
                      try simp only [Act.put, List.getElem_toArray, List.getElem_cons_succ, List.getElem_cons_zero, List.setIfInBounds_toArray, List.set_cons_zero, List.set_cons_succ]
                      refine Script.load (i := 4) (v := ?_) rfl (by kernel_rfl) (by kernel_rfl) (fun _ _ _ h => h) (by kernel_rfl) ?_ ?_
                      rotate_left
                      · (intro wS hSw; have hS := HS.out.later (After.trans (After.drew (After.refl _)) hSw); obtain ⟨k0, k1, k2⟩ := HCl.out wS hS.p; obtain ⟨m0, m1, m2⟩ := HCr.out wS hS.p; go_simp; try with_reducible rfl)
                      try simp only [Act.put, List.getElem_toArray, List.getElem_cons_succ, List.getElem_cons_zero, List.setIfInBounds_toArray, List.set_cons_zero, List.set_cons_succ]
                      refine Script.load (i := 5) (v := ?_) rfl (by kernel_rfl) (by kernel_rfl) (fun _ _ _ h => h) (by kernel_rfl) ?_ ?_
                      rotate_left
                      · (intro wS hSw; have hS := HS.out.later (After.trans (After.drew (After.refl _)) hSw); obtain ⟨k0, k1, k2⟩ := HCl.out wS hS.p; obtain ⟨m0, m1, m2⟩ := HCr.out wS hS.p; go_simp; try with_reducible rfl)
                      try simp only [Act.put, List.getElem_toArray, List.getElem_cons_succ, List.getElem_cons_zero, List.setIfInBounds_toArray, List.set_cons_zero, List.set_cons_succ]
                      refine Script.load (i := 6) (v := ?_) rfl (by kernel_rfl) (by kernel_rfl) (fun _ _ _ h => h) (by kernel_rfl) ?_ ?_
                      rotate_left
                      · (intro wS hSw; have hS := HS.out.later (After.trans (After.drew (After.refl _)) hSw); obtain ⟨k0, k1, k2⟩ := HCl.out wS hS.p; obtain ⟨m0, m1, m2⟩ := HCr.out wS hS.p; go_simp; try with_reducible rfl)
                      try simp only [Act.put, List.getElem_toArray, List.getElem_cons_succ, List.getElem_cons_zero, List.setIfInBounds_toArray, List.set_cons_zero, List.set_cons_succ]
                      refine Script.load (i := 7) (v := ?_) rfl (by kernel_rfl) (by kernel_rfl) (fun _ _ _ h => h) (by kernel_rfl) ?_ ?_
                      rotate_left
                      · (intro wS hSw; have hS := HS.out.later (After.trans (After.drew (After.refl _)) hSw); obtain ⟨k0, k1, k2⟩ := HCl.out wS hS.p; obtain ⟨m0, m1, m2⟩ := HCr.out wS hS.p; go_simp; try with_reducible rfl)
                      try simp only [Act.put, List.getElem_toArray, List.getElem_cons_succ, List.getElem_cons_zero, List.setIfInBounds_toArray, List.set_cons_zero, List.set_cons_succ]
                      refine Script.load (i := 8) (v := ?_) rfl (by kernel_rfl) (by kernel_rfl) (fun _ _ _ h => h) (by kernel_rfl) ?_ ?_
                      rotate_left
                      · (intro wS hSw; have hS := HS.out.later (After.trans (After.drew (After.refl _)) hSw); obtain ⟨k0, k1, k2⟩ := HCl.out wS hS.p; obtain ⟨m0, m1, m2⟩ := HCr.out wS hS.p; go_simp; try with_reducible rfl)
                      try simp only [Act.put, List.getElem_toArray, List.getElem_cons_succ, List.getElem_cons_zero, List.setIfInBounds_toArray, List.set_cons_zero, List.set_cons_succ]
                      refine Script.load (i := 9) (v := ?_) rfl (by kernel_rfl) (by kernel_rfl) (fun _ _ _ h => h) (by kernel_rfl) ?_ ?_
                      rotate_left
                      · (intro wS hSw; have hS := HS.out.later (After.trans (After.drew (After.refl _)) hSw); obtain ⟨k0, k1, k2⟩ := HCl.out wS hS.p; obtain ⟨m0, m1, m2⟩ := HCr.out wS hS.p; go_simp; try with_reducible rfl)
                      try simp only [Act.put, List.getElem_toArray, List.getElem_cons_succ, List.getElem_cons_zero, List.setIfInBounds_toArray, List.set_cons_zero, List.set_cons_succ]
                      refine Script.load (i := 10) (v := ?_) rfl (by kernel_rfl) (by kernel_rfl) (fun _ _ _ h => h) (by kernel_rfl) ?_ ?_
                      rotate_left
                      · (intro wS hSw; have hS := HS.out.later (After.trans (After.drew (After.refl _)) hSw); obtain ⟨k0, k1, k2⟩ := HCl.out wS hS.p; obtain ⟨m0, m1, m2⟩ := HCr.out wS hS.p; go_simp; try with_reducible rfl)
                      try simp only [Act.put, List.getElem_toArray, List.getElem_cons_succ, List.getElem_cons_zero, List.setIfInBounds_toArray, List.set_cons_zero, List.set_cons_succ]
                      refine Script.load (i := 11) (v := ?_) rfl (by kernel_rfl) (by kernel_rfl) (fun _ _ _ h => h) (by kernel_rfl) ?_ ?_
                      rotate_left
                      · (intro wS hSw; have hS := HS.out.later (After.trans (After.drew (After.refl _)) hSw); obtain ⟨k0, k1, k2⟩ := HCl.out wS hS.p; obtain ⟨m0, m1, m2⟩ := HCr.out wS hS.p; go_simp; try with_reducible rfl)
                      try simp only [Act.put, List.getElem_toArray, List.getElem_cons_succ, List.getElem_cons_zero, List.setIfInBounds_toArray, List.set_cons_zero, List.set_cons_succ]
                      refine Script.load (i := 12) (v := ?_) rfl (by kernel_rfl) (by kernel_rfl) (fun _ _ _ h => h) (by kernel_rfl) ?_ ?_
                      rotate_left
                      · (intro wS hSw; have hS := HS.out.later (After.trans (After.drew (After.refl _)) hSw); obtain ⟨k0, k1, k2⟩ := HCl.out wS hS.p; obtain ⟨m0, m1, m2⟩ := HCr.out wS hS.p; go_simp; try with_reducible rfl)
                      try simp only [Act.put, List.getElem_toArray, List.getElem_cons_succ, List.getElem_cons_zero, List.setIfInBounds_toArray, List.set_cons_zero, List.set_cons_succ]
                      refine Script.load (i := 13) (v := ?_) rfl (by kernel_rfl) (by kernel_rfl) (fun _ _ _ h => h) (by kernel_rfl) ?_ ?_
                      rotate_left
                      · (intro wS hSw; have hS := HS.out.later (After.trans (After.drew (After.refl _)) hSw); obtain ⟨k0, k1, k2⟩ := HCl.out wS hS.p; obtain ⟨m0, m1, m2⟩ := HCr.out wS hS.p; go_simp; try with_reducible rfl)
                      try simp only [Act.put, List.getElem_toArray, List.getElem_cons_succ, List.getElem_cons_zero, List.setIfInBounds_toArray, List.set_cons_zero, List.set_cons_succ]
                      refine Script.load (i := 14) (v := ?_) rfl (by kernel_rfl) (by kernel_rfl) (fun _ _ _ h => h) (by kernel_rfl) ?_ ?_
                      rotate_left
                      · (intro wS hSw; have hS := HS.out.later (After.trans (After.drew (After.refl _)) hSw); obtain ⟨k0, k1, k2⟩ := HCl.out wS hS.p; obtain ⟨m0, m1, m2⟩ := HCr.out wS hS.p; go_simp; try with_reducible rfl)
                      try simp only [Act.put, List.getElem_toArray, List.getElem_cons_succ, List.getElem_cons_zero, List.setIfInBounds_toArray, List.set_cons_zero, List.set_cons_succ]
                      refine Script.load (i := 15) (v := ?_) rfl (by kernel_rfl) (by kernel_rfl) (fun _ _ _ h => h) (by kernel_rfl) ?_ ?_
                      rotate_left
                      · (intro wS hSw; have hS := HS.out.later (After.trans (After.drew (After.refl _)) hSw); obtain ⟨k0, k1, k2⟩ := HCl.out wS hS.p; obtain ⟨m0, m1, m2⟩ := HCr.out wS hS.p; go_simp; try with_reducible rfl)
                      try simp only [Act.put, List.getElem_toArray, List.getElem_cons_succ, List.getElem_cons_zero, List.setIfInBounds_toArray, List.set_cons_zero, List.set_cons_succ]
                      refine Script.load (i := 16) (v := ?_) rfl (by kernel_rfl) (by kernel_rfl) (fun _ _ _ h => h) (by kernel_rfl) ?_ ?_
                      rotate_left
                      · (intro wS hSw; have hS := HS.out.later (After.trans (After.drew (After.refl _)) hSw); obtain ⟨k0, k1, k2⟩ := HCl.out wS hS.p; obtain ⟨m0, m1, m2⟩ := HCr.out wS hS.p; go_simp; try with_reducible rfl)
                      try simp only [Act.put, List.getElem_toArray, List.getElem_cons_succ, List.getElem_cons_zero, List.setIfInBounds_toArray, List.set_cons_zero, List.set_cons_succ]
                      refine Script.load (i := 17) (v := ?_) rfl (by kernel_rfl) (by kernel_rfl) (fun _ _ _ h => h) (by kernel_rfl) ?_ ?_
                      rotate_left
                      · (intro wS hSw; have hS := HS.out.later (After.trans (After.drew (After.refl _)) hSw); obtain ⟨k0, k1, k2⟩ := HCl.out wS hS.p; obtain ⟨m0, m1, m2⟩ := HCr.out wS hS.p; go_simp; try with_reducible rfl)
                      try simp only [Act.put, List.getElem_toArray, List.getElem_cons_succ, List.getElem_cons_zero, List.setIfInBounds_toArray, List.set_cons_zero, List.set_cons_succ]
                      refine Script.load (i := 18) (v := ?_) rfl (by kernel_rfl) (by kernel_rfl) (fun _ _ _ h => h) (by kernel_rfl) ?_ ?_
                      rotate_left
                      · (intro wS hSw; have hS := HS.out.later (After.trans (After.drew (After.refl _)) hSw); obtain ⟨k0, k1, k2⟩ := HCl.out wS hS.p; obtain ⟨m0, m1, m2⟩ := HCr.out wS hS.p; go_simp; try with_reducible rfl)
                      try simp only [Act.put, List.getElem_toArray, List.getElem_cons_succ, List.getElem_cons_zero, List.setIfInBounds_toArray, List.set_cons_zero, List.set_cons_succ]
                      refine Script.load (i := 19) (v := ?_) rfl (by kernel_rfl) (by kernel_rfl) (fun _ _ _ h => h) (by kernel_rfl) ?_ ?_
                      rotate_left
                      · (intro wS hSw; have hS := HS.out.later (After.trans (After.drew (After.refl _)) hSw); obtain ⟨k0, k1, k2⟩ := HCl.out wS hS.p; obtain ⟨m0, m1, m2⟩ := HCr.out wS hS.p; go_simp; try with_reducible rfl)
                      try simp only [Act.put, List.getElem_toArray, List.getElem_cons_succ, List.getElem_cons_zero, List.setIfInBounds_toArray, List.set_cons_zero, List.set_cons_succ]
                      refine Script.load (i := 20) (v := ?_) rfl (by kernel_rfl) (by kernel_rfl) (fun _ _ _ h => h) (by kernel_rfl) ?_ ?_
                      rotate_left
                      · (intro wS hSw; have hS := HS.out.later (After.trans (After.drew (After.refl _)) hSw); obtain ⟨k0, k1, k2⟩ := HCl.out wS hS.p; obtain ⟨m0, m1, m2⟩ := HCr.out wS hS.p; go_simp; try with_reducible rfl)
                      try simp only [Act.put, List.getElem_toArray, List.getElem_cons_succ, List.getElem_cons_zero, List.setIfInBounds_toArray, List.set_cons_zero, List.set_cons_succ]
                      refine Script.load (i := 21) (v := ?_) rfl (by kernel_rfl) (by kernel_rfl) (fun _ _ _ h => h) (by kernel_rfl) ?_ ?_
                      rotate_left
                      · (intro wS hSw; have hS := HS.out.later (After.trans (After.drew (After.refl _)) hSw); obtain ⟨k0, k1, k2⟩ := HCl.out wS hS.p; obtain ⟨m0, m1, m2⟩ := HCr.out wS hS.p; go_simp; try with_reducible rfl)
                      try simp only [Act.put, List.getElem_toArray, List.getElem_cons_succ, List.getElem_cons_zero, List.setIfInBounds_toArray, List.set_cons_zero, List.set_cons_succ]
                      refine Script.load (i := 22) (v := ?_) rfl (by kernel_rfl) (by kernel_rfl) (fun _ _ _ h => h) (by kernel_rfl) ?_ ?_
                      rotate_left
                      · (intro wS hSw; have hS := HS.out.later (After.trans (After.drew (After.refl _)) hSw); obtain ⟨k0, k1, k2⟩ := HCl.out wS hS.p; obtain ⟨m0, m1, m2⟩ := HCr.out wS hS.p; go_simp; try with_reducible rfl)
                      try simp only [Act.put, List.getElem_toArray, List.getElem_cons_succ, List.getElem_cons_zero, List.setIfInBounds_toArray, List.set_cons_zero, List.set_cons_succ]
                      refine Script.load (i := 23) (v := ?_) rfl (by kernel_rfl) (by kernel_rfl) (fun _ _ _ h => h) (by kernel_rfl) ?_ ?_
                      rotate_left
                      · (intro wS hSw; have hS := HS.out.later (After.trans (After.drew (After.refl _)) hSw); obtain ⟨k0, k1, k2⟩ := HCl.out wS hS.p; obtain ⟨m0, m1, m2⟩ := HCr.out wS hS.p; go_simp; try with_reducible rfl)
                      try simp only [Act.put, List.getElem_toArray, List.getElem_cons_succ, List.getElem_cons_zero, List.setIfInBounds_toArray, List.set_cons_zero, List.set_cons_succ]
                      refine Script.skip (i := 24) rfl (by kernel_rfl) (by kernel_rfl) (fun _ _ _ h => h) (by kernel_rfl) ?_
                      try simp only [Act.put, List.getElem_toArray, List.getElem_cons_succ, List.getElem_cons_zero, List.setIfInBounds_toArray, List.set_cons_zero, List.set_cons_succ]
                      refine Script.skip (i := 25) rfl (by kernel_rfl) (by kernel_rfl) (fun _ _ _ h => h) (by kernel_rfl) ?_
                      try simp only [Act.put, List.getElem_toArray, List.getElem_cons_succ, List.getElem_cons_zero, List.setIfInBounds_toArray, List.set_cons_zero, List.set_cons_succ]
                      refine Script.skip (i := 26) rfl (by kernel_rfl) (by kernel_rfl) (fun _ _ _ h => h) (by kernel_rfl) ?_
                      try simp only [Act.put, List.getElem_toArray, List.getElem_cons_succ, List.getElem_cons_zero, List.setIfInBounds_toArray, List.set_cons_zero, List.set_cons_succ]
                      refine Script.skip (i := 27) rfl (by kernel_rfl) (by kernel_rfl) (fun _ _ _ h => h) (by kernel_rfl) ?_
                      try simp only [Act.put, List.getElem_toArray, List.getElem_cons_succ, List.getElem_cons_zero, List.setIfInBounds_toArray, List.set_cons_zero, List.set_cons_succ]
                      refine Script.skip (i := 28) rfl (by kernel_rfl) (by kernel_rfl) (fun _ _ _ h => h) (by kernel_rfl) ?_
                      try simp only [Act.put, List.getElem_toArray, List.getElem_cons_succ, List.getElem_cons_zero, List.setIfInBounds_toArray, List.set_cons_zero, List.set_cons_succ]
                      refine Script.skip (i := 29) rfl (by kernel_rfl) (by kernel_rfl) (fun _ _ _ h => h) (by kernel_rfl) ?_
                      try simp only [Act.put, List.getElem_toArray, List.getElem_cons_succ, List.getElem_cons_zero, List.setIfInBounds_toArray, List.set_cons_zero, List.set_cons_succ]
                      refine Script.skip (i := 30) rfl (by kernel_rfl) (by kernel_rfl) (fun _ _ _ h => h) (by kernel_rfl) ?_
                      try simp only [Act.put, List.getElem_toArray, List.getElem_cons_succ, List.getElem_cons_zero, List.setIfInBounds_toArray, List.set_cons_zero, List.set_cons_succ]
                      refine Script.skip (i := 31) rfl (by kernel_rfl) (by kernel_rfl) (fun _ _ _ h => h) (by kernel_rfl) ?_
                      try simp only [Act.put, List.getElem_toArray, List.getElem_cons_succ, List.getElem_cons_zero, List.setIfInBounds_toArray, List.set_cons_zero, List.set_cons_succ]
                      refine Script.skip (i := 32) rfl (by kernel_rfl) (by kernel_rfl) (fun _ _ _ h => h) (by kernel_rfl) ?_
                      try simp only [Act.put, List.getElem_toArray, List.getElem_cons_succ, List.getElem_cons_zero, List.setIfInBounds_toArray, List.set_cons_zero, List.set_cons_succ]
                      refine Script.skip (i := 33) rfl (by kernel_rfl) (by kernel_rfl) (fun _ _ _ h => h) (by kernel_rfl) ?_
                      try simp only [Act.put, List.getElem_toArray, List.getElem_cons_succ, List.getElem_cons_zero, List.setIfInBounds_toArray, List.set_cons_zero, List.set_cons_succ]
                      refine Script.skip (i := 34) rfl (by kernel_rfl) (by kernel_rfl) (fun _ _ _ h => h) (by kernel_rfl) ?_
                      try simp only [Act.put, List.getElem_toArray, List.getElem_cons_succ, List.getElem_cons_zero, List.setIfInBounds_toArray, List.set_cons_zero, List.set_cons_succ]
                      refine Script.skip (i := 35) rfl (by kernel_rfl) (by kernel_rfl) (fun _ _ _ h => h) (by kernel_rfl) ?_
                      try simp only [Act.put, List.getElem_toArray, List.getElem_cons_succ, List.getElem_cons_zero, List.setIfInBounds_toArray, List.set_cons_zero, List.set_cons_succ]
                      refine Script.skip (i := 36) rfl (by kernel_rfl) (by kernel_rfl) (fun _ _ _ h => h) (by kernel_rfl) ?_
                      try simp only [Act.put, List.getElem_toArray, List.getElem_cons_succ, List.getElem_cons_zero, List.setIfInBounds_toArray, List.set_cons_zero, List.set_cons_succ]
                      refine Script.load (i := 37) (v := ?_) rfl (by kernel_rfl) (by kernel_rfl) (fun _ _ _ h => h) (by kernel_rfl) ?_ ?_
                      rotate_left
                      · (intro wS hSw; have hS := HS.out.later (After.trans (After.drew (After.refl _)) hSw); obtain ⟨k0, k1, k2⟩ := HCl.out wS hS.p; obtain ⟨m0, m1, m2⟩ := HCr.out wS hS.p; go_simp; try with_reducible rfl)
                      try simp only [Act.put, List.getElem_toArray, List.getElem_cons_succ, List.getElem_cons_zero, List.setIfInBounds_toArray, List.set_cons_zero, List.set_cons_succ]
                      refine Script.load (i := 38) (v := ?_) rfl (by kernel_rfl) (by kernel_rfl) (fun _ _ _ h => h) (by kernel_rfl) ?_ ?_
                      rotate_left
                      · (intro wS hSw; have hS := HS.out.later (After.trans (After.drew (After.refl _)) hSw); obtain ⟨k0, k1, k2⟩ := HCl.out wS hS.p; obtain ⟨m0, m1, m2⟩ := HCr.out wS hS.p; go_simp; try with_reducible rfl)
                      try simp only [Act.put, List.getElem_toArray, List.getElem_cons_succ, List.getElem_cons_zero, List.setIfInBounds_toArray, List.set_cons_zero, List.set_cons_succ]
                      refine Script.load (i := 39) (v := ?_) rfl (by kernel_rfl) (by kernel_rfl) (fun _ _ _ h => h) (by kernel_rfl) ?_ ?_
                      rotate_left
                      · (intro wS hSw; have hS := HS.out.later (After.trans (After.drew (After.refl _)) hSw); obtain ⟨k0, k1, k2⟩ := HCl.out wS hS.p; obtain ⟨m0, m1, m2⟩ := HCr.out wS hS.p; go_simp; try with_reducible rfl)
                      try simp only [Act.put, List.getElem_toArray, List.getElem_cons_succ, List.getElem_cons_zero, List.setIfInBounds_toArray, List.set_cons_zero, List.set_cons_succ]
                      refine Script.done (by kernel_rfl) ?_
                      intro wD hD hG
                      have HS2 := Lib.hid (HS.out.later (After.trans (After.drew (After.refl _)) hD))
                      have HD2 : Hid (jj < r + 1 → false = true) := fun h => by
                        rcases Nat.lt_or_eq_of_le (Nat.le_of_lt_succ h) with h | h
                        · exact HD.out h
                        · exact absurd (HE.out h.symm).1 hxy
                      clear hD hG HS HCr HE HD
                      go_wp2_with fail
                      go_roundw
                      case rel => exact ⟨false, r + 1, by omega, by go_num, rfl, HD2, HS2⟩
                      case measure => simp [intOf]; omega
                  · skip
                    refine wp_region_script (by kernel_rfl) (by kernel_rfl) ?_
                    refine Script.load (i := 0) (v := ?_) rfl (by kernel_rfl) (by kernel_rfl) (fun _ _ _ h => h) (by kernel_rfl) ?_ ?_
                    rotate_left
                    · (intro wS hSw; have hS := HS.out.later (After.trans (After.drew (After.refl _)) hSw); obtain ⟨k0, k1, k2⟩ := HCl.out wS hS.p; obtain ⟨m0, m1, m2⟩ := HCr.out wS hS.p; go_simp; try with_reducible rfl)
                    try simp only [Act.put, List.getElem_toArray, List.getElem_cons_succ, List.getElem_cons_zero, List.setIfInBounds_toArray, List.set_cons_zero, List.set_cons_succ]
                    refine Script.load (i := 1) (v := ?_) rfl (by kernel_rfl) (by kernel_rfl) (fun _ _ _ h => h) (by kernel_rfl) ?_ ?_
                    rotate_left
                    · (intro wS hSw; have hS := HS.out.later (After.trans (After.drew (After.refl _)) hSw); obtain ⟨k0, k1, k2⟩ := HCl.out wS hS.p; obtain ⟨m0, m1, m2⟩ := HCr.out wS hS.p; go_simp; try with_reducible rfl)
                    try simp only [Act.put, List.getElem_toArray, List.getElem_cons_succ, List.getElem_cons_zero, List.setIfInBounds_toArray, List.set_cons_zero, List.set_cons_succ]
                    refine Script.skip (i := 2) rfl (by kernel_rfl) (by kernel_rfl) (fun _ _ _ h => h) (by kernel_rfl) ?_
                    try simp only [Act.put, List.getElem_toArray, List.getElem_cons_succ, List.getElem_cons_zero, List.setIfInBounds_toArray, List.set_cons_zero, List.set_cons_succ]
                    refine Script.skip (i := 3) rfl (by kernel_rfl) (by kernel_rfl) (fun _ _ _ h => h) (by kernel_rfl) ?_
                    try simp only [Act.put, List.getElem_toArray, List.getElem_cons_succ, List.getElem_cons_zero, List.setIfInBounds_toArray, List.set_cons_zero, List.set_cons_succ]
                    refine Script.skip (i := 4) rfl (by kernel_rfl) (by kernel_rfl) (fun _ _ _ h => h) (by kernel_rfl) ?_
                    try simp only [Act.put, List.getElem_toArray, List.getElem_cons_succ, List.getElem_cons_zero, List.setIfInBounds_toArray, List.set_cons_zero, List.set_cons_succ]
                    refine Script.skip (i := 5) rfl (by kernel_rfl) (by kernel_rfl) (fun _ _ _ h => h) (by kernel_rfl) ?_
                    try simp only [Act.put, List.getElem_toArray, List.getElem_cons_succ, List.getElem_cons_zero, List.setIfInBounds_toArray, List.set_cons_zero, List.set_cons_succ]
                    refine Script.skip (i := 6) rfl (by kernel_rfl) (by kernel_rfl) (fun _ _ _ h => h) (by kernel_rfl) ?_
                    try simp only [Act.put, List.getElem_toArray, List.getElem_cons_succ, List.getElem_cons_zero, List.setIfInBounds_toArray, List.set_cons_zero, List.set_cons_succ]
                    refine Script.skip (i := 7) rfl (by kernel_rfl) (by kernel_rfl) (fun _ _ _ h => h) (by kernel_rfl) ?_
                    try simp only [Act.put, List.getElem_toArray, List.getElem_cons_succ, List.getElem_cons_zero, List.setIfInBounds_toArray, List.set_cons_zero, List.set_cons_succ]
                    refine Script.skip (i := 8) rfl (by kernel_rfl) (by kernel_rfl) (fun _ _ _ h => h) (by kernel_rfl) ?_
                    try simp only [Act.put, List.getElem_toArray, List.getElem_cons_succ, List.getElem_cons_zero, List.setIfInBounds_toArray, List.set_cons_zero, List.set_cons_succ]
                    refine Script.skip (i := 9) rfl (by kernel_rfl) (by kernel_rfl) (fun _ _ _ h => h) (by kernel_rfl) ?_
                    try simp only [Act.put, List.getElem_toArray, List.getElem_cons_succ, List.getElem_cons_zero, List.setIfInBounds_toArray, List.set_cons_zero, List.set_cons_succ]
                    refine Script.skip (i := 10) rfl (by kernel_rfl) (by kernel_rfl) (fun _ _ _ h => h) (by kernel_rfl) ?_
                    try simp only [Act.put, List.getElem_toArray, List.getElem_cons_succ, List.getElem_cons_zero, List.setIfInBounds_toArray, List.set_cons_zero, List.set_cons_succ]
                    refine Script.skip (i := 11) rfl (by kernel_rfl) (by kernel_rfl) (fun _ _ _ h => h) (by kernel_rfl) ?_
                    try simp only [Act.put, List.getElem_toArray, List.getElem_cons_succ, List.getElem_cons_zero, List.setIfInBounds_toArray, List.set_cons_zero, List.set_cons_succ]
                    refine Script.skip (i := 12) rfl (by kernel_rfl) (by kernel_rfl) (fun _ _ _ h => h) (by kernel_rfl) ?_
                    try simp only [Act.put, List.getElem_toArray, List.getElem_cons_succ, List.getElem_cons_zero, List.setIfInBounds_toArray, List.set_cons_zero, List.set_cons_succ]
                    refine Script.skip (i := 13) rfl (by kernel_rfl) (by kernel_rfl) (fun _ _ _ h => h) (by kernel_rfl) ?_
                    try simp only [Act.put, List.getElem_toArray, List.getElem_cons_succ, List.getElem_cons_zero, List.setIfInBounds_toArray, List.set_cons_zero, List.set_cons_succ]
                    refine Script.skip (i := 14) rfl (by kernel_rfl) (by kernel_rfl) (fun _ _ _ h => h) (by kernel_rfl) ?_
                    try simp only [Act.put, List.getElem_toArray, List.getElem_cons_succ, List.getElem_cons_zero, List.setIfInBounds_toArray, List.set_cons_zero, List.set_cons_succ]
                    refine Script.skip (i := 15) rfl (by kernel_rfl) (by kernel_rfl) (fun _ _ _ h => h) (by kernel_rfl) ?_
                    try simp only [Act.put, List.getElem_toArray, List.getElem_cons_succ, List.getElem_cons_zero, List.setIfInBounds_toArray, List.set_cons_zero, List.set_cons_succ]
                    refine Script.skip (i := 16) rfl (by kernel_rfl) (by kernel_rfl) (fun _ _ _ h => h) (by kernel_rfl) ?_
                    try simp only [Act.put, List.getElem_toArray, List.getElem_cons_succ, List.getElem_cons_zero, List.setIfInBounds_toArray, List.set_cons_zero, List.set_cons_succ]
                    refine Script.skip (i := 17) rfl (by kernel_rfl) (by kernel_rfl) (fun _ _ _ h => h) (by kernel_rfl) ?_
                    try simp only [Act.put, List.getElem_toArray, List.getElem_cons_succ, List.getElem_cons_zero, List.setIfInBounds_toArray, List.set_cons_zero, List.set_cons_succ]
                    refine Script.skip (i := 18) rfl (by kernel_rfl) (by kernel_rfl) (fun _ _ _ h => h) (by kernel_rfl) ?_
                    try simp only [Act.put, List.getElem_toArray, List.getElem_cons_succ, List.getElem_cons_zero, List.setIfInBounds_toArray, List.set_cons_zero, List.set_cons_succ]
                    refine Script.skip (i := 19) rfl (by kernel_rfl) (by kernel_rfl) (fun _ _ _ h => h) (by kernel_rfl) ?_
                    try simp only [Act.put, List.getElem_toArray, List.getElem_cons_succ, List.getElem_cons_zero, List.setIfInBounds_toArray, List.set_cons_zero, List.set_cons_succ]
                    refine Script.skip (i := 20) rfl (by kernel_rfl) (by kernel_rfl) (fun _ _ _ h => h) (by kernel_rfl) ?_
                    try simp only [Act.put, List.getElem_toArray, List.getElem_cons_succ, List.getElem_cons_zero, List.setIfInBounds_toArray, List.set_cons_zero, List.set_cons_succ]
                    refine Script.skip (i := 21) rfl (by kernel_rfl) (by kernel_rfl) (fun _ _ _ h => h) (by kernel_rfl) ?_
                    try simp only [Act.put, List.getElem_toArray, List.getElem_cons_succ, List.getElem_cons_zero, List.setIfInBounds_toArray, List.set_cons_zero, List.set_cons_succ]
                    refine Script.skip (i := 22) rfl (by kernel_rfl) (by kernel_rfl) (fun _ _ _ h => h) (by kernel_rfl) ?_
                    try simp only [Act.put, List.getElem_toArray, List.getElem_cons_succ, List.getElem_cons_zero, List.setIfInBounds_toArray, List.set_cons_zero, List.set_cons_succ]
                    refine Script.skip (i := 23) rfl (by kernel_rfl) (by kernel_rfl) (fun _ _ _ h => h) (by kernel_rfl) ?_
                    try simp only [Act.put, List.getElem_toArray, List.getElem_cons_succ, List.getElem_cons_zero, List.setIfInBounds_toArray, List.set_cons_zero, List.set_cons_succ]
                    refine Script.skip (i := 24) rfl (by kernel_rfl) (by kernel_rfl) (fun _ _ _ h => h) (by kernel_rfl) ?_
                    try simp only [Act.put, List.getElem_toArray, List.getElem_cons_succ, List.getElem_cons_zero, List.setIfInBounds_toArray, List.set_cons_zero, List.set_cons_succ]
                    refine Script.skip (i := 25) rfl (by kernel_rfl) (by kernel_rfl) (fun _ _ _ h => h) (by kernel_rfl) ?_
                    try simp only [Act.put, List.getElem_toArray, List.getElem_cons_succ, List.getElem_cons_zero, List.setIfInBounds_toArray, List.set_cons_zero, List.set_cons_succ]
                    refine Script.skip (i := 26) rfl (by kernel_rfl) (by kernel_rfl) (fun _ _ _ h => h) (by kernel_rfl) ?_
                    try simp only [Act.put, List.getElem_toArray, List.getElem_cons_succ, List.getElem_cons_zero, List.setIfInBounds_toArray, List.set_cons_zero, List.set_cons_succ]
                    refine Script.skip (i := 27) rfl (by kernel_rfl) (by kernel_rfl) (fun _ _ _ h => h) (by kernel_rfl) ?_
                    try simp only [Act.put, List.getElem_toArray, List.getElem_cons_succ, List.getElem_cons_zero, List.setIfInBounds_toArray, List.set_cons_zero, List.set_cons_succ]
                    refine Script.skip (i := 28) rfl (by kernel_rfl) (by kernel_rfl) (fun _ _ _ h => h) (by kernel_rfl) ?_
                    try simp only [Act.put, List.getElem_toArray, List.getElem_cons_succ, List.getElem_cons_zero, List.setIfInBounds_toArray, List.set_cons_zero, List.set_cons_succ]
                    refine Script.skip (i := 29) rfl (by kernel_rfl) (by kernel_rfl) (fun _ _ _ h => h) (by kernel_rfl) ?_
                    try simp only [Act.put, List.getElem_toArray, List.getElem_cons_succ, List.getElem_cons_zero, List.setIfInBounds_toArray, List.set_cons_zero, List.set_cons_succ]
                    refine Script.skip (i := 30) rfl (by kernel_rfl) (by kernel_rfl) (fun _ _ _ h => h) (by kernel_rfl) ?_
                    try simp only [Act.put, List.getElem_toArray, List.getElem_cons_succ, List.getElem_cons_zero, List.setIfInBounds_toArray, List.set_cons_zero, List.set_cons_succ]
                    refine Script.skip (i := 31) rfl (by kernel_rfl) (by kernel_rfl) (fun _ _ _ h => h) (by kernel_rfl) ?_
                    try simp only [Act.put, List.getElem_toArray, List.getElem_cons_succ, List.getElem_cons_zero, List.setIfInBounds_toArray, List.set_cons_zero, List.set_cons_succ]
                    refine Script.skip (i := 32) rfl (by kernel_rfl) (by kernel_rfl) (fun _ _ _ h => h) (by kernel_rfl) ?_
                    try simp only [Act.put, List.getElem_toArray, List.getElem_cons_succ, List.getElem_cons_zero, List.setIfInBounds_toArray, List.set_cons_zero, List.set_cons_succ]
                    refine Script.skip (i := 33) rfl (by kernel_rfl) (by kernel_rfl) (fun _ _ _ h => h) (by kernel_rfl) ?_
                    try simp only [Act.put, List.getElem_toArray, List.getElem_cons_succ, List.getElem_cons_zero, List.setIfInBounds_toArray, List.set_cons_zero, List.set_cons_succ]
                    refine Script.skip (i := 34) rfl (by kernel_rfl) (by kernel_rfl) (fun _ _ _ h => h) (by kernel_rfl) ?_
                    try simp only [Act.put, List.getElem_toArray, List.getElem_cons_succ, List.getElem_cons_zero, List.setIfInBounds_toArray, List.set_cons_zero, List.set_cons_succ]
                    refine Script.skip (i := 35) rfl (by kernel_rfl) (by kernel_rfl) (fun _ _ _ h => h) (by kernel_rfl) ?_
                    try simp only [Act.put, List.getElem_toArray, List.getElem_cons_succ, List.getElem_cons_zero, List.setIfInBounds_toArray, List.set_cons_zero, List.set_cons_succ]
                    refine Script.skip (i := 36) rfl (by kernel_rfl) (by kernel_rfl) (fun _ _ _ h => h) (by kernel_rfl) ?_
                    try simp only [Act.put, List.getElem_toArray, List.getElem_cons_succ, List.getElem_cons_zero, List.setIfInBounds_toArray, List.set_cons_zero, List.set_cons_succ]
                    refine Script.skip (i := 37) rfl (by kernel_rfl) (by kernel_rfl) (fun _ _ _ h => h) (by kernel_rfl) ?_
                    try simp only [Act.put, List.getElem_toArray, List.getElem_cons_succ, List.getElem_cons_zero, List.setIfInBounds_toArray, List.set_cons_zero, List.set_cons_succ]
                    refine Script.load (i := 38) (v := ?_) rfl (by kernel_rfl) (by kernel_rfl) (fun _ _ _ h => h) (by kernel_rfl) ?_ ?_
                    rotate_left
                    · (intro wS hSw; have hS := HS.out.later (After.trans (After.drew (After.refl _)) hSw); obtain ⟨k0, k1, k2⟩ := HCl.out wS hS.p; obtain ⟨m0, m1, m2⟩ := HCr.out wS hS.p; go_simp; try with_reducible rfl)
                    try simp only [Act.put, List.getElem_toArray, List.getElem_cons_succ, List.getElem_cons_zero, List.setIfInBounds_toArray, List.set_cons_zero, List.set_cons_succ]
                    refine Script.load (i := 39) (v := ?_) rfl (by kernel_rfl) (by kernel_rfl) (fun _ _ _ h => h) (by kernel_rfl) ?_ ?_
                    rotate_left
                    · (intro wS hSw; have hS := HS.out.later (After.trans (After.drew (After.refl _)) hSw); obtain ⟨k0, k1, k2⟩ := HCl.out wS hS.p; obtain ⟨m0, m1, m2⟩ := HCr.out wS hS.p; go_simp; try with_reducible rfl)
                    try simp only [Act.put, List.getElem_toArray, List.getElem_cons_succ, List.getElem_cons_zero, List.setIfInBounds_toArray, List.set_cons_zero, List.set_cons_succ]
                    refine Script.done (by kernel_rfl) ?_
                    intro wD hD hG
                    have HS2 := Lib.hid (HS.out.later (After.trans (After.drew (After.refl _)) hD))
                    have HD2 : Hid (jj < r + 1 → true = true) := fun h => by
                      rfl
                    clear hD hG HS HCr HE HD
                    go_wp2_with fail
                    go_roundw
                    case rel => exact ⟨true, r + 1, by omega, by go_num, rfl, HD2, HS2⟩
                    case measure => simp [intOf]; omega
                · have r1 : ¬ (r : Int) < (n0 : Int) := by omega
                  obtain rfl : d = true := HD.out (by omega)
                  clear HD
                  go_wp2_with fail
                  go_roundw
                  case rel => exact ⟨j + 1, by omega, by go_num, HS⟩
                  case measure => simp [intOf]; omega
            · have j1 : ¬ (j : Int) < (n0 : Int) := by omega
              clear HFa
              obtain ⟨c0, c1, c2, -, -, -⟩ := row_facts HS.out.board
              by_cases hz : n0 = 0
              · have hm0 : m' = 0 := hsome.2 hz
                have hz' : ¬ (0 : Int) < (n0 : Int) := by omega
                have hm' : ¬ (0 : Int) < (m' : Int) := by omega
                clear hsome hz hm0
                go_wp2_with fail
                refine (CN.out _).mono ?_
                rintro e w14 ⟨rfl, hb⟩
                have HBl := Lib.hid (HS.out.later hb).below
                clear hb
                go_wp2_with fail
                go_ret
                exact ⟨rfl, HBl.out⟩
              · have hm0 : ¬ m' = 0 := fun h => hz (hsome.1 h)
                have hz' : (0 : Int) < (n0 : Int) := by omega
                have hm' : (0 : Int) < (m' : Int) := by omega
                clear hsome hz hm0
                go_wp2_with fail
                refine (CN.out _).mono ?_
                rintro e w14 ⟨rfl, hb⟩
                have HBl := Lib.hid (HS.out.later hb).below
                clear hb
                go_wp2_with fail
                go_ret
                exact ⟨rfl, HBl.out⟩
set_option maxRecDepth 100000 in
theorem walk_far {a0 : Option Addr} {len cap : Nat} (w : World) (h : 1048576 < len) :
    Calls Tryz.prog 3 #[.slice a0 len cap] w fun e w' => e = .returned (.bool true) ∧ Below w.heap.size w w' := by
  go_enter Tryz.func3, Tryz.ntmps3
  go_wp2_with fail
  refine (big_yes _ h).mono ?_
  rintro e w' ⟨rfl, rfl⟩
  go_wp2_with fail
  go_ret
  exact ⟨rfl, Below.refl _ _⟩
theorem walk (a0 : Option Addr) (len0 cap0 : Nat) (z0 : List Int) (w : World) (w0 : IsRow .u8 w a0 len0 cap0 z0) :
    Calls Tryz.prog 3 #[.slice a0 len0 cap0] w fun e w' => e = .returned (.bool true) ∧ Below w.heap.size w w' := by
  by_cases h2 : len0 ≤ 1048576
  · exact walk_in w (code_of w0 h2)
  · exact walk_far w (by omega)
set_option maxRecDepth 100000 in
theorem lifted (os : Os) (started : os.Started) (H : Type) (enc : TypeId × Value → H) :
    ReturnsInHanded {} Tryz.checked os 3 .any (Rows.fnBackwardsSpec.pre6 enc Tryz.prog Tryz.f3 Rows.fnBackwardsRow.domain false) (Rows.fnBackwardsSpec.post enc Tryz.prog Tryz.f3 false true false false) := by
  refine returnsInHanded_of_change (C := Tryz.checked) own started (by kernel_rfl) Tryz.func3
    (ChangeSpec.witness6 (enc := enc) (C := Tryz.checked) false ⟨#[], #[.slice none 0 0], []⟩ 8 (by kernel_rfl) (by kernel_rfl) (by kernel_rfl) (by kernel_rfl)) ?_
  intro W base args ds gs before hval0 hW hcnd _
  have hval : ∀ (j : Nat) t v, Tryz.f3.params[j]? = some t → args[j]? = some v → Value.okWide Tryz.prog W .any base t v := hval0
  have hW' := hW
  obtain ⟨p, q, hA0, hV, rfl, hfz, hnd⟩ := hW
  have hA : DataW.TrodAll enc Tryz.prog W 0 (fun _ => true) true Tryz.f3.params.toList args.toList ds p := hA0
  rw [Tryz.params3] at hA hval
  obtain ⟨v0, vs0, d0, ds0, p0, q0, hargs, rfl, rfl, h0, r0⟩ := trodAll_cons hA
  obtain ⟨rfl, rfl, rfl⟩ := trodAll_nil r0
  obtain rfl : args = #[v0] := by cases args; simp_all
  obtain ⟨rfl, rfl⟩ := trodVars_none hV
  obtain ⟨a0, len0, cap0, rfl⟩ := okWide_slice Tryz.underlying22 (hval 0 22 v0 rfl rfl)
  have k0 := h0
  have lt0 : ∀ x ∈ p0, x.block < W.heap.size := by obtain ⟨m, hm⟩ := k0; exact DataW.trod_lt m _ _ _ hm
  obtain ⟨z0, w0⟩ : ∃ zs, IsRow .u8 W a0 len0 cap0 zs := by
    obtain ⟨fuel, hf⟩ := h0
    rcases open_ints Tryz.underlying22 Tryz.underlying5 (by kernel_rfl) hf with ⟨hcs, _⟩ | ⟨x, l, c, zs, hcs, _, hl, hm, hz, _, hcell, hwz⟩
    · simp [Value.cells] at hcs
      obtain ⟨rfl, rfl, rfl⟩ := hcs
      exact ⟨[], .inl ⟨rfl, rfl, rfl, rfl⟩⟩
    · simp [Value.cells] at hcs
      obtain ⟨rfl, rfl, rfl⟩ := hcs
      exact ⟨zs, .inr ⟨_, rfl, hl, hm, by simpa using hz, hcell, hwz⟩⟩
  clear hA0 hval0
  refine (walk a0 len0 cap0 z0 W w0).mono fun e W' ⟨he, bel⟩ => ?_
  subst he
  exact ⟨_, rfl, _, _, _, [], _, [], hW', trodAll_mk1 (shut_bool Tryz.underlying4 _), (trodAll_cons_mk (Below.trod laidOut (by kernel_rfl) (of_decide_eq_true (by kernel_rfl)) k0 bel lt0) trodAll_mk0), rfl, bel.frame _, fun h => by cases h⟩

theorem over : Rows.fnBackwardsRow.holds Tryz.pinned (OpenSpec.ofChange Rows.fnBackwardsSpec) :=
  OpenClaim.holds_of_wide 3 Tryz.f3 rfl rfl rfl rfl rfl rfl rfl ⟨rfl, rfl, rfl, rfl, rfl⟩ rfl rfl rfl rfl rfl (by kernel_rfl) Tryz.func3 (by kernel_rfl)
    (of_decide_eq_true (by kernel_rfl)) (by unfold Func.isWrapper; first | (rw [if_pos (by decide +kernel)]; kernel_rfl) | (rw [if_neg (by decide +kernel)]; exact ⟨rfl, rfl⟩))
    (fun os started H enc _ => lifted os started H enc)

theorem proved : Rows.FnBackwardsSaid := over
end Go.Proofs.YtkenlighpelhiaaGreat.fnBackwards
