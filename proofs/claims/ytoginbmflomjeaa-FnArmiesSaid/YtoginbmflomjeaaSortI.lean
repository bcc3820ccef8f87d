/- The library's stable sort over soldiers, first part: the comparison, exchanges of two ranges, rotations. -/
import Derived.Test.YtoginbmflomjeaaArmyJ
import Derived.Test.YtoginbmflomjeaaLeastMath
import Derived.BigRegion
namespace Go.Proofs.Ytoginbmflomjeaa
open Go.RowKit
set_option linter.unusedVariables false
set_option linter.unusedSimpArgs false
theorem sv_set (ys : List Sd) (k : Nat) (x : Sd) : sv (ys.set k x) = ((sv ys).set (k * 2) (.int .i64 x.1)).set (k * 2 + 1) (.int .i64 x.2) := by
  induction ys generalizing k with
  | nil => rfl
  | cons y ys ih =>
    have e : ∀ (y : Sd) ys, sv (y :: ys) = .int .i64 y.1 :: .int .i64 y.2 :: sv ys := fun _ _ => rfl
    cases k with
    | zero => rfl
    | succ k =>
      rw [List.set_cons_succ, e, e, ih, show (k + 1) * 2 = k * 2 + 1 + 1 from by omega]
      simp only [List.set_cons_succ]
/-- The list that is sorted, in the call's own memory, and the boxed level beside it. -/
def SRow (B g n c p : Nat) (L : Int) (xs : List Sd) (w0 w : World) : Prop :=
  xs.length = n ∧ w.ownsRow B 37 2 (.slice (some ⟨g, 0, none⟩) n c) n (sv xs) ∧ w.heap[p]? = some (.cells #[.int .i64 L] 3 (0, 0)) ∧ p ≠ g ∧ w0.grownBy w (some g)
def CmpV (p : Nat) : Value := .func (.func 49) #[] #[.pointer (some ⟨p, 0, none⟩)]
def SPost (B g n c p : Nat) (L : Int) (xs : List Sd) (w0 : World) (e : Ending) (w' : World) : Prop := e = .returned (.tuple #[]) ∧ SRow B g n c p L xs w0 w'
section
variable {B g n c p : Nat} {L : Int} {xs : List Sd} {w0 w w' : World}
theorem SRow.later (h : SRow B g n c p L xs w0 w) (hb : Below w.heap.size w w') : SRow B g n c p L xs w0 w' :=
  ⟨h.1, own_below h.2.1 hb, closed_row p _ w w' h.2.2.1 hb, h.2.2.2.1, h.2.2.2.2.trans ⟨hb.os, hb.tape, hb.output, hb.size, fun k hk _ => hb.block k hk⟩⟩
theorem SRow.box (h : SRow B g n c p L xs w0 w) : w.cell? ⟨p, 0, none⟩ = some (.int .i64 L) := by rw [cell_of_row w p _ _ _ _ h.2.2.1]; rfl
theorem SRow.get (h : SRow B g n c p L xs w0 w) {i : Nat} (hi : i < n) : w.cell? ⟨g, i * 2, none⟩ = some (.int .i64 (nth xs i).1) ∧ w.cell? ⟨g, i * 2 + 1, none⟩ = some (.int .i64 (nth xs i).2) := by
  have hx : xs[i]? = some (nth xs i) := by
    unfold nth
    rw [List.getD_eq_getElem?_getD, List.getElem?_eq_getElem (by rw [h.1]; exact hi)]; rfl
  obtain ⟨e1, e2⟩ := sv_get hx
  have hl : (sv xs).length = n * 2 := by rw [sv_length, h.1]
  exact ⟨by rw [h.2.1.cellAt _ (by omega)]; exact e1, by rw [h.2.1.cellAt _ (by omega)]; exact e2⟩
theorem SRow.thaw (h : SRow B g n c p L xs w0 w) (j : Nat) : w.frozen? ⟨g, j, none⟩ = false := h.2.1.frozenAt j
theorem SRow.drew (h : SRow B g n c p L xs w0 w) : SRow B g n c p L xs w0 w.drew := h.later (After.drew (After.refl w))
theorem SRow.swap (h : SRow B g n c p L xs w0 w) (i j : Nat) :
    SRow B g n c p L (swp xs i j) w0 ((((w.setCell ⟨g, i * 2, none⟩ (.int .i64 (nth xs j).1)).setCell ⟨g, i * 2 + 1, none⟩ (.int .i64 (nth xs j).2)).setCell ⟨g, j * 2, none⟩ (.int .i64 (nth xs i).1)).setCell ⟨g, j * 2 + 1, none⟩ (.int .i64 (nth xs i).2)).drew := by
  have h1 := stored2 h.2.1 (i * 2) (.int .i64 (nth xs j).1) (.int .i64 (nth xs j).2)
  rw [← sv_set] at h1
  have h2 := stored2 h1.1 (j * 2) (.int .i64 (nth xs i).1) (.int .i64 (nth xs i).2)
  rw [← sv_set] at h2
  have hg := h1.2.trans h2.2
  refine SRow.drew ⟨by simp [swp, h.1], h2.1, ?_, h.2.2.2.1, h.2.2.2.2.trans hg⟩
  have hp := (Array.getElem?_eq_some_iff.1 h.2.2.1).1
  rw [hg.block p hp (fun e => h.2.2.2.1 (by injection e))]
  exact h.2.2.1
end
set_option maxHeartbeats 2000000 in
set_option maxRecDepth 100000 in
theorem implCmp (s t : Sd) (p : Nat) (L : Int) (w : World) (h : w.heap[p]? = some (.cells #[.int .i64 L] 3 (0, 0))) : Calls Try.prog 49 #[.agg #[.int .i64 s.1, .int .i64 s.2], .agg #[.int .i64 t.1, .int .i64 t.2], .pointer (some ⟨p, 0, none⟩)] w (GI (cmpS L s t) w) := by
  obtain ⟨x, y⟩ := s
  obtain ⟨u, v⟩ := t
  have CW := Lib.hid (fun x y w => implWeightTo x y L w)
  have CC := Lib.hid (fun w => implCompareGold (wtB (u, v) L).1 (wtB (u, v) L).2 (wtB (x, y) L).1 (wtB (x, y) L).2 w)
  have HR : Hid (cmpG (wtB (u, v) L).1 (wtB (u, v) L).2 (wtB (x, y) L).1 (wtB (x, y) L).2 = cmpS L (x, y) (u, v)) := rfl
  rw [HR.out] at CC
  have CA := Lib.hid (fun w => CW.out u v w)
  have CB := Lib.hid (fun w => CW.out x y w)
  generalize cmpS L (x, y) (u, v) = r at *
  generalize (wtB (u, v) L).1 = a1 at *
  generalize (wtB (u, v) L).2 = a2 at *
  generalize (wtB (x, y) L).1 = b1 at *
  generalize (wtB (x, y) L).2 = b2 at *
  have HB : Hid (w.heap[p]? = some (.cells #[.int .i64 L] 3 (0, 0))) := h
  clear h HR CW
  go_enter Try.func49, Try.ntmps49
  go_wp2_with fail
  have hba : Below w.heap.size w ((w.alloc (.cells #[.int .i64 x, .int .i64 y] 37)).alloc (.cells #[.int .i64 u, .int .i64 v] 37)) := ((Below.refl _ _).alloc (Nat.le_refl _) _).alloc (by simp) _
  have A0 : Hid (Bg 37 w.heap.size x y ((w.alloc (.cells #[.int .i64 x, .int .i64 y] 37)).alloc (.cells #[.int .i64 u, .int .i64 v] 37))) := row_alloc (heap_alloc_new w _)
  have A1 : Hid (Bg 37 (w.heap.size + 1) u v ((w.alloc (.cells #[.int .i64 x, .int .i64 y] 37)).alloc (.cells #[.int .i64 u, .int .i64 v] 37))) := by
    have := heap_alloc_new (w.alloc (.cells #[.int .i64 x, .int .i64 y] 37)) (.cells #[.int .i64 u, .int .i64 v] 37)
    simpa [Bg, Hid] using this
  have A2 := Lib.hid (closed_row p _ _ _ HB.out hba)
  have HW := Lib.hid hba
  clear hba HB
  generalize (w.alloc (.cells #[.int .i64 x, .int .i64 y] 37)).alloc (.cells #[.int .i64 u, .int .i64 v] 37) = W1 at *
  refine wp_region_script (by kernel_rfl) (by kernel_rfl) ?_
  refine Script.load (i := 0) (v := ?_) rfl (by kernel_rfl) (by kernel_rfl) (fun _ _ _ h => h) (by kernel_rfl) ?_ ?_
  rotate_left
  · (intro wS hSw; have hF := After.trans (After.drew (After.refl _)) hSw; obtain ⟨k0, k1, -, -⟩ := two_facts (A0.out.later hF); obtain ⟨z0, z1, -, -⟩ := two_facts (A1.out.later hF); have hbx : wS.cell? ⟨p, 0, none⟩ = some (.int .i64 L) := (by rw [cell_of_row wS p _ _ _ _ (closed_row p _ _ _ A2.out hF)]; rfl); go_simp; try with_reducible rfl)
  try simp only [Act.put, List.getElem_toArray, List.getElem_cons_succ, List.getElem_cons_zero, List.setIfInBounds_toArray, List.set_cons_zero, List.set_cons_succ]
  refine Script.load (i := 1) (v := ?_) rfl (by kernel_rfl) (by kernel_rfl) (fun _ _ _ h => h) (by kernel_rfl) ?_ ?_
  rotate_left
  · (intro wS hSw; have hF := After.trans (After.drew (After.refl _)) hSw; obtain ⟨k0, k1, -, -⟩ := two_facts (A0.out.later hF); obtain ⟨z0, z1, -, -⟩ := two_facts (A1.out.later hF); have hbx : wS.cell? ⟨p, 0, none⟩ = some (.int .i64 L) := (by rw [cell_of_row wS p _ _ _ _ (closed_row p _ _ _ A2.out hF)]; rfl); go_simp; try with_reducible rfl)
  try simp only [Act.put, List.getElem_toArray, List.getElem_cons_succ, List.getElem_cons_zero, List.setIfInBounds_toArray, List.set_cons_zero, List.set_cons_succ]
  refine Script.call (i := 2) (v := ?_) rfl (by kernel_rfl) (by kernel_rfl) (fun _ _ _ h => h) (by kernel_rfl) ?_ ?_
  rotate_left
  · (intro wS hSw K hK; have hF := After.trans (After.drew (After.refl _)) hSw; obtain ⟨k0, k1, -, -⟩ := two_facts (A0.out.later hF); obtain ⟨z0, z1, -, -⟩ := two_facts (A1.out.later hF); have hbx : wS.cell? ⟨p, 0, none⟩ = some (.int .i64 L) := (by rw [cell_of_row wS p _ _ _ _ (closed_row p _ _ _ A2.out hF)]; rfl); go_simp; go_at_call 17; refine (CA.out _).mono ?_; rintro e wc ⟨rfl, hbc⟩; exact hK.out _ hbc)
  try simp only [Act.put, List.getElem_toArray, List.getElem_cons_succ, List.getElem_cons_zero, List.setIfInBounds_toArray, List.set_cons_zero, List.set_cons_succ]
  refine Script.load (i := 3) (v := ?_) rfl (by kernel_rfl) (by kernel_rfl) (fun _ _ _ h => h) (by kernel_rfl) ?_ ?_
  rotate_left
  · (intro wS hSw; have hF := After.trans (After.drew (After.refl _)) hSw; obtain ⟨k0, k1, -, -⟩ := two_facts (A0.out.later hF); obtain ⟨z0, z1, -, -⟩ := two_facts (A1.out.later hF); have hbx : wS.cell? ⟨p, 0, none⟩ = some (.int .i64 L) := (by rw [cell_of_row wS p _ _ _ _ (closed_row p _ _ _ A2.out hF)]; rfl); go_simp; try with_reducible rfl)
  try simp only [Act.put, List.getElem_toArray, List.getElem_cons_succ, List.getElem_cons_zero, List.setIfInBounds_toArray, List.set_cons_zero, List.set_cons_succ]
  refine Script.load (i := 4) (v := ?_) rfl (by kernel_rfl) (by kernel_rfl) (fun _ _ _ h => h) (by kernel_rfl) ?_ ?_
  rotate_left
  · (intro wS hSw; have hF := After.trans (After.drew (After.refl _)) hSw; obtain ⟨k0, k1, -, -⟩ := two_facts (A0.out.later hF); obtain ⟨z0, z1, -, -⟩ := two_facts (A1.out.later hF); have hbx : wS.cell? ⟨p, 0, none⟩ = some (.int .i64 L) := (by rw [cell_of_row wS p _ _ _ _ (closed_row p _ _ _ A2.out hF)]; rfl); go_simp; try with_reducible rfl)
  try simp only [Act.put, List.getElem_toArray, List.getElem_cons_succ, List.getElem_cons_zero, List.setIfInBounds_toArray, List.set_cons_zero, List.set_cons_succ]
  refine Script.call (i := 5) (v := ?_) rfl (by kernel_rfl) (by kernel_rfl) (fun _ _ _ h => h) (by kernel_rfl) ?_ ?_
  rotate_left
  · (intro wS hSw K hK; have hF := After.trans (After.drew (After.refl _)) hSw; obtain ⟨k0, k1, -, -⟩ := two_facts (A0.out.later hF); obtain ⟨z0, z1, -, -⟩ := two_facts (A1.out.later hF); have hbx : wS.cell? ⟨p, 0, none⟩ = some (.int .i64 L) := (by rw [cell_of_row wS p _ _ _ _ (closed_row p _ _ _ A2.out hF)]; rfl); go_simp; go_at_call 17; refine (CB.out _).mono ?_; rintro e wc ⟨rfl, hbc⟩; exact hK.out _ hbc)
  try simp only [Act.put, List.getElem_toArray, List.getElem_cons_succ, List.getElem_cons_zero, List.setIfInBounds_toArray, List.set_cons_zero, List.set_cons_succ]
  refine Script.call (i := 6) (v := ?_) rfl (by kernel_rfl) (by kernel_rfl) (fun _ _ _ h => h) (by kernel_rfl) ?_ ?_
  rotate_left
  · (intro wS hSw K hK; have hF := After.trans (After.drew (After.refl _)) hSw; obtain ⟨k0, k1, -, -⟩ := two_facts (A0.out.later hF); obtain ⟨z0, z1, -, -⟩ := two_facts (A1.out.later hF); have hbx : wS.cell? ⟨p, 0, none⟩ = some (.int .i64 L) := (by rw [cell_of_row wS p _ _ _ _ (closed_row p _ _ _ A2.out hF)]; rfl); go_simp; go_at_call 14; refine (CC.out _).mono ?_; rintro e wc ⟨rfl, hbc⟩; exact hK.out _ hbc)
  try simp only [Act.put, List.getElem_toArray, List.getElem_cons_succ, List.getElem_cons_zero, List.setIfInBounds_toArray, List.set_cons_zero, List.set_cons_succ]
  refine Script.load (i := 7) (v := ?_) rfl (by kernel_rfl) (by kernel_rfl) (fun _ _ _ h => h) (by kernel_rfl) ?_ ?_
  rotate_left
  · (intro wS hSw; have hF := After.trans (After.drew (After.refl _)) hSw; obtain ⟨k0, k1, -, -⟩ := two_facts (A0.out.later hF); obtain ⟨z0, z1, -, -⟩ := two_facts (A1.out.later hF); have hbx : wS.cell? ⟨p, 0, none⟩ = some (.int .i64 L) := (by rw [cell_of_row wS p _ _ _ _ (closed_row p _ _ _ A2.out hF)]; rfl); go_simp; try with_reducible rfl)
  try simp only [Act.put, List.getElem_toArray, List.getElem_cons_succ, List.getElem_cons_zero, List.setIfInBounds_toArray, List.set_cons_zero, List.set_cons_succ]
  refine Script.done (by kernel_rfl) ?_
  intro wD hD hG
  have HW2 := Lib.hid (HW.out.trans ((After.trans (After.drew (After.refl _)) hD).mono HW.out.size))
  clear hD hG
  go_wp2_with fail
  go_ret
  exact ⟨rfl, HW2.out⟩
set_option maxHeartbeats 4000000 in
set_option maxRecDepth 100000 in
theorem implSwapR {B g n c p : Nat} {L : Int} {w0 : World} (hn : n ≤ 1048576) (fv : Value) (a b k : Nat) (xs : List Sd) (w : World) (hab : a < b) (hb : b + k ≤ n) (h : SRow B g n c p L xs w0 w) :
    Calls Try.prog 59 #[.slice (some ⟨g, 0, none⟩) n c, .int .i64 (a : Int), .int .i64 (b : Int), .int .i64 (k : Int), fv] w (SPost B g n c p L (swR k a b xs) w0) := by
  have HS := Lib.hid h
  obtain ⟨F, hF⟩ : ∃ F, swR k a b xs = F := ⟨_, rfl⟩
  rw [hF]
  have HF : Hid (swR (k - 0) (a + 0) (b + 0) xs = F) := hF
  clear h hF
  go_enter Try.func59, Try.ntmps59
  go_wp2_with fail
  go_loopw [10] (fun i wr => ∃ (j : Nat) (ys : List Sd), j ≤ k ∧ i = .int .i64 j ∧ Hid (swR (k - j) (a + j) (b + j) ys = F) ∧ Hid (SRow B g n c p L ys w0 wr)) (fun i _ => k - (intOf i).toNat)
  case atStart => exact ⟨0, xs, Nat.zero_le _, rfl, HF, HS⟩
  case round =>
    clear HF HS
    obtain ⟨j, ys, hj, rfl, HF, HS⟩ := hrel
    by_cases hjk : j < k
    · have j0 : (0 : Int) ≤ (j : Int) := by omega
      have j1 : (j : Int) < (k : Int) := by omega
      obtain ⟨s, hs⟩ : ∃ s, a + j = s := ⟨_, rfl⟩
      obtain ⟨t, ht⟩ : ∃ t, b + j = t := ⟨_, rfl⟩
      have HF2 : Hid (swR (k - (j + 1)) (a + (j + 1)) (b + (j + 1)) (swp ys s t) = F) := by
        have := HF.out
        rw [show k - j = (k - (j + 1)) + 1 by omega] at this
        rw [← hs, ← ht]; exact this
      have hs1 : (a : Int) + (j : Int) = (s : Int) := by omega
      have ht1 : (b : Int) + (j : Int) = (t : Int) := by omega
      have s1 : s < n := by omega
      have t1 : t < n := by omega
      have s2 : (s : Int) < (n : Int) := by omega
      have t2 : (t : Int) < (n : Int) := by omega
      have s0 : (0 : Int) ≤ (s : Int) := by omega
      have t0 : (0 : Int) ≤ (t : Int) := by omega
      have n1 : ¬ s * 2 = t * 2 := by omega
      have HSW := Lib.hid (HS.out.swap s t)
      obtain ⟨c0, c1⟩ := HS.out.get s1
      obtain ⟨d0, d1⟩ := HS.out.get t1
      obtain ⟨⟨x, y⟩, hx⟩ : ∃ r, nth ys s = r := ⟨_, rfl⟩
      obtain ⟨⟨u, v⟩, hu⟩ : ∃ r, nth ys t = r := ⟨_, rfl⟩
      rw [hx] at c0 c1 HSW
      rw [hu] at d0 d1 HSW
      simp only at c0 c1 d0 d1 HSW
      have f0 := HS.out.thaw (s * 2)
      have f1 := HS.out.thaw (s * 2 + 1)
      have f2 := HS.out.thaw (t * 2)
      have f3 := HS.out.thaw (t * 2 + 1)
      clear hx hu hs ht HF HS
      go_wp2_with fail
      go_big_region
      clear c0 c1 d0 d1 f0 f1 f2 f3
      go_wp2_with fail
      go_roundw
      case rel => exact ⟨j + 1, _, by omega, by go_num, HF2, HSW⟩
      case measure => simp [intOf]; omega
    · obtain rfl : j = k := by omega
      have hp : Hid (SPost B g n c p L F w0 (.returned (.tuple #[])) wr) := ⟨rfl, by have := HF.out; rw [Nat.sub_self] at this; rw [← this]; exact HS.out⟩
      clear HF HS
      go_wp2_with fail
      go_end0
      exact hp.out
end Go.Proofs.Ytoginbmflomjeaa
