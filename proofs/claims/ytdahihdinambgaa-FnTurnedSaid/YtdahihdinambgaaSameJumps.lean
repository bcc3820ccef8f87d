/- SameJumps of the model over two equal lists of lines. Of lists of at most 1048576 lines. -/
import Derived.Test.YtdahihdinambgaaGames
namespace Go.Proofs.Ytdahihdinambgaa
open Go.RowKit
set_option linter.unusedVariables false
set_option linter.unusedSimpArgs false
set_option maxHeartbeats 1000000 in
set_option maxRecDepth 100000 in
theorem sameLines (xs : List Ln) {n B1 B2 ca cb : Nat} {ga gb : Option Addr} (hn : xs.length = n) (hx : n ≤ 1048576) (w : World) (ha : w.ownsRow B1 60 3 (.slice ga n ca) n (lv xs)) (hb : w.ownsRow B2 60 3 (.slice gb n cb) n (lv xs)) :
    Calls Try.prog 24 #[.slice ga n ca, .slice gb n cb] w (QB true w) := by
  have HN := Lib.hid hn
  have HA := Lib.hid ha
  have HB := Lib.hid hb
  clear ha hb hn
  go_enter Try.func24, Try.ntmps24
  go_wp2_with fail
  go_loopw [5] (fun i wr => ∃ k : Nat, k ≤ n ∧ i = .int .i64 k ∧ Hid (Below w.heap.size w wr)) (fun i _ => n - (intOf i).toNat)
  case atStart => exact ⟨0, Nat.zero_le _, rfl, Below.refl _ _⟩
  case round =>
    obtain ⟨k, hk, rfl, HW⟩ := hrel
    by_cases hkn : k < n
    · obtain ⟨⟨f, o, t⟩, hl⟩ : ∃ l, xs[k]? = some l := ⟨_, List.getElem?_eq_getElem (by rw [HN.out]; exact hkn)⟩
      have k0 : (0 : Int) ≤ (k : Int) := by omega
      have k1 : (k : Int) < (n : Int) := by omega
      have XA := Lib.hid (own_below HA.out HW.out)
      have XB := Lib.hid (own_below HB.out HW.out)
      obtain ⟨g, rfl⟩ := lines_at XA.out HN.out (by omega)
      obtain ⟨g', rfl⟩ := lines_at XB.out HN.out (by omega)
      have CE : Hid (∀ w' : World, After wr w' → w'.cell? ⟨g, k * 3, none⟩ = some (.int .i64 f) ∧ w'.cell? ⟨g, k * 3 + 1, none⟩ = some (.int .i64 o) ∧ w'.cell? ⟨g, k * 3 + 2, none⟩ = some (.int .i64 t)) := fun w' hh => line_cells (own_below XA.out hh) HN.out hl
      have CF : Hid (∀ w' : World, After wr w' → w'.cell? ⟨g', k * 3, none⟩ = some (.int .i64 f) ∧ w'.cell? ⟨g', k * 3 + 1, none⟩ = some (.int .i64 o) ∧ w'.cell? ⟨g', k * 3 + 2, none⟩ = some (.int .i64 t)) := fun w' hh => line_cells (own_below XB.out hh) HN.out hl
      clear hl XA XB
      go_wp2_with fail
      refine wp_region_script (by kernel_rfl) (by kernel_rfl) ?_
      refine Script.load (i := 0) (v := ?_) rfl (by kernel_rfl) (by kernel_rfl) (fun _ _ _ h => h) (by kernel_rfl) ?_ ?_
      rotate_left
      · (intro wS hSw; obtain ⟨l0, l1, l2⟩ := CE.out _ (After.trans (After.drew (After.refl _)) hSw); obtain ⟨m0, m1, m2⟩ := CF.out _ (After.trans (After.drew (After.refl _)) hSw); go_simp; try with_reducible rfl)
      try simp only [Act.put, List.getElem_toArray, List.getElem_cons_succ, List.getElem_cons_zero, List.setIfInBounds_toArray, List.set_cons_zero, List.set_cons_succ]
      refine Script.load (i := 1) (v := ?_) rfl (by kernel_rfl) (by kernel_rfl) (fun _ _ _ h => h) (by kernel_rfl) ?_ ?_
      rotate_left
      · (intro wS hSw; obtain ⟨l0, l1, l2⟩ := CE.out _ (After.trans (After.drew (After.refl _)) hSw); obtain ⟨m0, m1, m2⟩ := CF.out _ (After.trans (After.drew (After.refl _)) hSw); go_simp; try with_reducible rfl)
      try simp only [Act.put, List.getElem_toArray, List.getElem_cons_succ, List.getElem_cons_zero, List.setIfInBounds_toArray, List.set_cons_zero, List.set_cons_succ]
      refine Script.load (i := 2) (v := ?_) rfl (by kernel_rfl) (by kernel_rfl) (fun _ _ _ h => h) (by kernel_rfl) ?_ ?_
      rotate_left
      · (intro wS hSw; obtain ⟨l0, l1, l2⟩ := CE.out _ (After.trans (After.drew (After.refl _)) hSw); obtain ⟨m0, m1, m2⟩ := CF.out _ (After.trans (After.drew (After.refl _)) hSw); go_simp; try with_reducible rfl)
      try simp only [Act.put, List.getElem_toArray, List.getElem_cons_succ, List.getElem_cons_zero, List.setIfInBounds_toArray, List.set_cons_zero, List.set_cons_succ]
      refine Script.load (i := 3) (v := ?_) rfl (by kernel_rfl) (by kernel_rfl) (fun _ _ _ h => h) (by kernel_rfl) ?_ ?_
      rotate_left
      · (intro wS hSw; obtain ⟨l0, l1, l2⟩ := CE.out _ (After.trans (After.drew (After.refl _)) hSw); obtain ⟨m0, m1, m2⟩ := CF.out _ (After.trans (After.drew (After.refl _)) hSw); go_simp; try with_reducible rfl)
      try simp only [Act.put, List.getElem_toArray, List.getElem_cons_succ, List.getElem_cons_zero, List.setIfInBounds_toArray, List.set_cons_zero, List.set_cons_succ]
      refine Script.load (i := 4) (v := ?_) rfl (by kernel_rfl) (by kernel_rfl) (fun _ _ _ h => h) (by kernel_rfl) ?_ ?_
      rotate_left
      · (intro wS hSw; obtain ⟨l0, l1, l2⟩ := CE.out _ (After.trans (After.drew (After.refl _)) hSw); obtain ⟨m0, m1, m2⟩ := CF.out _ (After.trans (After.drew (After.refl _)) hSw); go_simp; try with_reducible rfl)
      try simp only [Act.put, List.getElem_toArray, List.getElem_cons_succ, List.getElem_cons_zero, List.setIfInBounds_toArray, List.set_cons_zero, List.set_cons_succ]
      refine Script.load (i := 5) (v := ?_) rfl (by kernel_rfl) (by kernel_rfl) (fun _ _ _ h => h) (by kernel_rfl) ?_ ?_
      rotate_left
      · (intro wS hSw; obtain ⟨l0, l1, l2⟩ := CE.out _ (After.trans (After.drew (After.refl _)) hSw); obtain ⟨m0, m1, m2⟩ := CF.out _ (After.trans (After.drew (After.refl _)) hSw); go_simp; try with_reducible rfl)
      try simp only [Act.put, List.getElem_toArray, List.getElem_cons_succ, List.getElem_cons_zero, List.setIfInBounds_toArray, List.set_cons_zero, List.set_cons_succ]
      refine Script.load (i := 6) (v := ?_) rfl (by kernel_rfl) (by kernel_rfl) (fun _ _ _ h => h) (by kernel_rfl) ?_ ?_
      rotate_left
      · (intro wS hSw; obtain ⟨l0, l1, l2⟩ := CE.out _ (After.trans (After.drew (After.refl _)) hSw); obtain ⟨m0, m1, m2⟩ := CF.out _ (After.trans (After.drew (After.refl _)) hSw); go_simp; try with_reducible rfl)
      try simp only [Act.put, List.getElem_toArray, List.getElem_cons_succ, List.getElem_cons_zero, List.setIfInBounds_toArray, List.set_cons_zero, List.set_cons_succ]
      refine Script.load (i := 7) (v := ?_) rfl (by kernel_rfl) (by kernel_rfl) (fun _ _ _ h => h) (by kernel_rfl) ?_ ?_
      rotate_left
      · (intro wS hSw; obtain ⟨l0, l1, l2⟩ := CE.out _ (After.trans (After.drew (After.refl _)) hSw); obtain ⟨m0, m1, m2⟩ := CF.out _ (After.trans (After.drew (After.refl _)) hSw); go_simp; try with_reducible rfl)
      try simp only [Act.put, List.getElem_toArray, List.getElem_cons_succ, List.getElem_cons_zero, List.setIfInBounds_toArray, List.set_cons_zero, List.set_cons_succ]
      refine Script.load (i := 8) (v := ?_) rfl (by kernel_rfl) (by kernel_rfl) (fun _ _ _ h => h) (by kernel_rfl) ?_ ?_
      rotate_left
      · (intro wS hSw; obtain ⟨l0, l1, l2⟩ := CE.out _ (After.trans (After.drew (After.refl _)) hSw); obtain ⟨m0, m1, m2⟩ := CF.out _ (After.trans (After.drew (After.refl _)) hSw); go_simp; try with_reducible rfl)
      try simp only [Act.put, List.getElem_toArray, List.getElem_cons_succ, List.getElem_cons_zero, List.setIfInBounds_toArray, List.set_cons_zero, List.set_cons_succ]
      refine Script.done (by kernel_rfl) ?_
      intro wD hD hG
      have hb6 := After.trans (After.drew (After.refl _)) hD
      have HW6 := Lib.hid (HW.out.trans (hb6.mono HW.out.size))
      clear hD hG hb6 HW CE CF
      go_wp2_with fail
      go_roundw
      case rel => exact ⟨k + 1, by omega, by go_num, HW6⟩
      case measure => simp [intOf]; omega
    · obtain rfl : k = n := by omega
      go_wp2_with fail
      go_ret
      exact ⟨rfl, HW.out⟩
end Go.Proofs.Ytdahihdinambgaa
