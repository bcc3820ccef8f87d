/- Lists in common, meetings, the widest layer, of the model. -/
import Derived.Test.YtgkmapemnlgldaaLayB
namespace Go.Proofs.Ytgkmapemnlgldaa
open Go.RowKit
set_option linter.unusedVariables false
set_option linter.unusedSimpArgs false
theorem last_get {α : Type} (l : List α) : l.getLast? = l[l.length - 1]? := List.getLast?_eq_getElem?
set_option maxHeartbeats 8000000 in
set_option maxRecDepth 100000 in
theorem specCommon {a0 a1 : Option Addr} {n0 c0 n1 c1 : Nat} {xs ys : List Int} (w : World) (hx : n0 ≤ 1048576) (hy : n1 ≤ 1048576) (h0 : IntsAt w a0 n0 xs) (h1 : IntsAt w a1 n1 ys) (hl0 : xs.length = n0) (hl1 : ys.length = n1) :
    Calls Try.prog 26 #[.slice a0 n0 c0, .slice a1 n1 c1] w (OwnIv (commL xs ys) w) := by
  obtain ⟨j0, hj, jz0, jz1, jz2⟩ : ∃ i, Try.prog.info? 3 = some i ∧ i.zero = some (.int .i64 0) ∧ i.size = 1 ∧ i.bytes = 8 := ⟨_, by rfl, by rfl, by rfl, by rfl⟩
  have HX : Hid (∀ (i : Nat) (x : Int), xs[i]? = some x → ∃ b off, a0 = some ⟨b, off, none⟩ ∧ ∀ w', Below w.heap.size w w' → w'.cell? ⟨b, off + i, none⟩ = some (.int .i64 x)) := fun i x hi => by
    have hin : i < n0 := by rw [← hl0]; exact (List.getElem?_eq_some_iff.1 hi).1
    obtain ⟨b, off, rfl, hb, hc⟩ := h0.cell hin
    exact ⟨b, off, rfl, fun w' hw => (hw.cell (p := ⟨b, off + i, none⟩) hb).trans (hc i x hi)⟩
  have HY : Hid (∀ (i : Nat) (x : Int), ys[i]? = some x → ∃ b off, a1 = some ⟨b, off, none⟩ ∧ ∀ w', Below w.heap.size w w' → w'.cell? ⟨b, off + i, none⟩ = some (.int .i64 x)) := fun i x hi => by
    have hin : i < n1 := by rw [← hl1]; exact (List.getElem?_eq_some_iff.1 hi).1
    obtain ⟨b, off, rfl, hb, hc⟩ := h1.cell hin
    exact ⟨b, off, rfl, fun w' hw => (hw.cell (p := ⟨b, off + i, none⟩) hb).trans (hc i x hi)⟩
  have HStep : Hid (∀ (f i k : Nat) (out : List Int) (x y : Int), xs[i]? = some x → ys[k]? = some y → comF xs ys (f + 1) i k out = if x < y then comF xs ys f (i + 1) k out else if y < x then comF xs ys f i (k + 1) out else comF xs ys f (i + 1) (k + 1) (if out.getLast? = some x then out else out ++ [x])) := fun f i k out x y hx hy => comF_step hx hy
  have HEnd : Hid (∀ (f i k : Nat) (out : List Int), n0 ≤ i ∨ n1 ≤ k → comF xs ys f i k out = out) := fun f i k out h => comF_end (by rw [hl0, hl1]; exact h)
  have HGo : Hid (comF xs ys (n0 + n1) 0 0 [] = commL xs ys) := by unfold Hid commL; rw [hl0, hl1]
  have HN0 := Lib.hid hl0
  have HN1 := Lib.hid hl1
  generalize commL xs ys = R at *
  clear h0 h1 hl0 hl1
  go_enter Try.func26, Try.ntmps26
  go_wp2_with fail
  have HR0 : Hid ((w.alloc (.cells #[] 3)).ownsRow w.heap.size 3 1 (.slice (some ⟨w.heap.size, 0, none⟩) 0 0) 0 (iv [])) := World.ownsRow_made w #[] 0 (Nat.le_refl _) (by unfold maxLen; omega) rfl
  have HB0 : Hid (Below w.heap.size w (w.alloc (.cells #[] 3))) := (Below.refl _ _).alloc (Nat.le_refl _) _
  generalize w.alloc (.cells #[] 3) = W1 at *
  go_wp2_with fail
  go_loopw [5, 6, 7] (fun s u v wr => ∃ (i k f m : Nat) (out : List Int) (val : Value), i ≤ n0 ∧ k ≤ n1 ∧ n0 + n1 ≤ f + i + k ∧ m ≤ i ∧ u = .int .i64 i ∧ v = .int .i64 k ∧ val = s ∧ Hid (out.length = m) ∧ Hid (comF xs ys f i k out = R) ∧ Hid (wr.ownsRow w.heap.size 3 1 val m (iv out)) ∧ Hid (Below w.heap.size w wr)) (fun _ u v _ => (n0 - (intOf u).toNat) + (n1 - (intOf v).toNat))
  case atStart => exact ⟨0, 0, n0 + n1, 0, [], _, Nat.zero_le _, Nat.zero_le _, by omega, Nat.le_refl _, rfl, rfl, rfl, rfl, HGo, HR0, HB0⟩
  case round =>
    clear HR0 HB0 HGo
    obtain ⟨i, k, f, m, out, val, hi, hk, hf, hm, rfl, rfl, rfl, HM, HC, HR, HB⟩ := hrel
    by_cases hin : i < n0
    · by_cases hkn : k < n1
      · have i0' : (0 : Int) ≤ (i : Int) := by omega
        have i1' : (i : Int) < (n0 : Int) := by omega
        have k0' : (0 : Int) ≤ (k : Int) := by omega
        have k1' : (k : Int) < (n1 : Int) := by omega
        obtain ⟨x, hxi⟩ : ∃ x, xs[i]? = some x := ⟨_, List.getElem?_eq_getElem (by rw [HN0.out]; exact hin)⟩
        obtain ⟨y, hyk⟩ : ∃ y, ys[k]? = some y := ⟨_, List.getElem?_eq_getElem (by rw [HN1.out]; exact hkn)⟩
        obtain ⟨f0, rfl⟩ : ∃ f', f = f' + 1 := ⟨f - 1, by omega⟩
        have HSt := Lib.hid (HStep.out f0 i k out x y hxi hyk)
        obtain ⟨bx, ox, rfl, hcx⟩ := HX.out i x hxi
        obtain ⟨by', oy, rfl, hcy⟩ := HY.out k y hyk
        have HCx := Lib.hid hcx
        have HCy := Lib.hid hcy
        clear hxi hyk hcx hcy
        rcases Int.lt_trichotomy x y with hxy | hxy | hxy
        · have HC2 : Hid (comF xs ys f0 (i + 1) k out = R) := by unfold Hid; rw [← HC.out, HSt.out, if_pos hxy]
          have d1 : decide (x < y) = true := decide_eq_true hxy
          clear HSt HC
          have HD1 := Lib.hid d1
          clear d1 hxy
          go_wp2_with fail
          refine wp_region_script (by kernel_rfl) (by kernel_rfl) ?_
          refine Script.load (i := 0) (v := ?_) rfl (by kernel_rfl) (by kernel_rfl) (fun _ _ _ h => h) (by kernel_rfl) ?_ ?_
          rotate_left
          · (intro wS hSw; have hcx := HCx.out _ (HB.out.trans (Below.mono (After.trans (After.drew (After.refl _)) hSw) HB.out.size)); have hcy := HCy.out _ (HB.out.trans (Below.mono (After.trans (After.drew (After.refl _)) hSw) HB.out.size)); have hd := HD1.out; go_simp; try with_reducible rfl)
          try simp only [Act.put, List.getElem_toArray, List.getElem_cons_succ, List.getElem_cons_zero, List.setIfInBounds_toArray, List.set_cons_zero, List.set_cons_succ]
          refine Script.load (i := 1) (v := ?_) rfl (by kernel_rfl) (by kernel_rfl) (fun _ _ _ h => h) (by kernel_rfl) ?_ ?_
          rotate_left
          · (intro wS hSw; have hcx := HCx.out _ (HB.out.trans (Below.mono (After.trans (After.drew (After.refl _)) hSw) HB.out.size)); have hcy := HCy.out _ (HB.out.trans (Below.mono (After.trans (After.drew (After.refl _)) hSw) HB.out.size)); have hd := HD1.out; go_simp; try with_reducible rfl)
          try simp only [Act.put, List.getElem_toArray, List.getElem_cons_succ, List.getElem_cons_zero, List.setIfInBounds_toArray, List.set_cons_zero, List.set_cons_succ]
          refine Script.load (i := 2) (v := ?_) rfl (by kernel_rfl) (by kernel_rfl) (fun _ _ _ h => h) (by kernel_rfl) ?_ ?_
          rotate_left
          · (intro wS hSw; have hcx := HCx.out _ (HB.out.trans (Below.mono (After.trans (After.drew (After.refl _)) hSw) HB.out.size)); have hcy := HCy.out _ (HB.out.trans (Below.mono (After.trans (After.drew (After.refl _)) hSw) HB.out.size)); have hd := HD1.out; go_simp; try with_reducible rfl)
          try simp only [Act.put, List.getElem_toArray, List.getElem_cons_succ, List.getElem_cons_zero, List.setIfInBounds_toArray, List.set_cons_zero, List.set_cons_succ]
          refine Script.load (i := 3) (v := ?_) rfl (by kernel_rfl) (by kernel_rfl) (fun _ _ _ h => h) (by kernel_rfl) ?_ ?_
          rotate_left
          · (intro wS hSw; have hcx := HCx.out _ (HB.out.trans (Below.mono (After.trans (After.drew (After.refl _)) hSw) HB.out.size)); have hcy := HCy.out _ (HB.out.trans (Below.mono (After.trans (After.drew (After.refl _)) hSw) HB.out.size)); have hd := HD1.out; go_simp; try with_reducible rfl)
          try simp only [Act.put, List.getElem_toArray, List.getElem_cons_succ, List.getElem_cons_zero, List.setIfInBounds_toArray, List.set_cons_zero, List.set_cons_succ]
          refine Script.load (i := 4) (v := ?_) rfl (by kernel_rfl) (by kernel_rfl) (fun _ _ _ h => h) (by kernel_rfl) ?_ ?_
          rotate_left
          · (intro wS hSw; have hcx := HCx.out _ (HB.out.trans (Below.mono (After.trans (After.drew (After.refl _)) hSw) HB.out.size)); have hcy := HCy.out _ (HB.out.trans (Below.mono (After.trans (After.drew (After.refl _)) hSw) HB.out.size)); have hd := HD1.out; go_simp; try with_reducible rfl)
          try simp only [Act.put, List.getElem_toArray, List.getElem_cons_succ, List.getElem_cons_zero, List.setIfInBounds_toArray, List.set_cons_zero, List.set_cons_succ]
          refine Script.load (i := 5) (v := ?_) rfl (by kernel_rfl) (by kernel_rfl) (fun _ _ _ h => h) (by kernel_rfl) ?_ ?_
          rotate_left
          · (intro wS hSw; have hcx := HCx.out _ (HB.out.trans (Below.mono (After.trans (After.drew (After.refl _)) hSw) HB.out.size)); have hcy := HCy.out _ (HB.out.trans (Below.mono (After.trans (After.drew (After.refl _)) hSw) HB.out.size)); have hd := HD1.out; go_simp; try with_reducible rfl)
          try simp only [Act.put, List.getElem_toArray, List.getElem_cons_succ, List.getElem_cons_zero, List.setIfInBounds_toArray, List.set_cons_zero, List.set_cons_succ]
          refine Script.load (i := 6) (v := ?_) rfl (by kernel_rfl) (by kernel_rfl) (fun _ _ _ h => h) (by kernel_rfl) ?_ ?_
          rotate_left
          · (intro wS hSw; have hcx := HCx.out _ (HB.out.trans (Below.mono (After.trans (After.drew (After.refl _)) hSw) HB.out.size)); have hcy := HCy.out _ (HB.out.trans (Below.mono (After.trans (After.drew (After.refl _)) hSw) HB.out.size)); have hd := HD1.out; go_simp; try with_reducible rfl)
          try simp only [Act.put, List.getElem_toArray, List.getElem_cons_succ, List.getElem_cons_zero, List.setIfInBounds_toArray, List.set_cons_zero, List.set_cons_succ]
          refine Script.load (i := 7) (v := ?_) rfl (by kernel_rfl) (by kernel_rfl) (fun _ _ _ h => h) (by kernel_rfl) ?_ ?_
          rotate_left
          · (intro wS hSw; have hcx := HCx.out _ (HB.out.trans (Below.mono (After.trans (After.drew (After.refl _)) hSw) HB.out.size)); have hcy := HCy.out _ (HB.out.trans (Below.mono (After.trans (After.drew (After.refl _)) hSw) HB.out.size)); have hd := HD1.out; go_simp; try with_reducible rfl)
          try simp only [Act.put, List.getElem_toArray, List.getElem_cons_succ, List.getElem_cons_zero, List.setIfInBounds_toArray, List.set_cons_zero, List.set_cons_succ]
          refine Script.load (i := 8) (v := ?_) rfl (by kernel_rfl) (by kernel_rfl) (fun _ _ _ h => h) (by kernel_rfl) ?_ ?_
          rotate_left
          · (intro wS hSw; have hcx := HCx.out _ (HB.out.trans (Below.mono (After.trans (After.drew (After.refl _)) hSw) HB.out.size)); have hcy := HCy.out _ (HB.out.trans (Below.mono (After.trans (After.drew (After.refl _)) hSw) HB.out.size)); have hd := HD1.out; go_simp; try with_reducible rfl)
          try simp only [Act.put, List.getElem_toArray, List.getElem_cons_succ, List.getElem_cons_zero, List.setIfInBounds_toArray, List.set_cons_zero, List.set_cons_succ]
          refine Script.load (i := 9) (v := ?_) rfl (by kernel_rfl) (by kernel_rfl) (fun _ _ _ h => h) (by kernel_rfl) ?_ ?_
          rotate_left
          · (intro wS hSw; have hcx := HCx.out _ (HB.out.trans (Below.mono (After.trans (After.drew (After.refl _)) hSw) HB.out.size)); have hcy := HCy.out _ (HB.out.trans (Below.mono (After.trans (After.drew (After.refl _)) hSw) HB.out.size)); have hd := HD1.out; go_simp; try with_reducible rfl)
          try simp only [Act.put, List.getElem_toArray, List.getElem_cons_succ, List.getElem_cons_zero, List.setIfInBounds_toArray, List.set_cons_zero, List.set_cons_succ]
          refine Script.done (by kernel_rfl) ?_
          intro wD hD hG
          have HR2 := Lib.hid (own_below HR.out (After.trans (After.drew (After.refl _)) hD))
          have HB2 := Lib.hid (HB.out.trans (Below.mono (After.trans (After.drew (After.refl _)) hD) HB.out.size))
          clear hD hG HR HB
          go_wp2_with fail
          go_roundw
          case rel => exact ⟨i + 1, k, f0, m, out, _, by omega, by omega, by omega, by omega, by go_num, rfl, rfl, HM, HC2, HR2, HB2⟩
          case measure => simp [intOf]; omega
        · subst hxy
          have HD1 : Hid (decide (x < x) = false) := decide_eq_false (by omega)
          have HC2 : Hid (comF xs ys f0 (i + 1) (k + 1) (if out.getLast? = some x then out else out ++ [x]) = R) := by unfold Hid; rw [← HC.out, HSt.out, if_neg (show ¬ x < x by omega), if_neg (show ¬ x < x by omega)]
          clear HSt HC
          go_wp2_with fail
          refine wp_region_script (by kernel_rfl) (by kernel_rfl) ?_
          refine Script.load (i := 0) (v := ?_) rfl (by kernel_rfl) (by kernel_rfl) (fun _ _ _ h => h) (by kernel_rfl) ?_ ?_
          rotate_left
          · (intro wS hSw; have hcx := HCx.out _ (HB.out.trans (Below.mono (After.trans (After.drew (After.refl _)) hSw) HB.out.size)); have hcy := HCy.out _ (HB.out.trans (Below.mono (After.trans (After.drew (After.refl _)) hSw) HB.out.size)); have hd := HD1.out; go_simp; try with_reducible rfl)
          try simp only [Act.put, List.getElem_toArray, List.getElem_cons_succ, List.getElem_cons_zero, List.setIfInBounds_toArray, List.set_cons_zero, List.set_cons_succ]
          refine Script.load (i := 1) (v := ?_) rfl (by kernel_rfl) (by kernel_rfl) (fun _ _ _ h => h) (by kernel_rfl) ?_ ?_
          rotate_left
          · (intro wS hSw; have hcx := HCx.out _ (HB.out.trans (Below.mono (After.trans (After.drew (After.refl _)) hSw) HB.out.size)); have hcy := HCy.out _ (HB.out.trans (Below.mono (After.trans (After.drew (After.refl _)) hSw) HB.out.size)); have hd := HD1.out; go_simp; try with_reducible rfl)
          try simp only [Act.put, List.getElem_toArray, List.getElem_cons_succ, List.getElem_cons_zero, List.setIfInBounds_toArray, List.set_cons_zero, List.set_cons_succ]
          refine Script.load (i := 2) (v := ?_) rfl (by kernel_rfl) (by kernel_rfl) (fun _ _ _ h => h) (by kernel_rfl) ?_ ?_
          rotate_left
          · (intro wS hSw; have hcx := HCx.out _ (HB.out.trans (Below.mono (After.trans (After.drew (After.refl _)) hSw) HB.out.size)); have hcy := HCy.out _ (HB.out.trans (Below.mono (After.trans (After.drew (After.refl _)) hSw) HB.out.size)); have hd := HD1.out; go_simp; try with_reducible rfl)
          try simp only [Act.put, List.getElem_toArray, List.getElem_cons_succ, List.getElem_cons_zero, List.setIfInBounds_toArray, List.set_cons_zero, List.set_cons_succ]
          refine Script.load (i := 3) (v := ?_) rfl (by kernel_rfl) (by kernel_rfl) (fun _ _ _ h => h) (by kernel_rfl) ?_ ?_
          rotate_left
          · (intro wS hSw; have hcx := HCx.out _ (HB.out.trans (Below.mono (After.trans (After.drew (After.refl _)) hSw) HB.out.size)); have hcy := HCy.out _ (HB.out.trans (Below.mono (After.trans (After.drew (After.refl _)) hSw) HB.out.size)); have hd := HD1.out; go_simp; try with_reducible rfl)
          try simp only [Act.put, List.getElem_toArray, List.getElem_cons_succ, List.getElem_cons_zero, List.setIfInBounds_toArray, List.set_cons_zero, List.set_cons_succ]
          refine Script.load (i := 4) (v := ?_) rfl (by kernel_rfl) (by kernel_rfl) (fun _ _ _ h => h) (by kernel_rfl) ?_ ?_
          rotate_left
          · (intro wS hSw; have hcx := HCx.out _ (HB.out.trans (Below.mono (After.trans (After.drew (After.refl _)) hSw) HB.out.size)); have hcy := HCy.out _ (HB.out.trans (Below.mono (After.trans (After.drew (After.refl _)) hSw) HB.out.size)); have hd := HD1.out; go_simp; try with_reducible rfl)
          try simp only [Act.put, List.getElem_toArray, List.getElem_cons_succ, List.getElem_cons_zero, List.setIfInBounds_toArray, List.set_cons_zero, List.set_cons_succ]
          refine Script.load (i := 5) (v := ?_) rfl (by kernel_rfl) (by kernel_rfl) (fun _ _ _ h => h) (by kernel_rfl) ?_ ?_
          rotate_left
          · (intro wS hSw; have hcx := HCx.out _ (HB.out.trans (Below.mono (After.trans (After.drew (After.refl _)) hSw) HB.out.size)); have hcy := HCy.out _ (HB.out.trans (Below.mono (After.trans (After.drew (After.refl _)) hSw) HB.out.size)); have hd := HD1.out; go_simp; try with_reducible rfl)
          try simp only [Act.put, List.getElem_toArray, List.getElem_cons_succ, List.getElem_cons_zero, List.setIfInBounds_toArray, List.set_cons_zero, List.set_cons_succ]
          refine Script.load (i := 6) (v := ?_) rfl (by kernel_rfl) (by kernel_rfl) (fun _ _ _ h => h) (by kernel_rfl) ?_ ?_
          rotate_left
          · (intro wS hSw; have hcx := HCx.out _ (HB.out.trans (Below.mono (After.trans (After.drew (After.refl _)) hSw) HB.out.size)); have hcy := HCy.out _ (HB.out.trans (Below.mono (After.trans (After.drew (After.refl _)) hSw) HB.out.size)); have hd := HD1.out; go_simp; try with_reducible rfl)
          try simp only [Act.put, List.getElem_toArray, List.getElem_cons_succ, List.getElem_cons_zero, List.setIfInBounds_toArray, List.set_cons_zero, List.set_cons_succ]
          refine Script.load (i := 7) (v := ?_) rfl (by kernel_rfl) (by kernel_rfl) (fun _ _ _ h => h) (by kernel_rfl) ?_ ?_
          rotate_left
          · (intro wS hSw; have hcx := HCx.out _ (HB.out.trans (Below.mono (After.trans (After.drew (After.refl _)) hSw) HB.out.size)); have hcy := HCy.out _ (HB.out.trans (Below.mono (After.trans (After.drew (After.refl _)) hSw) HB.out.size)); have hd := HD1.out; go_simp; try with_reducible rfl)
          try simp only [Act.put, List.getElem_toArray, List.getElem_cons_succ, List.getElem_cons_zero, List.setIfInBounds_toArray, List.set_cons_zero, List.set_cons_succ]
          refine Script.load (i := 8) (v := ?_) rfl (by kernel_rfl) (by kernel_rfl) (fun _ _ _ h => h) (by kernel_rfl) ?_ ?_
          rotate_left
          · (intro wS hSw; have hcx := HCx.out _ (HB.out.trans (Below.mono (After.trans (After.drew (After.refl _)) hSw) HB.out.size)); have hcy := HCy.out _ (HB.out.trans (Below.mono (After.trans (After.drew (After.refl _)) hSw) HB.out.size)); have hd := HD1.out; go_simp; try with_reducible rfl)
          try simp only [Act.put, List.getElem_toArray, List.getElem_cons_succ, List.getElem_cons_zero, List.setIfInBounds_toArray, List.set_cons_zero, List.set_cons_succ]
          refine Script.load (i := 9) (v := ?_) rfl (by kernel_rfl) (by kernel_rfl) (fun _ _ _ h => h) (by kernel_rfl) ?_ ?_
          rotate_left
          · (intro wS hSw; have hcx := HCx.out _ (HB.out.trans (Below.mono (After.trans (After.drew (After.refl _)) hSw) HB.out.size)); have hcy := HCy.out _ (HB.out.trans (Below.mono (After.trans (After.drew (After.refl _)) hSw) HB.out.size)); have hd := HD1.out; go_simp; try with_reducible rfl)
          try simp only [Act.put, List.getElem_toArray, List.getElem_cons_succ, List.getElem_cons_zero, List.setIfInBounds_toArray, List.set_cons_zero, List.set_cons_succ]
          refine Script.done (by kernel_rfl) ?_
          intro wD hD hG
          have HR2 := Lib.hid (own_below HR.out (After.trans (After.drew (After.refl _)) hD))
          have HB2 := Lib.hid (HB.out.trans (Below.mono (After.trans (After.drew (After.refl _)) hD) HB.out.size))
          clear hD hG HR HB
          go_wp2_with fail
          refine wp_region_script (by kernel_rfl) (by kernel_rfl) ?_
          refine Script.load (i := 0) (v := ?_) rfl (by kernel_rfl) (by kernel_rfl) (fun _ _ _ h => h) (by kernel_rfl) ?_ ?_
          rotate_left
          · (intro wS hSw; have hcx := HCx.out _ (HB2.out.trans (Below.mono (After.trans (After.drew (After.refl _)) hSw) HB2.out.size)); have hcy := HCy.out _ (HB2.out.trans (Below.mono (After.trans (After.drew (After.refl _)) hSw) HB2.out.size)); have hd := HD1.out; go_simp; try with_reducible rfl)
          try simp only [Act.put, List.getElem_toArray, List.getElem_cons_succ, List.getElem_cons_zero, List.setIfInBounds_toArray, List.set_cons_zero, List.set_cons_succ]
          refine Script.load (i := 1) (v := ?_) rfl (by kernel_rfl) (by kernel_rfl) (fun _ _ _ h => h) (by kernel_rfl) ?_ ?_
          rotate_left
          · (intro wS hSw; have hcx := HCx.out _ (HB2.out.trans (Below.mono (After.trans (After.drew (After.refl _)) hSw) HB2.out.size)); have hcy := HCy.out _ (HB2.out.trans (Below.mono (After.trans (After.drew (After.refl _)) hSw) HB2.out.size)); have hd := HD1.out; go_simp; try with_reducible rfl)
          try simp only [Act.put, List.getElem_toArray, List.getElem_cons_succ, List.getElem_cons_zero, List.setIfInBounds_toArray, List.set_cons_zero, List.set_cons_succ]
          refine Script.load (i := 2) (v := ?_) rfl (by kernel_rfl) (by kernel_rfl) (fun _ _ _ h => h) (by kernel_rfl) ?_ ?_
          rotate_left
          · (intro wS hSw; have hcx := HCx.out _ (HB2.out.trans (Below.mono (After.trans (After.drew (After.refl _)) hSw) HB2.out.size)); have hcy := HCy.out _ (HB2.out.trans (Below.mono (After.trans (After.drew (After.refl _)) hSw) HB2.out.size)); have hd := HD1.out; go_simp; try with_reducible rfl)
          try simp only [Act.put, List.getElem_toArray, List.getElem_cons_succ, List.getElem_cons_zero, List.setIfInBounds_toArray, List.set_cons_zero, List.set_cons_succ]
          refine Script.load (i := 3) (v := ?_) rfl (by kernel_rfl) (by kernel_rfl) (fun _ _ _ h => h) (by kernel_rfl) ?_ ?_
          rotate_left
          · (intro wS hSw; have hcx := HCx.out _ (HB2.out.trans (Below.mono (After.trans (After.drew (After.refl _)) hSw) HB2.out.size)); have hcy := HCy.out _ (HB2.out.trans (Below.mono (After.trans (After.drew (After.refl _)) hSw) HB2.out.size)); have hd := HD1.out; go_simp; try with_reducible rfl)
          try simp only [Act.put, List.getElem_toArray, List.getElem_cons_succ, List.getElem_cons_zero, List.setIfInBounds_toArray, List.set_cons_zero, List.set_cons_succ]
          refine Script.load (i := 4) (v := ?_) rfl (by kernel_rfl) (by kernel_rfl) (fun _ _ _ h => h) (by kernel_rfl) ?_ ?_
          rotate_left
          · (intro wS hSw; have hcx := HCx.out _ (HB2.out.trans (Below.mono (After.trans (After.drew (After.refl _)) hSw) HB2.out.size)); have hcy := HCy.out _ (HB2.out.trans (Below.mono (After.trans (After.drew (After.refl _)) hSw) HB2.out.size)); have hd := HD1.out; go_simp; try with_reducible rfl)
          try simp only [Act.put, List.getElem_toArray, List.getElem_cons_succ, List.getElem_cons_zero, List.setIfInBounds_toArray, List.set_cons_zero, List.set_cons_succ]
          refine Script.load (i := 5) (v := ?_) rfl (by kernel_rfl) (by kernel_rfl) (fun _ _ _ h => h) (by kernel_rfl) ?_ ?_
          rotate_left
          · (intro wS hSw; have hcx := HCx.out _ (HB2.out.trans (Below.mono (After.trans (After.drew (After.refl _)) hSw) HB2.out.size)); have hcy := HCy.out _ (HB2.out.trans (Below.mono (After.trans (After.drew (After.refl _)) hSw) HB2.out.size)); have hd := HD1.out; go_simp; try with_reducible rfl)
          try simp only [Act.put, List.getElem_toArray, List.getElem_cons_succ, List.getElem_cons_zero, List.setIfInBounds_toArray, List.set_cons_zero, List.set_cons_succ]
          refine Script.load (i := 6) (v := ?_) rfl (by kernel_rfl) (by kernel_rfl) (fun _ _ _ h => h) (by kernel_rfl) ?_ ?_
          rotate_left
          · (intro wS hSw; have hcx := HCx.out _ (HB2.out.trans (Below.mono (After.trans (After.drew (After.refl _)) hSw) HB2.out.size)); have hcy := HCy.out _ (HB2.out.trans (Below.mono (After.trans (After.drew (After.refl _)) hSw) HB2.out.size)); have hd := HD1.out; go_simp; try with_reducible rfl)
          try simp only [Act.put, List.getElem_toArray, List.getElem_cons_succ, List.getElem_cons_zero, List.setIfInBounds_toArray, List.set_cons_zero, List.set_cons_succ]
          refine Script.load (i := 7) (v := ?_) rfl (by kernel_rfl) (by kernel_rfl) (fun _ _ _ h => h) (by kernel_rfl) ?_ ?_
          rotate_left
          · (intro wS hSw; have hcx := HCx.out _ (HB2.out.trans (Below.mono (After.trans (After.drew (After.refl _)) hSw) HB2.out.size)); have hcy := HCy.out _ (HB2.out.trans (Below.mono (After.trans (After.drew (After.refl _)) hSw) HB2.out.size)); have hd := HD1.out; go_simp; try with_reducible rfl)
          try simp only [Act.put, List.getElem_toArray, List.getElem_cons_succ, List.getElem_cons_zero, List.setIfInBounds_toArray, List.set_cons_zero, List.set_cons_succ]
          refine Script.load (i := 8) (v := ?_) rfl (by kernel_rfl) (by kernel_rfl) (fun _ _ _ h => h) (by kernel_rfl) ?_ ?_
          rotate_left
          · (intro wS hSw; have hcx := HCx.out _ (HB2.out.trans (Below.mono (After.trans (After.drew (After.refl _)) hSw) HB2.out.size)); have hcy := HCy.out _ (HB2.out.trans (Below.mono (After.trans (After.drew (After.refl _)) hSw) HB2.out.size)); have hd := HD1.out; go_simp; try with_reducible rfl)
          try simp only [Act.put, List.getElem_toArray, List.getElem_cons_succ, List.getElem_cons_zero, List.setIfInBounds_toArray, List.set_cons_zero, List.set_cons_succ]
          refine Script.load (i := 9) (v := ?_) rfl (by kernel_rfl) (by kernel_rfl) (fun _ _ _ h => h) (by kernel_rfl) ?_ ?_
          rotate_left
          · (intro wS hSw; have hcx := HCx.out _ (HB2.out.trans (Below.mono (After.trans (After.drew (After.refl _)) hSw) HB2.out.size)); have hcy := HCy.out _ (HB2.out.trans (Below.mono (After.trans (After.drew (After.refl _)) hSw) HB2.out.size)); have hd := HD1.out; go_simp; try with_reducible rfl)
          try simp only [Act.put, List.getElem_toArray, List.getElem_cons_succ, List.getElem_cons_zero, List.setIfInBounds_toArray, List.set_cons_zero, List.set_cons_succ]
          refine Script.done (by kernel_rfl) ?_
          intro wD hD hG
          have HR3 := Lib.hid (own_below HR2.out (After.trans (After.drew (After.refl _)) hD))
          have HB3 := Lib.hid (HB2.out.trans (Below.mono (After.trans (After.drew (After.refl _)) hD) HB2.out.size))
          clear hD hG HR2 HB2
          go_wp2_with fail
          have hmn : m ≤ 1000000000 := by omega
          have HPush : Hid (∀ (g cap : Nat) (w' : World), w'.ownsRow w.heap.size 3 1 (.slice (some ⟨g, 0, none⟩) (m + 1) cap) (m + 1) (iv out ++ [.int .i64 x]) → w'.ownsRow w.heap.size 3 1 (.slice (some ⟨g, 0, none⟩) (m + 1) cap) (m + 1) (iv (out ++ [x])) ∧ (out ++ [x]).length = m + 1) := fun g cap w' h => ⟨by rw [iv_snoc]; exact h, by rw [List.length_append, HM.out]; rfl⟩
          rcases Nat.eq_zero_or_pos m with hm0 | hm0
          · subst hm0
            have HO : Hid (out = []) := List.eq_nil_of_length_eq_zero HM.out
            have HC3 : Hid (comF xs ys f0 (i + 1) (k + 1) (out ++ [x]) = R) := by
              have := HC2.out
              rw [HO.out] at this
              unfold Hid
              rw [HO.out]
              simpa using this
            obtain ⟨va, vc, rfl⟩ := int_form HR3.out
            refine wp_region_script (by kernel_rfl) (by kernel_rfl) ?_
            refine Script.load (i := 0) (v := ?_) rfl (by kernel_rfl) (by kernel_rfl) (fun _ _ _ h => h) (by kernel_rfl) ?_ ?_
            rotate_left
            · (intro wS hSw; skip; go_simp; try with_reducible rfl)
            try simp only [Act.put, List.getElem_toArray, List.getElem_cons_succ, List.getElem_cons_zero, List.setIfInBounds_toArray, List.set_cons_zero, List.set_cons_succ]
            refine Script.load (i := 1) (v := ?_) rfl (by kernel_rfl) (by kernel_rfl) (fun _ _ _ h => h) (by kernel_rfl) ?_ ?_
            rotate_left
            · (intro wS hSw; skip; go_simp; try with_reducible rfl)
            try simp only [Act.put, List.getElem_toArray, List.getElem_cons_succ, List.getElem_cons_zero, List.setIfInBounds_toArray, List.set_cons_zero, List.set_cons_succ]
            refine Script.load (i := 2) (v := ?_) rfl (by kernel_rfl) (by kernel_rfl) (fun _ _ _ h => h) (by kernel_rfl) ?_ ?_
            rotate_left
            · (intro wS hSw; skip; go_simp; try with_reducible rfl)
            try simp only [Act.put, List.getElem_toArray, List.getElem_cons_succ, List.getElem_cons_zero, List.setIfInBounds_toArray, List.set_cons_zero, List.set_cons_succ]
            refine Script.load (i := 3) (v := ?_) rfl (by kernel_rfl) (by kernel_rfl) (fun _ _ _ h => h) (by kernel_rfl) ?_ ?_
            rotate_left
            · (intro wS hSw; skip; go_simp; try with_reducible rfl)
            try simp only [Act.put, List.getElem_toArray, List.getElem_cons_succ, List.getElem_cons_zero, List.setIfInBounds_toArray, List.set_cons_zero, List.set_cons_succ]
            refine Script.skip (i := 4) rfl (by kernel_rfl) (by kernel_rfl) (fun _ _ _ h => h) (by kernel_rfl) ?_
            try simp only [Act.put, List.getElem_toArray, List.getElem_cons_succ, List.getElem_cons_zero, List.setIfInBounds_toArray, List.set_cons_zero, List.set_cons_succ]
            refine Script.skip (i := 5) rfl (by kernel_rfl) (by kernel_rfl) (fun _ _ _ h => h) (by kernel_rfl) ?_
            try simp only [Act.put, List.getElem_toArray, List.getElem_cons_succ, List.getElem_cons_zero, List.setIfInBounds_toArray, List.set_cons_zero, List.set_cons_succ]
            refine Script.skip (i := 6) rfl (by kernel_rfl) (by kernel_rfl) (fun _ _ _ h => h) (by kernel_rfl) ?_
            try simp only [Act.put, List.getElem_toArray, List.getElem_cons_succ, List.getElem_cons_zero, List.setIfInBounds_toArray, List.set_cons_zero, List.set_cons_succ]
            refine Script.skip (i := 7) rfl (by kernel_rfl) (by kernel_rfl) (fun _ _ _ h => h) (by kernel_rfl) ?_
            try simp only [Act.put, List.getElem_toArray, List.getElem_cons_succ, List.getElem_cons_zero, List.setIfInBounds_toArray, List.set_cons_zero, List.set_cons_succ]
            refine Script.skip (i := 8) rfl (by kernel_rfl) (by kernel_rfl) (fun _ _ _ h => h) (by kernel_rfl) ?_
            try simp only [Act.put, List.getElem_toArray, List.getElem_cons_succ, List.getElem_cons_zero, List.setIfInBounds_toArray, List.set_cons_zero, List.set_cons_succ]
            refine Script.skip (i := 9) rfl (by kernel_rfl) (by kernel_rfl) (fun _ _ _ h => h) (by kernel_rfl) ?_
            try simp only [Act.put, List.getElem_toArray, List.getElem_cons_succ, List.getElem_cons_zero, List.setIfInBounds_toArray, List.set_cons_zero, List.set_cons_succ]
            refine Script.skip (i := 10) rfl (by kernel_rfl) (by kernel_rfl) (fun _ _ _ h => h) (by kernel_rfl) ?_
            try simp only [Act.put, List.getElem_toArray, List.getElem_cons_succ, List.getElem_cons_zero, List.setIfInBounds_toArray, List.set_cons_zero, List.set_cons_succ]
            refine Script.skip (i := 11) rfl (by kernel_rfl) (by kernel_rfl) (fun _ _ _ h => h) (by kernel_rfl) ?_
            try simp only [Act.put, List.getElem_toArray, List.getElem_cons_succ, List.getElem_cons_zero, List.setIfInBounds_toArray, List.set_cons_zero, List.set_cons_succ]
            refine Script.skip (i := 12) rfl (by kernel_rfl) (by kernel_rfl) (fun _ _ _ h => h) (by kernel_rfl) ?_
            try simp only [Act.put, List.getElem_toArray, List.getElem_cons_succ, List.getElem_cons_zero, List.setIfInBounds_toArray, List.set_cons_zero, List.set_cons_succ]
            refine Script.skip (i := 13) rfl (by kernel_rfl) (by kernel_rfl) (fun _ _ _ h => h) (by kernel_rfl) ?_
            try simp only [Act.put, List.getElem_toArray, List.getElem_cons_succ, List.getElem_cons_zero, List.setIfInBounds_toArray, List.set_cons_zero, List.set_cons_succ]
            refine Script.skip (i := 14) rfl (by kernel_rfl) (by kernel_rfl) (fun _ _ _ h => h) (by kernel_rfl) ?_
            try simp only [Act.put, List.getElem_toArray, List.getElem_cons_succ, List.getElem_cons_zero, List.setIfInBounds_toArray, List.set_cons_zero, List.set_cons_succ]
            refine Script.load (i := 15) (v := ?_) rfl (by kernel_rfl) (by kernel_rfl) (fun _ _ _ h => h) (by kernel_rfl) ?_ ?_
            rotate_left
            · (intro wS hSw; skip; go_simp; try with_reducible rfl)
            try simp only [Act.put, List.getElem_toArray, List.getElem_cons_succ, List.getElem_cons_zero, List.setIfInBounds_toArray, List.set_cons_zero, List.set_cons_succ]
            refine Script.done (by kernel_rfl) ?_
            intro wD hD hG
            have HR4 := Lib.hid (own_below HR3.out (After.trans (After.drew (After.refl _)) hD))
            have HB4 := Lib.hid (HB3.out.trans (Below.mono (After.trans (After.drew (After.refl _)) hD) HB3.out.size))
            clear hD hG HR3 HB3 HC2
            have hcx := HCx.out _ HB4.out
            have hBs := HB4.out.size
            have hown := HR4.out
            go_wp2_with (at_builtin; refine wpList_append_one rfl (.tmp 35) (.tmp 40) 30 rfl w.heap.size 3 j0 (.int .i64 0) 8 Try.underlying30 hj jz0 jz1 jz2 rfl (by decide) _ 0 (iv out) rfl hown rfl rfl hmn hBs ?_; intro g' cap' w8 hown' hgrow hb2)
            have HR5 := Lib.hid (HPush.out _ _ _ hown').1
            have HM5 := Lib.hid (HPush.out _ _ _ hown').2
            have HB5 := Lib.hid (HB4.out.trans hb2)
            clear hown' hgrow hb2 hown hcx hBs HR4 HB4 HPush
            go_wp2_with fail
            go_roundw
            case rel => exact ⟨i + 1, k + 1, f0, 0 + 1, _, _, by omega, by omega, by omega, by omega, by go_num, by go_num, rfl, HM5, HC3, HR5, HB5⟩
            case measure => simp [intOf]; omega
          · obtain ⟨m1, hm1⟩ : ∃ m1, m = m1 + 1 := ⟨m - 1, by omega⟩
            obtain ⟨z, hz⟩ : ∃ z, out[m1]? = some z := ⟨_, List.getElem?_eq_getElem (by rw [HM.out]; omega)⟩
            have HLast : Hid (out.getLast? = some z) := by
              unfold Hid
              rw [last_get, HM.out, show m - 1 = m1 by omega]
              exact hz
            obtain ⟨va, vc, rfl⟩ := int_form HR3.out
            obtain ⟨go, rfl⟩ := one_block HR3.out hm0
            have HCz : Hid (∀ w', After wD w' → w'.cell? ⟨go, m1, none⟩ = some (.int .i64 z)) := fun w' h => own_cell (own_below HR3.out h) m1 (by omega) _ (by simp [iv, hz])
            have hwm : IntKind.i64.wrap ((m : Int) - 1) = (m1 : Int) := by rw [show (m : Int) - 1 = (m1 : Int) by omega]; exact IntWalk.i64_in _ (by omega)
            have hmz : ((m : Int) == 0) = false := by simp; omega
            have m0' : (0 : Int) ≤ (m1 : Int) := by omega
            have m1' : (m1 : Int) < (m : Int) := by omega
            have HM1 := Lib.hid hm1
            clear hz hm1 hm0
            by_cases hzx : z = x
            · have HNe : Hid ((z != x) = false) := by unfold Hid; simp [hzx]
              have HC3 : Hid (comF xs ys f0 (i + 1) (k + 1) out = R) := by
                have := HC2.out
                rwa [HLast.out, hzx, if_pos rfl] at this
              clear hzx HC2
              refine wp_region_script (by kernel_rfl) (by kernel_rfl) ?_
              refine Script.load (i := 0) (v := ?_) rfl (by kernel_rfl) (by kernel_rfl) (fun _ _ _ h => h) (by kernel_rfl) ?_ ?_
              rotate_left
              · (intro wS hSw; have hcx := HCx.out _ (HB3.out.trans (Below.mono (After.trans (After.drew (After.refl _)) hSw) HB3.out.size)); have hcz := HCz.out _ (After.trans (After.drew (After.refl _)) hSw); have hne := HNe.out; go_simp; try with_reducible rfl)
              try simp only [Act.put, List.getElem_toArray, List.getElem_cons_succ, List.getElem_cons_zero, List.setIfInBounds_toArray, List.set_cons_zero, List.set_cons_succ]
              refine Script.load (i := 1) (v := ?_) rfl (by kernel_rfl) (by kernel_rfl) (fun _ _ _ h => h) (by kernel_rfl) ?_ ?_
              rotate_left
              · (intro wS hSw; have hcx := HCx.out _ (HB3.out.trans (Below.mono (After.trans (After.drew (After.refl _)) hSw) HB3.out.size)); have hcz := HCz.out _ (After.trans (After.drew (After.refl _)) hSw); have hne := HNe.out; go_simp; try with_reducible rfl)
              try simp only [Act.put, List.getElem_toArray, List.getElem_cons_succ, List.getElem_cons_zero, List.setIfInBounds_toArray, List.set_cons_zero, List.set_cons_succ]
              refine Script.load (i := 2) (v := ?_) rfl (by kernel_rfl) (by kernel_rfl) (fun _ _ _ h => h) (by kernel_rfl) ?_ ?_
              rotate_left
              · (intro wS hSw; have hcx := HCx.out _ (HB3.out.trans (Below.mono (After.trans (After.drew (After.refl _)) hSw) HB3.out.size)); have hcz := HCz.out _ (After.trans (After.drew (After.refl _)) hSw); have hne := HNe.out; go_simp; try with_reducible rfl)
              try simp only [Act.put, List.getElem_toArray, List.getElem_cons_succ, List.getElem_cons_zero, List.setIfInBounds_toArray, List.set_cons_zero, List.set_cons_succ]
              refine Script.load (i := 3) (v := ?_) rfl (by kernel_rfl) (by kernel_rfl) (fun _ _ _ h => h) (by kernel_rfl) ?_ ?_
              rotate_left
              · (intro wS hSw; have hcx := HCx.out _ (HB3.out.trans (Below.mono (After.trans (After.drew (After.refl _)) hSw) HB3.out.size)); have hcz := HCz.out _ (After.trans (After.drew (After.refl _)) hSw); have hne := HNe.out; go_simp; try with_reducible rfl)
              try simp only [Act.put, List.getElem_toArray, List.getElem_cons_succ, List.getElem_cons_zero, List.setIfInBounds_toArray, List.set_cons_zero, List.set_cons_succ]
              refine Script.load (i := 4) (v := ?_) rfl (by kernel_rfl) (by kernel_rfl) (fun _ _ _ h => h) (by kernel_rfl) ?_ ?_
              rotate_left
              · (intro wS hSw; have hcx := HCx.out _ (HB3.out.trans (Below.mono (After.trans (After.drew (After.refl _)) hSw) HB3.out.size)); have hcz := HCz.out _ (After.trans (After.drew (After.refl _)) hSw); have hne := HNe.out; go_simp; try with_reducible rfl)
              try simp only [Act.put, List.getElem_toArray, List.getElem_cons_succ, List.getElem_cons_zero, List.setIfInBounds_toArray, List.set_cons_zero, List.set_cons_succ]
              refine Script.load (i := 5) (v := ?_) rfl (by kernel_rfl) (by kernel_rfl) (fun _ _ _ h => h) (by kernel_rfl) ?_ ?_
              rotate_left
              · (intro wS hSw; have hcx := HCx.out _ (HB3.out.trans (Below.mono (After.trans (After.drew (After.refl _)) hSw) HB3.out.size)); have hcz := HCz.out _ (After.trans (After.drew (After.refl _)) hSw); have hne := HNe.out; go_simp; try with_reducible rfl)
              try simp only [Act.put, List.getElem_toArray, List.getElem_cons_succ, List.getElem_cons_zero, List.setIfInBounds_toArray, List.set_cons_zero, List.set_cons_succ]
              refine Script.load (i := 6) (v := ?_) rfl (by kernel_rfl) (by kernel_rfl) (fun _ _ _ h => h) (by kernel_rfl) ?_ ?_
              rotate_left
              · (intro wS hSw; have hcx := HCx.out _ (HB3.out.trans (Below.mono (After.trans (After.drew (After.refl _)) hSw) HB3.out.size)); have hcz := HCz.out _ (After.trans (After.drew (After.refl _)) hSw); have hne := HNe.out; go_simp; try with_reducible rfl)
              try simp only [Act.put, List.getElem_toArray, List.getElem_cons_succ, List.getElem_cons_zero, List.setIfInBounds_toArray, List.set_cons_zero, List.set_cons_succ]
              refine Script.load (i := 7) (v := ?_) rfl (by kernel_rfl) (by kernel_rfl) (fun _ _ _ h => h) (by kernel_rfl) ?_ ?_
              rotate_left
              · (intro wS hSw; have hcx := HCx.out _ (HB3.out.trans (Below.mono (After.trans (After.drew (After.refl _)) hSw) HB3.out.size)); have hcz := HCz.out _ (After.trans (After.drew (After.refl _)) hSw); have hne := HNe.out; go_simp; try with_reducible rfl)
              try simp only [Act.put, List.getElem_toArray, List.getElem_cons_succ, List.getElem_cons_zero, List.setIfInBounds_toArray, List.set_cons_zero, List.set_cons_succ]
              refine Script.load (i := 8) (v := ?_) rfl (by kernel_rfl) (by kernel_rfl) (fun _ _ _ h => h) (by kernel_rfl) ?_ ?_
              rotate_left
              · (intro wS hSw; have hcx := HCx.out _ (HB3.out.trans (Below.mono (After.trans (After.drew (After.refl _)) hSw) HB3.out.size)); have hcz := HCz.out _ (After.trans (After.drew (After.refl _)) hSw); have hne := HNe.out; go_simp; try with_reducible rfl)
              try simp only [Act.put, List.getElem_toArray, List.getElem_cons_succ, List.getElem_cons_zero, List.setIfInBounds_toArray, List.set_cons_zero, List.set_cons_succ]
              refine Script.load (i := 9) (v := ?_) rfl (by kernel_rfl) (by kernel_rfl) (fun _ _ _ h => h) (by kernel_rfl) ?_ ?_
              rotate_left
              · (intro wS hSw; have hcx := HCx.out _ (HB3.out.trans (Below.mono (After.trans (After.drew (After.refl _)) hSw) HB3.out.size)); have hcz := HCz.out _ (After.trans (After.drew (After.refl _)) hSw); have hne := HNe.out; go_simp; try with_reducible rfl)
              try simp only [Act.put, List.getElem_toArray, List.getElem_cons_succ, List.getElem_cons_zero, List.setIfInBounds_toArray, List.set_cons_zero, List.set_cons_succ]
              refine Script.load (i := 10) (v := ?_) rfl (by kernel_rfl) (by kernel_rfl) (fun _ _ _ h => h) (by kernel_rfl) ?_ ?_
              rotate_left
              · (intro wS hSw; have hcx := HCx.out _ (HB3.out.trans (Below.mono (After.trans (After.drew (After.refl _)) hSw) HB3.out.size)); have hcz := HCz.out _ (After.trans (After.drew (After.refl _)) hSw); have hne := HNe.out; go_simp; try with_reducible rfl)
              try simp only [Act.put, List.getElem_toArray, List.getElem_cons_succ, List.getElem_cons_zero, List.setIfInBounds_toArray, List.set_cons_zero, List.set_cons_succ]
              refine Script.load (i := 11) (v := ?_) rfl (by kernel_rfl) (by kernel_rfl) (fun _ _ _ h => h) (by kernel_rfl) ?_ ?_
              rotate_left
              · (intro wS hSw; have hcx := HCx.out _ (HB3.out.trans (Below.mono (After.trans (After.drew (After.refl _)) hSw) HB3.out.size)); have hcz := HCz.out _ (After.trans (After.drew (After.refl _)) hSw); have hne := HNe.out; go_simp; try with_reducible rfl)
              try simp only [Act.put, List.getElem_toArray, List.getElem_cons_succ, List.getElem_cons_zero, List.setIfInBounds_toArray, List.set_cons_zero, List.set_cons_succ]
              refine Script.load (i := 12) (v := ?_) rfl (by kernel_rfl) (by kernel_rfl) (fun _ _ _ h => h) (by kernel_rfl) ?_ ?_
              rotate_left
              · (intro wS hSw; have hcx := HCx.out _ (HB3.out.trans (Below.mono (After.trans (After.drew (After.refl _)) hSw) HB3.out.size)); have hcz := HCz.out _ (After.trans (After.drew (After.refl _)) hSw); have hne := HNe.out; go_simp; try with_reducible rfl)
              try simp only [Act.put, List.getElem_toArray, List.getElem_cons_succ, List.getElem_cons_zero, List.setIfInBounds_toArray, List.set_cons_zero, List.set_cons_succ]
              refine Script.load (i := 13) (v := ?_) rfl (by kernel_rfl) (by kernel_rfl) (fun _ _ _ h => h) (by kernel_rfl) ?_ ?_
              rotate_left
              · (intro wS hSw; have hcx := HCx.out _ (HB3.out.trans (Below.mono (After.trans (After.drew (After.refl _)) hSw) HB3.out.size)); have hcz := HCz.out _ (After.trans (After.drew (After.refl _)) hSw); have hne := HNe.out; go_simp; try with_reducible rfl)
              try simp only [Act.put, List.getElem_toArray, List.getElem_cons_succ, List.getElem_cons_zero, List.setIfInBounds_toArray, List.set_cons_zero, List.set_cons_succ]
              refine Script.load (i := 14) (v := ?_) rfl (by kernel_rfl) (by kernel_rfl) (fun _ _ _ h => h) (by kernel_rfl) ?_ ?_
              rotate_left
              · (intro wS hSw; have hcx := HCx.out _ (HB3.out.trans (Below.mono (After.trans (After.drew (After.refl _)) hSw) HB3.out.size)); have hcz := HCz.out _ (After.trans (After.drew (After.refl _)) hSw); have hne := HNe.out; go_simp; try with_reducible rfl)
              try simp only [Act.put, List.getElem_toArray, List.getElem_cons_succ, List.getElem_cons_zero, List.setIfInBounds_toArray, List.set_cons_zero, List.set_cons_succ]
              refine Script.load (i := 15) (v := ?_) rfl (by kernel_rfl) (by kernel_rfl) (fun _ _ _ h => h) (by kernel_rfl) ?_ ?_
              rotate_left
              · (intro wS hSw; have hcx := HCx.out _ (HB3.out.trans (Below.mono (After.trans (After.drew (After.refl _)) hSw) HB3.out.size)); have hcz := HCz.out _ (After.trans (After.drew (After.refl _)) hSw); have hne := HNe.out; go_simp; try with_reducible rfl)
              try simp only [Act.put, List.getElem_toArray, List.getElem_cons_succ, List.getElem_cons_zero, List.setIfInBounds_toArray, List.set_cons_zero, List.set_cons_succ]
              refine Script.done (by kernel_rfl) ?_
              intro wD hD hG
              have HR4 := Lib.hid (own_below HR3.out (After.trans (After.drew (After.refl _)) hD))
              have HB4 := Lib.hid (HB3.out.trans (Below.mono (After.trans (After.drew (After.refl _)) hD) HB3.out.size))
              clear hD hG HR3 HB3
              go_wp2_with fail
              go_roundw
              case rel => exact ⟨i + 1, k + 1, f0, m, _, _, by omega, by omega, by omega, by omega, by go_num, by go_num, rfl, HM, HC3, HR4, HB4⟩
              case measure => simp [intOf]; omega
            · have HNe : Hid ((z != x) = true) := by unfold Hid; simp [hzx]
              have HC3 : Hid (comF xs ys f0 (i + 1) (k + 1) (out ++ [x]) = R) := by
                have := HC2.out
                rwa [HLast.out, if_neg (fun e => hzx (Option.some.inj e))] at this
              clear hzx HC2
              refine wp_region_script (by kernel_rfl) (by kernel_rfl) ?_
              refine Script.load (i := 0) (v := ?_) rfl (by kernel_rfl) (by kernel_rfl) (fun _ _ _ h => h) (by kernel_rfl) ?_ ?_
              rotate_left
              · (intro wS hSw; have hcx := HCx.out _ (HB3.out.trans (Below.mono (After.trans (After.drew (After.refl _)) hSw) HB3.out.size)); have hcz := HCz.out _ (After.trans (After.drew (After.refl _)) hSw); have hne := HNe.out; go_simp; try with_reducible rfl)
              try simp only [Act.put, List.getElem_toArray, List.getElem_cons_succ, List.getElem_cons_zero, List.setIfInBounds_toArray, List.set_cons_zero, List.set_cons_succ]
              refine Script.load (i := 1) (v := ?_) rfl (by kernel_rfl) (by kernel_rfl) (fun _ _ _ h => h) (by kernel_rfl) ?_ ?_
              rotate_left
              · (intro wS hSw; have hcx := HCx.out _ (HB3.out.trans (Below.mono (After.trans (After.drew (After.refl _)) hSw) HB3.out.size)); have hcz := HCz.out _ (After.trans (After.drew (After.refl _)) hSw); have hne := HNe.out; go_simp; try with_reducible rfl)
              try simp only [Act.put, List.getElem_toArray, List.getElem_cons_succ, List.getElem_cons_zero, List.setIfInBounds_toArray, List.set_cons_zero, List.set_cons_succ]
              refine Script.load (i := 2) (v := ?_) rfl (by kernel_rfl) (by kernel_rfl) (fun _ _ _ h => h) (by kernel_rfl) ?_ ?_
              rotate_left
              · (intro wS hSw; have hcx := HCx.out _ (HB3.out.trans (Below.mono (After.trans (After.drew (After.refl _)) hSw) HB3.out.size)); have hcz := HCz.out _ (After.trans (After.drew (After.refl _)) hSw); have hne := HNe.out; go_simp; try with_reducible rfl)
              try simp only [Act.put, List.getElem_toArray, List.getElem_cons_succ, List.getElem_cons_zero, List.setIfInBounds_toArray, List.set_cons_zero, List.set_cons_succ]
              refine Script.load (i := 3) (v := ?_) rfl (by kernel_rfl) (by kernel_rfl) (fun _ _ _ h => h) (by kernel_rfl) ?_ ?_
              rotate_left
              · (intro wS hSw; have hcx := HCx.out _ (HB3.out.trans (Below.mono (After.trans (After.drew (After.refl _)) hSw) HB3.out.size)); have hcz := HCz.out _ (After.trans (After.drew (After.refl _)) hSw); have hne := HNe.out; go_simp; try with_reducible rfl)
              try simp only [Act.put, List.getElem_toArray, List.getElem_cons_succ, List.getElem_cons_zero, List.setIfInBounds_toArray, List.set_cons_zero, List.set_cons_succ]
              refine Script.load (i := 4) (v := ?_) rfl (by kernel_rfl) (by kernel_rfl) (fun _ _ _ h => h) (by kernel_rfl) ?_ ?_
              rotate_left
              · (intro wS hSw; have hcx := HCx.out _ (HB3.out.trans (Below.mono (After.trans (After.drew (After.refl _)) hSw) HB3.out.size)); have hcz := HCz.out _ (After.trans (After.drew (After.refl _)) hSw); have hne := HNe.out; go_simp; try with_reducible rfl)
              try simp only [Act.put, List.getElem_toArray, List.getElem_cons_succ, List.getElem_cons_zero, List.setIfInBounds_toArray, List.set_cons_zero, List.set_cons_succ]
              refine Script.load (i := 5) (v := ?_) rfl (by kernel_rfl) (by kernel_rfl) (fun _ _ _ h => h) (by kernel_rfl) ?_ ?_
              rotate_left
              · (intro wS hSw; have hcx := HCx.out _ (HB3.out.trans (Below.mono (After.trans (After.drew (After.refl _)) hSw) HB3.out.size)); have hcz := HCz.out _ (After.trans (After.drew (After.refl _)) hSw); have hne := HNe.out; go_simp; try with_reducible rfl)
              try simp only [Act.put, List.getElem_toArray, List.getElem_cons_succ, List.getElem_cons_zero, List.setIfInBounds_toArray, List.set_cons_zero, List.set_cons_succ]
              refine Script.load (i := 6) (v := ?_) rfl (by kernel_rfl) (by kernel_rfl) (fun _ _ _ h => h) (by kernel_rfl) ?_ ?_
              rotate_left
              · (intro wS hSw; have hcx := HCx.out _ (HB3.out.trans (Below.mono (After.trans (After.drew (After.refl _)) hSw) HB3.out.size)); have hcz := HCz.out _ (After.trans (After.drew (After.refl _)) hSw); have hne := HNe.out; go_simp; try with_reducible rfl)
              try simp only [Act.put, List.getElem_toArray, List.getElem_cons_succ, List.getElem_cons_zero, List.setIfInBounds_toArray, List.set_cons_zero, List.set_cons_succ]
              refine Script.load (i := 7) (v := ?_) rfl (by kernel_rfl) (by kernel_rfl) (fun _ _ _ h => h) (by kernel_rfl) ?_ ?_
              rotate_left
              · (intro wS hSw; have hcx := HCx.out _ (HB3.out.trans (Below.mono (After.trans (After.drew (After.refl _)) hSw) HB3.out.size)); have hcz := HCz.out _ (After.trans (After.drew (After.refl _)) hSw); have hne := HNe.out; go_simp; try with_reducible rfl)
              try simp only [Act.put, List.getElem_toArray, List.getElem_cons_succ, List.getElem_cons_zero, List.setIfInBounds_toArray, List.set_cons_zero, List.set_cons_succ]
              refine Script.load (i := 8) (v := ?_) rfl (by kernel_rfl) (by kernel_rfl) (fun _ _ _ h => h) (by kernel_rfl) ?_ ?_
              rotate_left
              · (intro wS hSw; have hcx := HCx.out _ (HB3.out.trans (Below.mono (After.trans (After.drew (After.refl _)) hSw) HB3.out.size)); have hcz := HCz.out _ (After.trans (After.drew (After.refl _)) hSw); have hne := HNe.out; go_simp; try with_reducible rfl)
              try simp only [Act.put, List.getElem_toArray, List.getElem_cons_succ, List.getElem_cons_zero, List.setIfInBounds_toArray, List.set_cons_zero, List.set_cons_succ]
              refine Script.load (i := 9) (v := ?_) rfl (by kernel_rfl) (by kernel_rfl) (fun _ _ _ h => h) (by kernel_rfl) ?_ ?_
              rotate_left
              · (intro wS hSw; have hcx := HCx.out _ (HB3.out.trans (Below.mono (After.trans (After.drew (After.refl _)) hSw) HB3.out.size)); have hcz := HCz.out _ (After.trans (After.drew (After.refl _)) hSw); have hne := HNe.out; go_simp; try with_reducible rfl)
              try simp only [Act.put, List.getElem_toArray, List.getElem_cons_succ, List.getElem_cons_zero, List.setIfInBounds_toArray, List.set_cons_zero, List.set_cons_succ]
              refine Script.load (i := 10) (v := ?_) rfl (by kernel_rfl) (by kernel_rfl) (fun _ _ _ h => h) (by kernel_rfl) ?_ ?_
              rotate_left
              · (intro wS hSw; have hcx := HCx.out _ (HB3.out.trans (Below.mono (After.trans (After.drew (After.refl _)) hSw) HB3.out.size)); have hcz := HCz.out _ (After.trans (After.drew (After.refl _)) hSw); have hne := HNe.out; go_simp; try with_reducible rfl)
              try simp only [Act.put, List.getElem_toArray, List.getElem_cons_succ, List.getElem_cons_zero, List.setIfInBounds_toArray, List.set_cons_zero, List.set_cons_succ]
              refine Script.load (i := 11) (v := ?_) rfl (by kernel_rfl) (by kernel_rfl) (fun _ _ _ h => h) (by kernel_rfl) ?_ ?_
              rotate_left
              · (intro wS hSw; have hcx := HCx.out _ (HB3.out.trans (Below.mono (After.trans (After.drew (After.refl _)) hSw) HB3.out.size)); have hcz := HCz.out _ (After.trans (After.drew (After.refl _)) hSw); have hne := HNe.out; go_simp; try with_reducible rfl)
              try simp only [Act.put, List.getElem_toArray, List.getElem_cons_succ, List.getElem_cons_zero, List.setIfInBounds_toArray, List.set_cons_zero, List.set_cons_succ]
              refine Script.load (i := 12) (v := ?_) rfl (by kernel_rfl) (by kernel_rfl) (fun _ _ _ h => h) (by kernel_rfl) ?_ ?_
              rotate_left
              · (intro wS hSw; have hcx := HCx.out _ (HB3.out.trans (Below.mono (After.trans (After.drew (After.refl _)) hSw) HB3.out.size)); have hcz := HCz.out _ (After.trans (After.drew (After.refl _)) hSw); have hne := HNe.out; go_simp; try with_reducible rfl)
              try simp only [Act.put, List.getElem_toArray, List.getElem_cons_succ, List.getElem_cons_zero, List.setIfInBounds_toArray, List.set_cons_zero, List.set_cons_succ]
              refine Script.load (i := 13) (v := ?_) rfl (by kernel_rfl) (by kernel_rfl) (fun _ _ _ h => h) (by kernel_rfl) ?_ ?_
              rotate_left
              · (intro wS hSw; have hcx := HCx.out _ (HB3.out.trans (Below.mono (After.trans (After.drew (After.refl _)) hSw) HB3.out.size)); have hcz := HCz.out _ (After.trans (After.drew (After.refl _)) hSw); have hne := HNe.out; go_simp; try with_reducible rfl)
              try simp only [Act.put, List.getElem_toArray, List.getElem_cons_succ, List.getElem_cons_zero, List.setIfInBounds_toArray, List.set_cons_zero, List.set_cons_succ]
              refine Script.load (i := 14) (v := ?_) rfl (by kernel_rfl) (by kernel_rfl) (fun _ _ _ h => h) (by kernel_rfl) ?_ ?_
              rotate_left
              · (intro wS hSw; have hcx := HCx.out _ (HB3.out.trans (Below.mono (After.trans (After.drew (After.refl _)) hSw) HB3.out.size)); have hcz := HCz.out _ (After.trans (After.drew (After.refl _)) hSw); have hne := HNe.out; go_simp; try with_reducible rfl)
              try simp only [Act.put, List.getElem_toArray, List.getElem_cons_succ, List.getElem_cons_zero, List.setIfInBounds_toArray, List.set_cons_zero, List.set_cons_succ]
              refine Script.load (i := 15) (v := ?_) rfl (by kernel_rfl) (by kernel_rfl) (fun _ _ _ h => h) (by kernel_rfl) ?_ ?_
              rotate_left
              · (intro wS hSw; have hcx := HCx.out _ (HB3.out.trans (Below.mono (After.trans (After.drew (After.refl _)) hSw) HB3.out.size)); have hcz := HCz.out _ (After.trans (After.drew (After.refl _)) hSw); have hne := HNe.out; go_simp; try with_reducible rfl)
              try simp only [Act.put, List.getElem_toArray, List.getElem_cons_succ, List.getElem_cons_zero, List.setIfInBounds_toArray, List.set_cons_zero, List.set_cons_succ]
              refine Script.done (by kernel_rfl) ?_
              intro wD hD hG
              have HR4 := Lib.hid (own_below HR3.out (After.trans (After.drew (After.refl _)) hD))
              have HB4 := Lib.hid (HB3.out.trans (Below.mono (After.trans (After.drew (After.refl _)) hD) HB3.out.size))
              clear hD hG HR3 HB3
              have hcx := HCx.out _ HB4.out
              have hBs := HB4.out.size
              have hown := HR4.out
              go_wp2_with (at_builtin; refine wpList_append_one rfl (.tmp 35) (.tmp 40) 30 rfl w.heap.size 3 j0 (.int .i64 0) 8 Try.underlying30 hj jz0 jz1 jz2 rfl (by decide) _ m (iv out) rfl hown rfl rfl hmn hBs ?_; intro g' cap' w8 hown' hgrow hb2)
              have HR5 := Lib.hid (HPush.out _ _ _ hown').1
              have HM5 := Lib.hid (HPush.out _ _ _ hown').2
              have HB5 := Lib.hid (HB4.out.trans hb2)
              clear hown' hgrow hb2 hown hcx hBs HR4 HB4 HPush
              go_wp2_with fail
              go_roundw
              case rel => exact ⟨i + 1, k + 1, f0, m + 1, _, _, by omega, by omega, by omega, by omega, by go_num, by go_num, rfl, HM5, HC3, HR5, HB5⟩
              case measure => simp [intOf]; omega
        · have HC2 : Hid (comF xs ys f0 i (k + 1) out = R) := by unfold Hid; rw [← HC.out, HSt.out, if_neg (by omega), if_pos hxy]
          have HD1 : Hid (decide (x < y) = false) := decide_eq_false (by omega)
          have HD2 : Hid (decide (y < x) = true) := decide_eq_true hxy
          clear HSt HC hxy
          go_wp2_with fail
          refine wp_region_script (by kernel_rfl) (by kernel_rfl) ?_
          refine Script.load (i := 0) (v := ?_) rfl (by kernel_rfl) (by kernel_rfl) (fun _ _ _ h => h) (by kernel_rfl) ?_ ?_
          rotate_left
          · (intro wS hSw; have hcx := HCx.out _ (HB.out.trans (Below.mono (After.trans (After.drew (After.refl _)) hSw) HB.out.size)); have hcy := HCy.out _ (HB.out.trans (Below.mono (After.trans (After.drew (After.refl _)) hSw) HB.out.size)); have hd := HD1.out; go_simp; try with_reducible rfl)
          try simp only [Act.put, List.getElem_toArray, List.getElem_cons_succ, List.getElem_cons_zero, List.setIfInBounds_toArray, List.set_cons_zero, List.set_cons_succ]
          refine Script.load (i := 1) (v := ?_) rfl (by kernel_rfl) (by kernel_rfl) (fun _ _ _ h => h) (by kernel_rfl) ?_ ?_
          rotate_left
          · (intro wS hSw; have hcx := HCx.out _ (HB.out.trans (Below.mono (After.trans (After.drew (After.refl _)) hSw) HB.out.size)); have hcy := HCy.out _ (HB.out.trans (Below.mono (After.trans (After.drew (After.refl _)) hSw) HB.out.size)); have hd := HD1.out; go_simp; try with_reducible rfl)
          try simp only [Act.put, List.getElem_toArray, List.getElem_cons_succ, List.getElem_cons_zero, List.setIfInBounds_toArray, List.set_cons_zero, List.set_cons_succ]
          refine Script.load (i := 2) (v := ?_) rfl (by kernel_rfl) (by kernel_rfl) (fun _ _ _ h => h) (by kernel_rfl) ?_ ?_
          rotate_left
          · (intro wS hSw; have hcx := HCx.out _ (HB.out.trans (Below.mono (After.trans (After.drew (After.refl _)) hSw) HB.out.size)); have hcy := HCy.out _ (HB.out.trans (Below.mono (After.trans (After.drew (After.refl _)) hSw) HB.out.size)); have hd := HD1.out; go_simp; try with_reducible rfl)
          try simp only [Act.put, List.getElem_toArray, List.getElem_cons_succ, List.getElem_cons_zero, List.setIfInBounds_toArray, List.set_cons_zero, List.set_cons_succ]
          refine Script.load (i := 3) (v := ?_) rfl (by kernel_rfl) (by kernel_rfl) (fun _ _ _ h => h) (by kernel_rfl) ?_ ?_
          rotate_left
          · (intro wS hSw; have hcx := HCx.out _ (HB.out.trans (Below.mono (After.trans (After.drew (After.refl _)) hSw) HB.out.size)); have hcy := HCy.out _ (HB.out.trans (Below.mono (After.trans (After.drew (After.refl _)) hSw) HB.out.size)); have hd := HD1.out; go_simp; try with_reducible rfl)
          try simp only [Act.put, List.getElem_toArray, List.getElem_cons_succ, List.getElem_cons_zero, List.setIfInBounds_toArray, List.set_cons_zero, List.set_cons_succ]
          refine Script.load (i := 4) (v := ?_) rfl (by kernel_rfl) (by kernel_rfl) (fun _ _ _ h => h) (by kernel_rfl) ?_ ?_
          rotate_left
          · (intro wS hSw; have hcx := HCx.out _ (HB.out.trans (Below.mono (After.trans (After.drew (After.refl _)) hSw) HB.out.size)); have hcy := HCy.out _ (HB.out.trans (Below.mono (After.trans (After.drew (After.refl _)) hSw) HB.out.size)); have hd := HD1.out; go_simp; try with_reducible rfl)
          try simp only [Act.put, List.getElem_toArray, List.getElem_cons_succ, List.getElem_cons_zero, List.setIfInBounds_toArray, List.set_cons_zero, List.set_cons_succ]
          refine Script.load (i := 5) (v := ?_) rfl (by kernel_rfl) (by kernel_rfl) (fun _ _ _ h => h) (by kernel_rfl) ?_ ?_
          rotate_left
          · (intro wS hSw; have hcx := HCx.out _ (HB.out.trans (Below.mono (After.trans (After.drew (After.refl _)) hSw) HB.out.size)); have hcy := HCy.out _ (HB.out.trans (Below.mono (After.trans (After.drew (After.refl _)) hSw) HB.out.size)); have hd := HD1.out; go_simp; try with_reducible rfl)
          try simp only [Act.put, List.getElem_toArray, List.getElem_cons_succ, List.getElem_cons_zero, List.setIfInBounds_toArray, List.set_cons_zero, List.set_cons_succ]
          refine Script.load (i := 6) (v := ?_) rfl (by kernel_rfl) (by kernel_rfl) (fun _ _ _ h => h) (by kernel_rfl) ?_ ?_
          rotate_left
          · (intro wS hSw; have hcx := HCx.out _ (HB.out.trans (Below.mono (After.trans (After.drew (After.refl _)) hSw) HB.out.size)); have hcy := HCy.out _ (HB.out.trans (Below.mono (After.trans (After.drew (After.refl _)) hSw) HB.out.size)); have hd := HD1.out; go_simp; try with_reducible rfl)
          try simp only [Act.put, List.getElem_toArray, List.getElem_cons_succ, List.getElem_cons_zero, List.setIfInBounds_toArray, List.set_cons_zero, List.set_cons_succ]
          refine Script.load (i := 7) (v := ?_) rfl (by kernel_rfl) (by kernel_rfl) (fun _ _ _ h => h) (by kernel_rfl) ?_ ?_
          rotate_left
          · (intro wS hSw; have hcx := HCx.out _ (HB.out.trans (Below.mono (After.trans (After.drew (After.refl _)) hSw) HB.out.size)); have hcy := HCy.out _ (HB.out.trans (Below.mono (After.trans (After.drew (After.refl _)) hSw) HB.out.size)); have hd := HD1.out; go_simp; try with_reducible rfl)
          try simp only [Act.put, List.getElem_toArray, List.getElem_cons_succ, List.getElem_cons_zero, List.setIfInBounds_toArray, List.set_cons_zero, List.set_cons_succ]
          refine Script.load (i := 8) (v := ?_) rfl (by kernel_rfl) (by kernel_rfl) (fun _ _ _ h => h) (by kernel_rfl) ?_ ?_
          rotate_left
          · (intro wS hSw; have hcx := HCx.out _ (HB.out.trans (Below.mono (After.trans (After.drew (After.refl _)) hSw) HB.out.size)); have hcy := HCy.out _ (HB.out.trans (Below.mono (After.trans (After.drew (After.refl _)) hSw) HB.out.size)); have hd := HD1.out; go_simp; try with_reducible rfl)
          try simp only [Act.put, List.getElem_toArray, List.getElem_cons_succ, List.getElem_cons_zero, List.setIfInBounds_toArray, List.set_cons_zero, List.set_cons_succ]
          refine Script.load (i := 9) (v := ?_) rfl (by kernel_rfl) (by kernel_rfl) (fun _ _ _ h => h) (by kernel_rfl) ?_ ?_
          rotate_left
          · (intro wS hSw; have hcx := HCx.out _ (HB.out.trans (Below.mono (After.trans (After.drew (After.refl _)) hSw) HB.out.size)); have hcy := HCy.out _ (HB.out.trans (Below.mono (After.trans (After.drew (After.refl _)) hSw) HB.out.size)); have hd := HD1.out; go_simp; try with_reducible rfl)
          try simp only [Act.put, List.getElem_toArray, List.getElem_cons_succ, List.getElem_cons_zero, List.setIfInBounds_toArray, List.set_cons_zero, List.set_cons_succ]
          refine Script.done (by kernel_rfl) ?_
          intro wD hD hG
          have HR2 := Lib.hid (own_below HR.out (After.trans (After.drew (After.refl _)) hD))
          have HB2 := Lib.hid (HB.out.trans (Below.mono (After.trans (After.drew (After.refl _)) hD) HB.out.size))
          clear hD hG HR HB
          go_wp2_with fail
          refine wp_region_script (by kernel_rfl) (by kernel_rfl) ?_
          refine Script.load (i := 0) (v := ?_) rfl (by kernel_rfl) (by kernel_rfl) (fun _ _ _ h => h) (by kernel_rfl) ?_ ?_
          rotate_left
          · (intro wS hSw; have hcx := HCx.out _ (HB2.out.trans (Below.mono (After.trans (After.drew (After.refl _)) hSw) HB2.out.size)); have hcy := HCy.out _ (HB2.out.trans (Below.mono (After.trans (After.drew (After.refl _)) hSw) HB2.out.size)); have hd := HD2.out; go_simp; try with_reducible rfl)
          try simp only [Act.put, List.getElem_toArray, List.getElem_cons_succ, List.getElem_cons_zero, List.setIfInBounds_toArray, List.set_cons_zero, List.set_cons_succ]
          refine Script.load (i := 1) (v := ?_) rfl (by kernel_rfl) (by kernel_rfl) (fun _ _ _ h => h) (by kernel_rfl) ?_ ?_
          rotate_left
          · (intro wS hSw; have hcx := HCx.out _ (HB2.out.trans (Below.mono (After.trans (After.drew (After.refl _)) hSw) HB2.out.size)); have hcy := HCy.out _ (HB2.out.trans (Below.mono (After.trans (After.drew (After.refl _)) hSw) HB2.out.size)); have hd := HD2.out; go_simp; try with_reducible rfl)
          try simp only [Act.put, List.getElem_toArray, List.getElem_cons_succ, List.getElem_cons_zero, List.setIfInBounds_toArray, List.set_cons_zero, List.set_cons_succ]
          refine Script.load (i := 2) (v := ?_) rfl (by kernel_rfl) (by kernel_rfl) (fun _ _ _ h => h) (by kernel_rfl) ?_ ?_
          rotate_left
          · (intro wS hSw; have hcx := HCx.out _ (HB2.out.trans (Below.mono (After.trans (After.drew (After.refl _)) hSw) HB2.out.size)); have hcy := HCy.out _ (HB2.out.trans (Below.mono (After.trans (After.drew (After.refl _)) hSw) HB2.out.size)); have hd := HD2.out; go_simp; try with_reducible rfl)
          try simp only [Act.put, List.getElem_toArray, List.getElem_cons_succ, List.getElem_cons_zero, List.setIfInBounds_toArray, List.set_cons_zero, List.set_cons_succ]
          refine Script.load (i := 3) (v := ?_) rfl (by kernel_rfl) (by kernel_rfl) (fun _ _ _ h => h) (by kernel_rfl) ?_ ?_
          rotate_left
          · (intro wS hSw; have hcx := HCx.out _ (HB2.out.trans (Below.mono (After.trans (After.drew (After.refl _)) hSw) HB2.out.size)); have hcy := HCy.out _ (HB2.out.trans (Below.mono (After.trans (After.drew (After.refl _)) hSw) HB2.out.size)); have hd := HD2.out; go_simp; try with_reducible rfl)
          try simp only [Act.put, List.getElem_toArray, List.getElem_cons_succ, List.getElem_cons_zero, List.setIfInBounds_toArray, List.set_cons_zero, List.set_cons_succ]
          refine Script.load (i := 4) (v := ?_) rfl (by kernel_rfl) (by kernel_rfl) (fun _ _ _ h => h) (by kernel_rfl) ?_ ?_
          rotate_left
          · (intro wS hSw; have hcx := HCx.out _ (HB2.out.trans (Below.mono (After.trans (After.drew (After.refl _)) hSw) HB2.out.size)); have hcy := HCy.out _ (HB2.out.trans (Below.mono (After.trans (After.drew (After.refl _)) hSw) HB2.out.size)); have hd := HD2.out; go_simp; try with_reducible rfl)
          try simp only [Act.put, List.getElem_toArray, List.getElem_cons_succ, List.getElem_cons_zero, List.setIfInBounds_toArray, List.set_cons_zero, List.set_cons_succ]
          refine Script.load (i := 5) (v := ?_) rfl (by kernel_rfl) (by kernel_rfl) (fun _ _ _ h => h) (by kernel_rfl) ?_ ?_
          rotate_left
          · (intro wS hSw; have hcx := HCx.out _ (HB2.out.trans (Below.mono (After.trans (After.drew (After.refl _)) hSw) HB2.out.size)); have hcy := HCy.out _ (HB2.out.trans (Below.mono (After.trans (After.drew (After.refl _)) hSw) HB2.out.size)); have hd := HD2.out; go_simp; try with_reducible rfl)
          try simp only [Act.put, List.getElem_toArray, List.getElem_cons_succ, List.getElem_cons_zero, List.setIfInBounds_toArray, List.set_cons_zero, List.set_cons_succ]
          refine Script.load (i := 6) (v := ?_) rfl (by kernel_rfl) (by kernel_rfl) (fun _ _ _ h => h) (by kernel_rfl) ?_ ?_
          rotate_left
          · (intro wS hSw; have hcx := HCx.out _ (HB2.out.trans (Below.mono (After.trans (After.drew (After.refl _)) hSw) HB2.out.size)); have hcy := HCy.out _ (HB2.out.trans (Below.mono (After.trans (After.drew (After.refl _)) hSw) HB2.out.size)); have hd := HD2.out; go_simp; try with_reducible rfl)
          try simp only [Act.put, List.getElem_toArray, List.getElem_cons_succ, List.getElem_cons_zero, List.setIfInBounds_toArray, List.set_cons_zero, List.set_cons_succ]
          refine Script.load (i := 7) (v := ?_) rfl (by kernel_rfl) (by kernel_rfl) (fun _ _ _ h => h) (by kernel_rfl) ?_ ?_
          rotate_left
          · (intro wS hSw; have hcx := HCx.out _ (HB2.out.trans (Below.mono (After.trans (After.drew (After.refl _)) hSw) HB2.out.size)); have hcy := HCy.out _ (HB2.out.trans (Below.mono (After.trans (After.drew (After.refl _)) hSw) HB2.out.size)); have hd := HD2.out; go_simp; try with_reducible rfl)
          try simp only [Act.put, List.getElem_toArray, List.getElem_cons_succ, List.getElem_cons_zero, List.setIfInBounds_toArray, List.set_cons_zero, List.set_cons_succ]
          refine Script.load (i := 8) (v := ?_) rfl (by kernel_rfl) (by kernel_rfl) (fun _ _ _ h => h) (by kernel_rfl) ?_ ?_
          rotate_left
          · (intro wS hSw; have hcx := HCx.out _ (HB2.out.trans (Below.mono (After.trans (After.drew (After.refl _)) hSw) HB2.out.size)); have hcy := HCy.out _ (HB2.out.trans (Below.mono (After.trans (After.drew (After.refl _)) hSw) HB2.out.size)); have hd := HD2.out; go_simp; try with_reducible rfl)
          try simp only [Act.put, List.getElem_toArray, List.getElem_cons_succ, List.getElem_cons_zero, List.setIfInBounds_toArray, List.set_cons_zero, List.set_cons_succ]
          refine Script.load (i := 9) (v := ?_) rfl (by kernel_rfl) (by kernel_rfl) (fun _ _ _ h => h) (by kernel_rfl) ?_ ?_
          rotate_left
          · (intro wS hSw; have hcx := HCx.out _ (HB2.out.trans (Below.mono (After.trans (After.drew (After.refl _)) hSw) HB2.out.size)); have hcy := HCy.out _ (HB2.out.trans (Below.mono (After.trans (After.drew (After.refl _)) hSw) HB2.out.size)); have hd := HD2.out; go_simp; try with_reducible rfl)
          try simp only [Act.put, List.getElem_toArray, List.getElem_cons_succ, List.getElem_cons_zero, List.setIfInBounds_toArray, List.set_cons_zero, List.set_cons_succ]
          refine Script.done (by kernel_rfl) ?_
          intro wD hD hG
          have HR3 := Lib.hid (own_below HR2.out (After.trans (After.drew (After.refl _)) hD))
          have HB3 := Lib.hid (HB2.out.trans (Below.mono (After.trans (After.drew (After.refl _)) hD) HB2.out.size))
          clear hD hG HR2 HB2
          go_wp2_with fail
          go_roundw
          case rel => exact ⟨i, k + 1, f0, m, out, _, by omega, by omega, by omega, by omega, rfl, by go_num, rfl, HM, HC2, HR3, HB3⟩
          case measure => simp [intOf]; omega
      · obtain rfl : k = n1 := by omega
        have i0' : (0 : Int) ≤ (i : Int) := by omega
        have i1' : (i : Int) < (n0 : Int) := by omega
        have HE : Hid (out = R) := by unfold Hid; rw [← HC.out]; exact (HEnd.out f i k out (.inr (Nat.le_refl _))).symm
        have HF : Hid (OwnIv R w (.returned val) wr) := by unfold Hid; rw [← HE.out]; exact ⟨_, rfl, by rw [HM.out]; exact HR.out, HB.out⟩
        clear HR HB HC
        go_wp2_with fail
        go_ret
        exact HF.out
    · obtain rfl : i = n0 := by omega
      have HE : Hid (out = R) := by unfold Hid; rw [← HC.out]; exact (HEnd.out f i k out (.inl (Nat.le_refl _))).symm
      have HF : Hid (OwnIv R w (.returned val) wr) := by unfold Hid; rw [← HE.out]; exact ⟨_, rfl, by rw [HM.out]; exact HR.out, HB.out⟩
      clear HR HB HC
      go_wp2_with fail
      go_ret
      exact HF.out
end Go.Proofs.Ytgkmapemnlgldaa
