/- The library's stable sort over soldiers, second part: rotations, insertion. -/
import Derived.Test.YtoginbmflomjeaaSortI
namespace Go.Proofs.Ytoginbmflomjeaa
open Go.RowKit
set_option linter.unusedVariables false
set_option linter.unusedSimpArgs false
/-- Two places of the list: what they hold in every world of the sort, and what their comparison gives there. -/
theorem SRow.pair {B g n c p : Nat} {L : Int} {xs : List Sd} {w0 : World} {i j : Nat} (hi : i < n) (hj : j < n) : ∃ (x y u v r : Int), nth xs i = (x, y) ∧ nth xs j = (u, v) ∧ (ltS L (nth xs i) (nth xs j) = decide (r < 0)) ∧
    (∀ w', SRow B g n c p L xs w0 w' → (w'.cell? ⟨g, i * 2, none⟩ = some (.int .i64 x) ∧ w'.cell? ⟨g, i * 2 + 1, none⟩ = some (.int .i64 y)) ∧ w'.cell? ⟨g, j * 2, none⟩ = some (.int .i64 u) ∧ w'.cell? ⟨g, j * 2 + 1, none⟩ = some (.int .i64 v)) ∧
    ∀ w', SRow B g n c p L xs w0 w' → Calls Try.prog 49 #[.agg #[.int .i64 x, .int .i64 y], .agg #[.int .i64 u, .int .i64 v], .pointer (some ⟨p, 0, none⟩)] w' (GI r w') := by
  refine ⟨(nth xs i).1, (nth xs i).2, (nth xs j).1, (nth xs j).2, cmpS L (nth xs i) (nth xs j), rfl, rfl, rfl, fun w' h => ⟨h.get hi, h.get hj⟩, fun w' h => implCmp (nth xs i) (nth xs j) p L w' h.2.2.1⟩
set_option maxHeartbeats 4000000 in
set_option maxRecDepth 100000 in
theorem implRot {B g n c p : Nat} {L : Int} {w0 : World} (hn : n ≤ 1048576) (fv : Value) (a m b : Nat) (xs : List Sd) (w : World) (ham : a < m) (hmb : m < b) (hb : b ≤ n) (h : SRow B g n c p L xs w0 w) :
    Calls Try.prog 58 #[.slice (some ⟨g, 0, none⟩) n c, .int .i64 (a : Int), .int .i64 (m : Int), .int .i64 (b : Int), fv] w (SPost B g n c p L (rotL (b - a) m (m - a) (b - m) xs) w0) := by
  have HS := Lib.hid h
  obtain ⟨F, hF⟩ : ∃ F, rotL (b - a) m (m - a) (b - m) xs = F := ⟨_, rfl⟩
  rw [hF]
  have HF := Lib.hid hF
  have CS := Lib.hid (fun a b k xs w hab hb h => implSwapR (B := B) (g := g) (n := n) (c := c) (p := p) (L := L) (w0 := w0) hn fv a b k xs w hab hb h)
  have e1 : (m : Int) - (a : Int) = ((m - a : Nat) : Int) := by omega
  have e2 : (b : Int) - (m : Int) = ((b - m : Nat) : Int) := by omega
  clear h hF
  go_enter Try.func58, Try.ntmps58
  go_wp2_with fail
  clear e1 e2
  go_loopw [10, 11] (fun u v wr => ∃ (i j f : Nat) (ys : List Sd), i + j ≤ f ∧ 1 ≤ i ∧ 1 ≤ j ∧ i ≤ m - a ∧ j ≤ b - m ∧ u = .int .i64 i ∧ v = .int .i64 j ∧ Hid (rotL f m i j ys = F) ∧ Hid (SRow B g n c p L ys w0 wr)) (fun u v _ => (intOf u).toNat + (intOf v).toNat)
  case atStart => exact ⟨m - a, b - m, b - a, xs, by omega, by omega, by omega, Nat.le_refl _, Nat.le_refl _, rfl, rfl, HF, HS⟩
  case round =>
    clear HF HS
    obtain ⟨i, j, f, ys, hf, hi, hj, him, hjb, rfl, rfl, HF, HS⟩ := hrel
    obtain ⟨f, rfl⟩ : ∃ f', f = f' + 1 := ⟨f - 1, by omega⟩
    obtain ⟨s, hs⟩ : ∃ s, m - i = s := ⟨_, rfl⟩
    have hsi : (m : Int) - (i : Int) = (s : Int) := by omega
    by_cases hij : i = j
    · subst hij
      have HF2 : Hid (swR i s m ys = F) := by have := HF.out; rw [rotL, if_pos rfl, hs] at this; exact this
      have CX := Lib.hid (fun w h => CS.out s m i ys w (by omega) (by omega) h)
      rw [HF2.out] at CX
      clear HF HF2 CS
      go_wp2_with fail
      refine (CX.out _ HS.out).mono ?_
      rintro e w5 ⟨rfl, h5⟩
      have HP := Lib.hid h5
      clear h5
      go_wp2_with fail
      go_end0
      exact ⟨rfl, HP.out⟩
    · have hij' : ¬ (i : Int) = (j : Int) := by omega
      by_cases hlt : j < i
      · have hlt' : (j : Int) < (i : Int) := by omega
        have hd : (i : Int) - (j : Int) = ((i - j : Nat) : Int) := by omega
        have HF2 : Hid (rotL f m (i - j) j (swR j s m ys) = F) := by have := HF.out; rw [rotL, if_neg hij, if_pos hlt, hs] at this; exact this
        have CX := Lib.hid (fun w h => CS.out s m j ys w (by omega) (by omega) h)
        clear HF
        go_wp2_with fail
        refine (CX.out _ HS.out).mono ?_
        rintro e w5 ⟨rfl, h5⟩
        have HP := Lib.hid h5
        clear h5 HS
        go_wp2_with fail
        go_roundw
        case rel => exact ⟨i - j, j, f, _, by omega, by omega, hj, by omega, hjb, by go_num, rfl, HF2, HP⟩
        case measure => simp [intOf]; omega
      · have hlt' : ¬ (j : Int) < (i : Int) := by omega
        obtain ⟨t, ht⟩ : ∃ t, m + j - i = t := ⟨_, rfl⟩
        have hti : (m : Int) + (j : Int) - (i : Int) = (t : Int) := by omega
        have hd : (j : Int) - (i : Int) = ((j - i : Nat) : Int) := by omega
        have HF2 : Hid (rotL f m i (j - i) (swR i s t ys) = F) := by have := HF.out; rw [rotL, if_neg hij, if_neg hlt, hs, ht] at this; exact this
        have CX := Lib.hid (fun w h => CS.out s t i ys w (by omega) (by omega) h)
        clear HF
        go_wp2_with fail
        refine (CX.out _ HS.out).mono ?_
        rintro e w5 ⟨rfl, h5⟩
        have HP := Lib.hid h5
        clear h5 HS
        go_wp2_with fail
        go_roundw
        case rel => exact ⟨i, j - i, f, _, by omega, hi, by omega, him, by omega, rfl, by go_num, HF2, HP⟩
        case measure => simp [intOf]; omega
theorem insJ_stop {lt : Sd → Sd → Bool} {a j : Nat} {xs : List Sd} (h : ¬ a < j) : insJ lt a j xs = xs := by
  cases j with
  | zero => rfl
  | succ j => simp [insJ, h]
set_option maxHeartbeats 4000000 in
set_option maxRecDepth 100000 in
theorem implIns {B g n c p : Nat} {L : Int} {w0 : World} (hn : n ≤ 1048576) (a b : Nat) (xs : List Sd) (w : World) (han : a ≤ n) (hb : b ≤ n) (h : SRow B g n c p L xs w0 w) :
    Calls Try.prog 56 #[.slice (some ⟨g, 0, none⟩) n c, .int .i64 (a : Int), .int .i64 (b : Int), CmpV p] w (SPost B g n c p L (insL (ltS L) a b xs) w0) := by
  have HS := Lib.hid h
  obtain ⟨F, hF⟩ : ∃ F, insL (ltS L) a b xs = F := ⟨_, rfl⟩
  rw [hF]
  have HF : Hid (insI (ltS L) a (b - (a + 1)) (a + 1) xs = F) := hF
  have HPair := Lib.hid (fun ys i j hi hj => SRow.pair (B := B) (g := g) (n := n) (c := c) (p := p) (L := L) (xs := ys) (w0 := w0) (i := i) (j := j) hi hj)
  obtain ⟨a1, ha1⟩ : ∃ a1, a + 1 = a1 := ⟨_, rfl⟩
  have ea : (a : Int) + 1 = (a1 : Int) := by omega
  rw [ha1] at HF
  clear h hF
  unfold CmpV
  go_enter Try.func56, Try.ntmps56
  go_wp2_with fail
  clear ea
  go_loopw [8] (fun u wr => ∃ (i : Nat) (ys : List Sd), a1 ≤ i ∧ (i ≤ b ∨ i = a1) ∧ u = .int .i64 i ∧ Hid (insI (ltS L) a (b - i) i ys = F) ∧ Hid (SRow B g n c p L ys w0 wr)) (fun u _ => n + 2 - (intOf u).toNat)
  case atStart => exact ⟨a1, xs, Nat.le_refl _, .inr rfl, rfl, HF, HS⟩
  case round =>
    clear HF HS
    obtain ⟨i, ys, hai, hib, rfl, HF, HS⟩ := hrel
    by_cases hlt : i < b
    · have hlt' : (i : Int) < (b : Int) := by omega
      have HF2 : Hid (insI (ltS L) a (b - (i + 1)) (i + 1) (insJ (ltS L) a i ys) = F) := by have := HF.out; rw [show b - i = (b - (i + 1)) + 1 by omega] at this; exact this
      obtain ⟨G, hG⟩ : ∃ G, insJ (ltS L) a i ys = G := ⟨_, rfl⟩
      rw [hG] at HF2
      have HG := Lib.hid hG
      clear HF hG
      go_wp2_with fail
      go_loopw [9] (fun v wr => ∃ (j : Nat) (zs : List Sd), j ≤ i ∧ v = .int .i64 j ∧ Hid (insJ (ltS L) a j zs = G) ∧ Hid (SRow B g n c p L zs w0 wr)) (fun v _ => (intOf v).toNat)
      case atStart => exact ⟨i, ys, Nat.le_refl _, rfl, HG, HS⟩
      case round =>
        clear HG HS
        obtain ⟨j, zs, hji, rfl, HG, HS⟩ := hrel
        by_cases haj : a < j
        · obtain ⟨k, hk⟩ : ∃ k, j = k + 1 := ⟨j - 1, by omega⟩
          have haj' : (a : Int) < (j : Int) := by omega
          have hajd : decide (a < j) = true := decide_eq_true haj
          have hjn : j < n := by omega
          have hkn : k < n := by omega
          have hj1 : (j : Int) - 1 = (k : Int) := by omega
          have j0 : (0 : Int) ≤ (j : Int) := by omega
          have k0 : (0 : Int) ≤ (k : Int) := by omega
          have j2 : (j : Int) < (n : Int) := by omega
          have k2 : (k : Int) < (n : Int) := by omega
          have hkw : IntKind.i64.wrap (k : Int) = (k : Int) := IntWalk.i64_in _ (by omega)
          obtain ⟨x, y, u, v, r, ex, eu, er, hc, hcall⟩ := HPair.out zs j k hjn hkn
          have HC := Lib.hid hc
          have CK := Lib.hid hcall
          have HSW := Lib.hid (fun w' (h : SRow B g n c p L zs w0 w') => h.swap j k)
          have HTH := Lib.hid (fun w' (h : SRow B g n c p L zs w0 w') => h.thaw)
          rw [ex, eu] at HSW
          simp only at HSW
          by_cases hr : r < 0
          · have HG2 : Hid (insJ (ltS L) a k (swp zs j k) = G) := by
              have := HG.out
              rw [hk, insJ, ← hk, hajd, er, decide_eq_true hr] at this
              unfold Hid
              simpa using this
            have hrd : decide (r < 0) = true := decide_eq_true hr
            have n1 : ¬ j * 2 = k * 2 := by omega
            clear ex eu er hc hcall hk HG
            go_wp2_with fail
            refine wp_region_script (by kernel_rfl) (by kernel_rfl) ?_
            refine Script.load (i := 0) (v := ?_) rfl (by kernel_rfl) (by kernel_rfl) (fun _ _ _ h => h) (by kernel_rfl) ?_ ?_
            rotate_left
            · (intro wS hSw; have hR := HS.out.later (After.trans (After.drew (After.refl _)) hSw); obtain ⟨⟨c0, c1⟩, d0, d1⟩ := HC.out wS hR; go_simp; try with_reducible rfl)
            try simp only [Act.put, List.getElem_toArray, List.getElem_cons_succ, List.getElem_cons_zero, List.setIfInBounds_toArray, List.set_cons_zero, List.set_cons_succ]
            refine Script.load (i := 1) (v := ?_) rfl (by kernel_rfl) (by kernel_rfl) (fun _ _ _ h => h) (by kernel_rfl) ?_ ?_
            rotate_left
            · (intro wS hSw; have hR := HS.out.later (After.trans (After.drew (After.refl _)) hSw); obtain ⟨⟨c0, c1⟩, d0, d1⟩ := HC.out wS hR; go_simp; try with_reducible rfl)
            try simp only [Act.put, List.getElem_toArray, List.getElem_cons_succ, List.getElem_cons_zero, List.setIfInBounds_toArray, List.set_cons_zero, List.set_cons_succ]
            refine Script.load (i := 2) (v := ?_) rfl (by kernel_rfl) (by kernel_rfl) (fun _ _ _ h => h) (by kernel_rfl) ?_ ?_
            rotate_left
            · (intro wS hSw; have hR := HS.out.later (After.trans (After.drew (After.refl _)) hSw); obtain ⟨⟨c0, c1⟩, d0, d1⟩ := HC.out wS hR; go_simp; try with_reducible rfl)
            try simp only [Act.put, List.getElem_toArray, List.getElem_cons_succ, List.getElem_cons_zero, List.setIfInBounds_toArray, List.set_cons_zero, List.set_cons_succ]
            refine Script.load (i := 3) (v := ?_) rfl (by kernel_rfl) (by kernel_rfl) (fun _ _ _ h => h) (by kernel_rfl) ?_ ?_
            rotate_left
            · (intro wS hSw; have hR := HS.out.later (After.trans (After.drew (After.refl _)) hSw); obtain ⟨⟨c0, c1⟩, d0, d1⟩ := HC.out wS hR; go_simp; try with_reducible rfl)
            try simp only [Act.put, List.getElem_toArray, List.getElem_cons_succ, List.getElem_cons_zero, List.setIfInBounds_toArray, List.set_cons_zero, List.set_cons_succ]
            refine Script.load (i := 4) (v := ?_) rfl (by kernel_rfl) (by kernel_rfl) (fun _ _ _ h => h) (by kernel_rfl) ?_ ?_
            rotate_left
            · (intro wS hSw; have hR := HS.out.later (After.trans (After.drew (After.refl _)) hSw); obtain ⟨⟨c0, c1⟩, d0, d1⟩ := HC.out wS hR; go_simp; try with_reducible rfl)
            try simp only [Act.put, List.getElem_toArray, List.getElem_cons_succ, List.getElem_cons_zero, List.setIfInBounds_toArray, List.set_cons_zero, List.set_cons_succ]
            refine Script.load (i := 5) (v := ?_) rfl (by kernel_rfl) (by kernel_rfl) (fun _ _ _ h => h) (by kernel_rfl) ?_ ?_
            rotate_left
            · (intro wS hSw; have hR := HS.out.later (After.trans (After.drew (After.refl _)) hSw); obtain ⟨⟨c0, c1⟩, d0, d1⟩ := HC.out wS hR; go_simp; try with_reducible rfl)
            try simp only [Act.put, List.getElem_toArray, List.getElem_cons_succ, List.getElem_cons_zero, List.setIfInBounds_toArray, List.set_cons_zero, List.set_cons_succ]
            refine Script.load (i := 6) (v := ?_) rfl (by kernel_rfl) (by kernel_rfl) (fun _ _ _ h => h) (by kernel_rfl) ?_ ?_
            rotate_left
            · (intro wS hSw; have hR := HS.out.later (After.trans (After.drew (After.refl _)) hSw); obtain ⟨⟨c0, c1⟩, d0, d1⟩ := HC.out wS hR; go_simp; try with_reducible rfl)
            try simp only [Act.put, List.getElem_toArray, List.getElem_cons_succ, List.getElem_cons_zero, List.setIfInBounds_toArray, List.set_cons_zero, List.set_cons_succ]
            refine Script.load (i := 7) (v := ?_) rfl (by kernel_rfl) (by kernel_rfl) (fun _ _ _ h => h) (by kernel_rfl) ?_ ?_
            rotate_left
            · (intro wS hSw; have hR := HS.out.later (After.trans (After.drew (After.refl _)) hSw); obtain ⟨⟨c0, c1⟩, d0, d1⟩ := HC.out wS hR; go_simp; try with_reducible rfl)
            try simp only [Act.put, List.getElem_toArray, List.getElem_cons_succ, List.getElem_cons_zero, List.setIfInBounds_toArray, List.set_cons_zero, List.set_cons_succ]
            refine Script.load (i := 8) (v := ?_) rfl (by kernel_rfl) (by kernel_rfl) (fun _ _ _ h => h) (by kernel_rfl) ?_ ?_
            rotate_left
            · (intro wS hSw; have hR := HS.out.later (After.trans (After.drew (After.refl _)) hSw); obtain ⟨⟨c0, c1⟩, d0, d1⟩ := HC.out wS hR; go_simp; try with_reducible rfl)
            try simp only [Act.put, List.getElem_toArray, List.getElem_cons_succ, List.getElem_cons_zero, List.setIfInBounds_toArray, List.set_cons_zero, List.set_cons_succ]
            refine Script.load (i := 9) (v := ?_) rfl (by kernel_rfl) (by kernel_rfl) (fun _ _ _ h => h) (by kernel_rfl) ?_ ?_
            rotate_left
            · (intro wS hSw; have hR := HS.out.later (After.trans (After.drew (After.refl _)) hSw); obtain ⟨⟨c0, c1⟩, d0, d1⟩ := HC.out wS hR; go_simp; try with_reducible rfl)
            try simp only [Act.put, List.getElem_toArray, List.getElem_cons_succ, List.getElem_cons_zero, List.setIfInBounds_toArray, List.set_cons_zero, List.set_cons_succ]
            refine Script.load (i := 10) (v := ?_) rfl (by kernel_rfl) (by kernel_rfl) (fun _ _ _ h => h) (by kernel_rfl) ?_ ?_
            rotate_left
            · (intro wS hSw; have hR := HS.out.later (After.trans (After.drew (After.refl _)) hSw); obtain ⟨⟨c0, c1⟩, d0, d1⟩ := HC.out wS hR; go_simp; try with_reducible rfl)
            try simp only [Act.put, List.getElem_toArray, List.getElem_cons_succ, List.getElem_cons_zero, List.setIfInBounds_toArray, List.set_cons_zero, List.set_cons_succ]
            refine Script.load (i := 11) (v := ?_) rfl (by kernel_rfl) (by kernel_rfl) (fun _ _ _ h => h) (by kernel_rfl) ?_ ?_
            rotate_left
            · (intro wS hSw; have hR := HS.out.later (After.trans (After.drew (After.refl _)) hSw); obtain ⟨⟨c0, c1⟩, d0, d1⟩ := HC.out wS hR; go_simp; try with_reducible rfl)
            try simp only [Act.put, List.getElem_toArray, List.getElem_cons_succ, List.getElem_cons_zero, List.setIfInBounds_toArray, List.set_cons_zero, List.set_cons_succ]
            refine Script.load (i := 12) (v := ?_) rfl (by kernel_rfl) (by kernel_rfl) (fun _ _ _ h => h) (by kernel_rfl) ?_ ?_
            rotate_left
            · (intro wS hSw; have hR := HS.out.later (After.trans (After.drew (After.refl _)) hSw); obtain ⟨⟨c0, c1⟩, d0, d1⟩ := HC.out wS hR; go_simp; try with_reducible rfl)
            try simp only [Act.put, List.getElem_toArray, List.getElem_cons_succ, List.getElem_cons_zero, List.setIfInBounds_toArray, List.set_cons_zero, List.set_cons_succ]
            refine Script.load (i := 13) (v := ?_) rfl (by kernel_rfl) (by kernel_rfl) (fun _ _ _ h => h) (by kernel_rfl) ?_ ?_
            rotate_left
            · (intro wS hSw; have hR := HS.out.later (After.trans (After.drew (After.refl _)) hSw); obtain ⟨⟨c0, c1⟩, d0, d1⟩ := HC.out wS hR; go_simp; try with_reducible rfl)
            try simp only [Act.put, List.getElem_toArray, List.getElem_cons_succ, List.getElem_cons_zero, List.setIfInBounds_toArray, List.set_cons_zero, List.set_cons_succ]
            refine Script.call (i := 14) (v := ?_) rfl (by kernel_rfl) (by kernel_rfl) (fun _ _ _ h => h) (by kernel_rfl) ?_ ?_
            rotate_left
            · (intro wS hSw K hK; have hR := HS.out.later (After.trans (After.drew (After.refl _)) hSw); obtain ⟨⟨c0, c1⟩, d0, d1⟩ := HC.out wS hR; go_simp; go_at_call 49; refine (CK.out _ hR).mono ?_; rintro e wc ⟨rfl, hbc⟩; exact hK.out _ hbc)
            try simp only [Act.put, List.getElem_toArray, List.getElem_cons_succ, List.getElem_cons_zero, List.setIfInBounds_toArray, List.set_cons_zero, List.set_cons_succ]
            refine Script.load (i := 15) (v := ?_) rfl (by kernel_rfl) (by kernel_rfl) (fun _ _ _ h => h) (by kernel_rfl) ?_ ?_
            rotate_left
            · (intro wS hSw; have hR := HS.out.later (After.trans (After.drew (After.refl _)) hSw); obtain ⟨⟨c0, c1⟩, d0, d1⟩ := HC.out wS hR; go_simp; try with_reducible rfl)
            try simp only [Act.put, List.getElem_toArray, List.getElem_cons_succ, List.getElem_cons_zero, List.setIfInBounds_toArray, List.set_cons_zero, List.set_cons_succ]
            refine Script.load (i := 16) (v := ?_) rfl (by kernel_rfl) (by kernel_rfl) (fun _ _ _ h => h) (by kernel_rfl) ?_ ?_
            rotate_left
            · (intro wS hSw; have hR := HS.out.later (After.trans (After.drew (After.refl _)) hSw); obtain ⟨⟨c0, c1⟩, d0, d1⟩ := HC.out wS hR; go_simp; try with_reducible rfl)
            try simp only [Act.put, List.getElem_toArray, List.getElem_cons_succ, List.getElem_cons_zero, List.setIfInBounds_toArray, List.set_cons_zero, List.set_cons_succ]
            refine Script.done (by kernel_rfl) ?_
            intro wD hD hG
            have HS2 := Lib.hid (HS.out.later (After.trans (After.drew (After.refl _)) hD))
            clear hD hG HS
            have HS3 := Lib.hid (HSW.out _ HS2.out)
            obtain ⟨⟨c0, c1⟩, d0, d1⟩ := HC.out _ HS2.out
            have f0 := HTH.out _ HS2.out (j * 2)
            have f1 := HTH.out _ HS2.out (j * 2 + 1)
            have f2 := HTH.out _ HS2.out (k * 2)
            have f3 := HTH.out _ HS2.out (k * 2 + 1)
            clear HSW HTH HC CK
            go_wp2_with fail
            go_big_region
            clear c0 c1 d0 d1 f0 f1 f2 f3
            go_wp2_with fail
            go_roundw
            case rel => exact ⟨k, _, by omega, by go_num, HG2, HS3⟩
            case measure => simp [intOf]; omega
          · have HG2 : Hid (zs = G) := by
              have := HG.out
              rw [hk, insJ, ← hk, hajd, er, decide_eq_false hr] at this
              unfold Hid
              simpa [hk] using this
            have hrd : decide (r < 0) = false := decide_eq_false hr
            clear ex eu er hc hcall hk HG HSW HTH
            go_wp2_with fail
            refine wp_region_script (by kernel_rfl) (by kernel_rfl) ?_
            refine Script.load (i := 0) (v := ?_) rfl (by kernel_rfl) (by kernel_rfl) (fun _ _ _ h => h) (by kernel_rfl) ?_ ?_
            rotate_left
            · (intro wS hSw; have hR := HS.out.later (After.trans (After.drew (After.refl _)) hSw); obtain ⟨⟨c0, c1⟩, d0, d1⟩ := HC.out wS hR; go_simp; try with_reducible rfl)
            try simp only [Act.put, List.getElem_toArray, List.getElem_cons_succ, List.getElem_cons_zero, List.setIfInBounds_toArray, List.set_cons_zero, List.set_cons_succ]
            refine Script.load (i := 1) (v := ?_) rfl (by kernel_rfl) (by kernel_rfl) (fun _ _ _ h => h) (by kernel_rfl) ?_ ?_
            rotate_left
            · (intro wS hSw; have hR := HS.out.later (After.trans (After.drew (After.refl _)) hSw); obtain ⟨⟨c0, c1⟩, d0, d1⟩ := HC.out wS hR; go_simp; try with_reducible rfl)
            try simp only [Act.put, List.getElem_toArray, List.getElem_cons_succ, List.getElem_cons_zero, List.setIfInBounds_toArray, List.set_cons_zero, List.set_cons_succ]
            refine Script.load (i := 2) (v := ?_) rfl (by kernel_rfl) (by kernel_rfl) (fun _ _ _ h => h) (by kernel_rfl) ?_ ?_
            rotate_left
            · (intro wS hSw; have hR := HS.out.later (After.trans (After.drew (After.refl _)) hSw); obtain ⟨⟨c0, c1⟩, d0, d1⟩ := HC.out wS hR; go_simp; try with_reducible rfl)
            try simp only [Act.put, List.getElem_toArray, List.getElem_cons_succ, List.getElem_cons_zero, List.setIfInBounds_toArray, List.set_cons_zero, List.set_cons_succ]
            refine Script.load (i := 3) (v := ?_) rfl (by kernel_rfl) (by kernel_rfl) (fun _ _ _ h => h) (by kernel_rfl) ?_ ?_
            rotate_left
            · (intro wS hSw; have hR := HS.out.later (After.trans (After.drew (After.refl _)) hSw); obtain ⟨⟨c0, c1⟩, d0, d1⟩ := HC.out wS hR; go_simp; try with_reducible rfl)
            try simp only [Act.put, List.getElem_toArray, List.getElem_cons_succ, List.getElem_cons_zero, List.setIfInBounds_toArray, List.set_cons_zero, List.set_cons_succ]
            refine Script.load (i := 4) (v := ?_) rfl (by kernel_rfl) (by kernel_rfl) (fun _ _ _ h => h) (by kernel_rfl) ?_ ?_
            rotate_left
            · (intro wS hSw; have hR := HS.out.later (After.trans (After.drew (After.refl _)) hSw); obtain ⟨⟨c0, c1⟩, d0, d1⟩ := HC.out wS hR; go_simp; try with_reducible rfl)
            try simp only [Act.put, List.getElem_toArray, List.getElem_cons_succ, List.getElem_cons_zero, List.setIfInBounds_toArray, List.set_cons_zero, List.set_cons_succ]
            refine Script.load (i := 5) (v := ?_) rfl (by kernel_rfl) (by kernel_rfl) (fun _ _ _ h => h) (by kernel_rfl) ?_ ?_
            rotate_left
            · (intro wS hSw; have hR := HS.out.later (After.trans (After.drew (After.refl _)) hSw); obtain ⟨⟨c0, c1⟩, d0, d1⟩ := HC.out wS hR; go_simp; try with_reducible rfl)
            try simp only [Act.put, List.getElem_toArray, List.getElem_cons_succ, List.getElem_cons_zero, List.setIfInBounds_toArray, List.set_cons_zero, List.set_cons_succ]
            refine Script.load (i := 6) (v := ?_) rfl (by kernel_rfl) (by kernel_rfl) (fun _ _ _ h => h) (by kernel_rfl) ?_ ?_
            rotate_left
            · (intro wS hSw; have hR := HS.out.later (After.trans (After.drew (After.refl _)) hSw); obtain ⟨⟨c0, c1⟩, d0, d1⟩ := HC.out wS hR; go_simp; try with_reducible rfl)
            try simp only [Act.put, List.getElem_toArray, List.getElem_cons_succ, List.getElem_cons_zero, List.setIfInBounds_toArray, List.set_cons_zero, List.set_cons_succ]
            refine Script.load (i := 7) (v := ?_) rfl (by kernel_rfl) (by kernel_rfl) (fun _ _ _ h => h) (by kernel_rfl) ?_ ?_
            rotate_left
            · (intro wS hSw; have hR := HS.out.later (After.trans (After.drew (After.refl _)) hSw); obtain ⟨⟨c0, c1⟩, d0, d1⟩ := HC.out wS hR; go_simp; try with_reducible rfl)
            try simp only [Act.put, List.getElem_toArray, List.getElem_cons_succ, List.getElem_cons_zero, List.setIfInBounds_toArray, List.set_cons_zero, List.set_cons_succ]
            refine Script.load (i := 8) (v := ?_) rfl (by kernel_rfl) (by kernel_rfl) (fun _ _ _ h => h) (by kernel_rfl) ?_ ?_
            rotate_left
            · (intro wS hSw; have hR := HS.out.later (After.trans (After.drew (After.refl _)) hSw); obtain ⟨⟨c0, c1⟩, d0, d1⟩ := HC.out wS hR; go_simp; try with_reducible rfl)
            try simp only [Act.put, List.getElem_toArray, List.getElem_cons_succ, List.getElem_cons_zero, List.setIfInBounds_toArray, List.set_cons_zero, List.set_cons_succ]
            refine Script.load (i := 9) (v := ?_) rfl (by kernel_rfl) (by kernel_rfl) (fun _ _ _ h => h) (by kernel_rfl) ?_ ?_
            rotate_left
            · (intro wS hSw; have hR := HS.out.later (After.trans (After.drew (After.refl _)) hSw); obtain ⟨⟨c0, c1⟩, d0, d1⟩ := HC.out wS hR; go_simp; try with_reducible rfl)
            try simp only [Act.put, List.getElem_toArray, List.getElem_cons_succ, List.getElem_cons_zero, List.setIfInBounds_toArray, List.set_cons_zero, List.set_cons_succ]
            refine Script.load (i := 10) (v := ?_) rfl (by kernel_rfl) (by kernel_rfl) (fun _ _ _ h => h) (by kernel_rfl) ?_ ?_
            rotate_left
            · (intro wS hSw; have hR := HS.out.later (After.trans (After.drew (After.refl _)) hSw); obtain ⟨⟨c0, c1⟩, d0, d1⟩ := HC.out wS hR; go_simp; try with_reducible rfl)
            try simp only [Act.put, List.getElem_toArray, List.getElem_cons_succ, List.getElem_cons_zero, List.setIfInBounds_toArray, List.set_cons_zero, List.set_cons_succ]
            refine Script.load (i := 11) (v := ?_) rfl (by kernel_rfl) (by kernel_rfl) (fun _ _ _ h => h) (by kernel_rfl) ?_ ?_
            rotate_left
            · (intro wS hSw; have hR := HS.out.later (After.trans (After.drew (After.refl _)) hSw); obtain ⟨⟨c0, c1⟩, d0, d1⟩ := HC.out wS hR; go_simp; try with_reducible rfl)
            try simp only [Act.put, List.getElem_toArray, List.getElem_cons_succ, List.getElem_cons_zero, List.setIfInBounds_toArray, List.set_cons_zero, List.set_cons_succ]
            refine Script.load (i := 12) (v := ?_) rfl (by kernel_rfl) (by kernel_rfl) (fun _ _ _ h => h) (by kernel_rfl) ?_ ?_
            rotate_left
            · (intro wS hSw; have hR := HS.out.later (After.trans (After.drew (After.refl _)) hSw); obtain ⟨⟨c0, c1⟩, d0, d1⟩ := HC.out wS hR; go_simp; try with_reducible rfl)
            try simp only [Act.put, List.getElem_toArray, List.getElem_cons_succ, List.getElem_cons_zero, List.setIfInBounds_toArray, List.set_cons_zero, List.set_cons_succ]
            refine Script.load (i := 13) (v := ?_) rfl (by kernel_rfl) (by kernel_rfl) (fun _ _ _ h => h) (by kernel_rfl) ?_ ?_
            rotate_left
            · (intro wS hSw; have hR := HS.out.later (After.trans (After.drew (After.refl _)) hSw); obtain ⟨⟨c0, c1⟩, d0, d1⟩ := HC.out wS hR; go_simp; try with_reducible rfl)
            try simp only [Act.put, List.getElem_toArray, List.getElem_cons_succ, List.getElem_cons_zero, List.setIfInBounds_toArray, List.set_cons_zero, List.set_cons_succ]
            refine Script.call (i := 14) (v := ?_) rfl (by kernel_rfl) (by kernel_rfl) (fun _ _ _ h => h) (by kernel_rfl) ?_ ?_
            rotate_left
            · (intro wS hSw K hK; have hR := HS.out.later (After.trans (After.drew (After.refl _)) hSw); obtain ⟨⟨c0, c1⟩, d0, d1⟩ := HC.out wS hR; go_simp; go_at_call 49; refine (CK.out _ hR).mono ?_; rintro e wc ⟨rfl, hbc⟩; exact hK.out _ hbc)
            try simp only [Act.put, List.getElem_toArray, List.getElem_cons_succ, List.getElem_cons_zero, List.setIfInBounds_toArray, List.set_cons_zero, List.set_cons_succ]
            refine Script.load (i := 15) (v := ?_) rfl (by kernel_rfl) (by kernel_rfl) (fun _ _ _ h => h) (by kernel_rfl) ?_ ?_
            rotate_left
            · (intro wS hSw; have hR := HS.out.later (After.trans (After.drew (After.refl _)) hSw); obtain ⟨⟨c0, c1⟩, d0, d1⟩ := HC.out wS hR; go_simp; try with_reducible rfl)
            try simp only [Act.put, List.getElem_toArray, List.getElem_cons_succ, List.getElem_cons_zero, List.setIfInBounds_toArray, List.set_cons_zero, List.set_cons_succ]
            refine Script.load (i := 16) (v := ?_) rfl (by kernel_rfl) (by kernel_rfl) (fun _ _ _ h => h) (by kernel_rfl) ?_ ?_
            rotate_left
            · (intro wS hSw; have hR := HS.out.later (After.trans (After.drew (After.refl _)) hSw); obtain ⟨⟨c0, c1⟩, d0, d1⟩ := HC.out wS hR; go_simp; try with_reducible rfl)
            try simp only [Act.put, List.getElem_toArray, List.getElem_cons_succ, List.getElem_cons_zero, List.setIfInBounds_toArray, List.set_cons_zero, List.set_cons_succ]
            refine Script.done (by kernel_rfl) ?_
            intro wD hD hG
            have HS2 := Lib.hid (HS.out.later (After.trans (After.drew (After.refl _)) hD))
            rw [HG2.out] at HS2
            clear hD hG HS HC CK
            go_wp2_with fail
            go_roundw
            case rel => exact ⟨i + 1, _, by omega, by omega, by go_num, HF2, HS2⟩
            case measure => simp [intOf]; omega
        · have haj' : ¬ (a : Int) < (j : Int) := by omega
          have hajd : decide (a < j) = false := decide_eq_false haj
          have HG2 : Hid (zs = G) := by have := HG.out; rw [insJ_stop haj] at this; exact this
          clear HG
          go_wp2_with fail
          refine wp_region_script (by kernel_rfl) (by kernel_rfl) ?_
          refine Script.load (i := 0) (v := ?_) rfl (by kernel_rfl) (by kernel_rfl) (fun _ _ _ h => h) (by kernel_rfl) ?_ ?_
          rotate_left
          · (intro wS hSw; go_simp; try with_reducible rfl)
          try simp only [Act.put, List.getElem_toArray, List.getElem_cons_succ, List.getElem_cons_zero, List.setIfInBounds_toArray, List.set_cons_zero, List.set_cons_succ]
          refine Script.load (i := 1) (v := ?_) rfl (by kernel_rfl) (by kernel_rfl) (fun _ _ _ h => h) (by kernel_rfl) ?_ ?_
          rotate_left
          · (intro wS hSw; go_simp; try with_reducible rfl)
          try simp only [Act.put, List.getElem_toArray, List.getElem_cons_succ, List.getElem_cons_zero, List.setIfInBounds_toArray, List.set_cons_zero, List.set_cons_succ]
          refine Script.load (i := 2) (v := ?_) rfl (by kernel_rfl) (by kernel_rfl) (fun _ _ _ h => h) (by kernel_rfl) ?_ ?_
          rotate_left
          · (intro wS hSw; go_simp; try with_reducible rfl)
          try simp only [Act.put, List.getElem_toArray, List.getElem_cons_succ, List.getElem_cons_zero, List.setIfInBounds_toArray, List.set_cons_zero, List.set_cons_succ]
          refine Script.load (i := 3) (v := ?_) rfl (by kernel_rfl) (by kernel_rfl) (fun _ _ _ h => h) (by kernel_rfl) ?_ ?_
          rotate_left
          · (intro wS hSw; go_simp; try with_reducible rfl)
          try simp only [Act.put, List.getElem_toArray, List.getElem_cons_succ, List.getElem_cons_zero, List.setIfInBounds_toArray, List.set_cons_zero, List.set_cons_succ]
          refine Script.skip (i := 4) rfl (by kernel_rfl) (by kernel_rfl) (fun _ _ _ h => h) (by kernel_rfl) ?_
          try simp only [Act.put, List.getElem_toArray, List.getElem_cons_succ, List.getElem_cons_zero, List.setIfInBounds_toArray, List.set_cons_zero, List.set_cons_succ]
          refine Script.skip (i := 5) rfl (by kernel_rfl) (by kernel_rfl) (fun _ _ _ h => h) (by kernel_rfl) ?_
          try simp only [Act.put, List.getElem_toArray, List.getElem_cons_succ, List.getElem_cons_zero, List.setIfInBounds_toArray, List.set_cons_zero, List.set_cons_succ]
          refine Script.skip (i := 6) rfl (by kernel_rfl) (by kernel_rfl) (fun _ _ _ h => h) (by kernel_rfl) ?_
          try simp only [Act.put, List.getElem_toArray, List.getElem_cons_succ, List.getElem_cons_zero, List.setIfInBounds_toArray, List.set_cons_zero, List.set_cons_succ]
          refine Script.skip (i := 7) rfl (by kernel_rfl) (by kernel_rfl) (fun _ _ _ h => h) (by kernel_rfl) ?_
          try simp only [Act.put, List.getElem_toArray, List.getElem_cons_succ, List.getElem_cons_zero, List.setIfInBounds_toArray, List.set_cons_zero, List.set_cons_succ]
          refine Script.skip (i := 8) rfl (by kernel_rfl) (by kernel_rfl) (fun _ _ _ h => h) (by kernel_rfl) ?_
          try simp only [Act.put, List.getElem_toArray, List.getElem_cons_succ, List.getElem_cons_zero, List.setIfInBounds_toArray, List.set_cons_zero, List.set_cons_succ]
          refine Script.skip (i := 9) rfl (by kernel_rfl) (by kernel_rfl) (fun _ _ _ h => h) (by kernel_rfl) ?_
          try simp only [Act.put, List.getElem_toArray, List.getElem_cons_succ, List.getElem_cons_zero, List.setIfInBounds_toArray, List.set_cons_zero, List.set_cons_succ]
          refine Script.skip (i := 10) rfl (by kernel_rfl) (by kernel_rfl) (fun _ _ _ h => h) (by kernel_rfl) ?_
          try simp only [Act.put, List.getElem_toArray, List.getElem_cons_succ, List.getElem_cons_zero, List.setIfInBounds_toArray, List.set_cons_zero, List.set_cons_succ]
          refine Script.skip (i := 11) rfl (by kernel_rfl) (by kernel_rfl) (fun _ _ _ h => h) (by kernel_rfl) ?_
          try simp only [Act.put, List.getElem_toArray, List.getElem_cons_succ, List.getElem_cons_zero, List.setIfInBounds_toArray, List.set_cons_zero, List.set_cons_succ]
          refine Script.skip (i := 12) rfl (by kernel_rfl) (by kernel_rfl) (fun _ _ _ h => h) (by kernel_rfl) ?_
          try simp only [Act.put, List.getElem_toArray, List.getElem_cons_succ, List.getElem_cons_zero, List.setIfInBounds_toArray, List.set_cons_zero, List.set_cons_succ]
          refine Script.skip (i := 13) rfl (by kernel_rfl) (by kernel_rfl) (fun _ _ _ h => h) (by kernel_rfl) ?_
          try simp only [Act.put, List.getElem_toArray, List.getElem_cons_succ, List.getElem_cons_zero, List.setIfInBounds_toArray, List.set_cons_zero, List.set_cons_succ]
          refine Script.skip (i := 14) rfl (by kernel_rfl) (by kernel_rfl) (fun _ _ _ h => h) (by kernel_rfl) ?_
          try simp only [Act.put, List.getElem_toArray, List.getElem_cons_succ, List.getElem_cons_zero, List.setIfInBounds_toArray, List.set_cons_zero, List.set_cons_succ]
          refine Script.skip (i := 15) rfl (by kernel_rfl) (by kernel_rfl) (fun _ _ _ h => h) (by kernel_rfl) ?_
          try simp only [Act.put, List.getElem_toArray, List.getElem_cons_succ, List.getElem_cons_zero, List.setIfInBounds_toArray, List.set_cons_zero, List.set_cons_succ]
          refine Script.load (i := 16) (v := ?_) rfl (by kernel_rfl) (by kernel_rfl) (fun _ _ _ h => h) (by kernel_rfl) ?_ ?_
          rotate_left
          · (intro wS hSw; go_simp; try with_reducible rfl)
          try simp only [Act.put, List.getElem_toArray, List.getElem_cons_succ, List.getElem_cons_zero, List.setIfInBounds_toArray, List.set_cons_zero, List.set_cons_succ]
          refine Script.done (by kernel_rfl) ?_
          intro wD hD hG
          have HS2 := Lib.hid (HS.out.later (After.trans (After.drew (After.refl _)) hD))
          rw [HG2.out] at HS2
          clear hD hG HS
          go_wp2_with fail
          go_roundw
          case rel => exact ⟨i + 1, _, by omega, by omega, by go_num, HF2, HS2⟩
          case measure => simp [intOf]; omega
    · have hlt' : ¬ (i : Int) < (b : Int) := by omega
      have hp : Hid (SPost B g n c p L F w0 (.returned (.tuple #[])) wr) := ⟨rfl, by have := HF.out; rw [show b - i = 0 by omega] at this; rw [← this]; exact HS.out⟩
      clear HF HS
      go_wp2_with fail
      go_end0
      exact hp.out
end Go.Proofs.Ytoginbmflomjeaa
