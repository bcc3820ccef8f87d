/- The library's stable sort over soldiers, third part: merges in place. -/
import Derived.Test.YtoginbmflomjeaaSortJ
namespace Go.Proofs.Ytoginbmflomjeaa
open Go.RowKit
set_option linter.unusedVariables false
set_option linter.unusedSimpArgs false
theorem bsr_step {t : Nat → Bool} {i j f r : Nat} (hij : i < j) (hf : j - i ≤ f) (h : bsr t f i j = r) : ∃ f', f = f' + 1 ∧ (t ((i + j) / 2) = true → bsr t f' ((i + j) / 2 + 1) j = r) ∧ (t ((i + j) / 2) = false → bsr t f' i ((i + j) / 2) = r) := by
  obtain ⟨f', rfl⟩ : ∃ f', f = f' + 1 := ⟨f - 1, by omega⟩
  refine ⟨f', rfl, fun ht => ?_, fun ht => ?_⟩
  · rw [bsr, if_pos hij, if_pos ht] at h; exact h
  · rw [bsr, if_pos hij, if_neg (by rw [ht]; decide)] at h; exact h
theorem bsr_stop {t : Nat → Bool} {i j f r : Nat} (hij : ¬ i < j) (h : bsr t f i j = r) : i = r := by
  cases f with
  | zero => exact h
  | succ f => rw [bsr, if_neg hij] at h; exact h
theorem bsr_in (t : Nat → Bool) : ∀ (f i j : Nat), i ≤ j → i ≤ bsr t f i j ∧ bsr t f i j ≤ j
  | 0, i, j, h => ⟨Nat.le_refl _, h⟩
  | f + 1, i, j, h => by
    rw [bsr]
    split
    · next hij =>
      split
      · have := bsr_in t f ((i + j) / 2 + 1) j (by omega)
        omega
      · have := bsr_in t f i ((i + j) / 2) (by omega)
        omega
    · exact ⟨Nat.le_refl _, h⟩
set_option maxHeartbeats 4000000 in
set_option maxRecDepth 100000 in
theorem implSymA {B g n c p : Nat} {L : Int} {w0 : World} (hn : n ≤ 1048576) (f a m b : Nat) (xs : List Sd) (w : World) (ham : a < m) (hmb : m < b) (hb : b ≤ n) (h1 : m - a = 1) (h : SRow B g n c p L xs w0 w) :
    Calls Try.prog 57 #[.slice (some ⟨g, 0, none⟩) n c, .int .i64 (a : Int), .int .i64 (m : Int), .int .i64 (b : Int), CmpV p] w (SPost B g n c p L (symL (ltS L) (f + 1) a m b xs) w0) := by
  have HS := Lib.hid h
  obtain ⟨F, hF⟩ : ∃ F, symL (ltS L) (f + 1) a m b xs = F := ⟨_, rfl⟩
  rw [hF]
  rw [symL, if_pos h1] at hF
  obtain ⟨I, hI⟩ : ∃ I, bsr (fun h => ltS L (nth xs h) (nth xs a)) (b - m) m b = I := ⟨_, rfl⟩
  have hIin := bsr_in (fun h => ltS L (nth xs h) (nth xs a)) (b - m) m b (by omega)
  rw [hI] at hF hIin
  obtain ⟨hI1, hI2⟩ := hIin
  have HF := Lib.hid hF
  have HI := Lib.hid hI
  have HPair := Lib.hid (fun ys i j hi hj => SRow.pair (B := B) (g := g) (n := n) (c := c) (p := p) (L := L) (xs := ys) (w0 := w0) (i := i) (j := j) hi hj)
  have e1 : (m : Int) - (a : Int) = 1 := by omega
  have han : a < n := by omega
  have a0 : (0 : Int) ≤ (a : Int) := by omega
  have a2 : (a : Int) < (n : Int) := by omega
  clear h hF hI
  unfold CmpV
  go_enter Try.func57, Try.ntmps57
  go_wp2_with fail
  clear e1
  go_loopw [10, 11] (fun u v wr => ∃ (i j d : Nat), m ≤ i ∧ i ≤ j ∧ j ≤ b ∧ j - i ≤ d ∧ u = .int .i64 i ∧ v = .int .i64 j ∧ Hid (bsr (fun h => ltS L (nth xs h) (nth xs a)) d i j = I) ∧ Hid (SRow B g n c p L xs w0 wr)) (fun u v _ => (intOf v).toNat - (intOf u).toNat)
  case atStart => exact ⟨m, b, b - m, Nat.le_refl _, by omega, Nat.le_refl _, Nat.le_refl _, rfl, rfl, HI, HS⟩
  case round =>
    clear HI HS
    obtain ⟨i, j, d, hmi, hij, hjb, hd, rfl, rfl, HI, HS⟩ := hrel
    by_cases hlt : i < j
    · have hlt' : (i : Int) < (j : Int) := by omega
      obtain ⟨d', rfl, ht, hf⟩ := bsr_step hlt hd HI.out
      have HT := Lib.hid ht
      have HFa := Lib.hid hf
      obtain ⟨s, hs⟩ : ∃ s, i + j = s := ⟨_, rfl⟩
      have hsi : (i : Int) + (j : Int) = (s : Int) := by omega
      rw [hs] at HT HFa
      obtain ⟨h, hh⟩ : ∃ h, s / 2 = h := ⟨_, rfl⟩
      have hhi : (s : Int) / 2 = (h : Int) := by omega
      rw [hh] at HT HFa
      have hhn : h < n := by omega
      have hih : i ≤ h := by omega
      have hhj : h < j := by omega
      have h0 : (0 : Int) ≤ (h : Int) := by omega
      have h2 : (h : Int) < (n : Int) := by omega
      obtain ⟨x, y, u, v, r, -, -, er, hc, hcall⟩ := HPair.out xs h a hhn han
      have HC := Lib.hid hc
      have CK := Lib.hid hcall
      have ER := Lib.hid er
      clear ht hf hc hcall er hs hh HI
      by_cases hr : r < 0
      · have hrd : decide (r < 0) = true := decide_eq_true hr
        have HI2 := Lib.hid (HT.out (by show ltS L (nth xs h) (nth xs a) = true; rw [ER.out]; exact hrd))
        clear HT HFa ER
        go_wp2_with fail
        refine wp_region_script (by kernel_rfl) (by kernel_rfl) ?_
        refine Script.load (i := 0) (v := ?_) rfl (by kernel_rfl) (by kernel_rfl) (fun _ _ _ h => h) (by kernel_rfl) ?_ ?_
        rotate_left
        · (intro wS hSw; have hR := HS.out.later (After.trans (After.drew (After.refl _)) hSw); obtain ⟨⟨c0, c1⟩, d0, d1⟩ := HC.out wS hR; go_simp; try with_reducible rfl)
        try simp only [Act.put, List.getElem_toArray, List.getElem_cons_succ, List.getElem_cons_zero, List.setIfInBounds_toArray, List.set_cons_zero, List.set_cons_succ]
        refine Script.load (i := 1) (v := ?_) rfl (by kernel_rfl) (by kernel_rfl) (fun _ _ _ h => h) (by kernel_rfl) ?_ ?_
        rotate_left
        · (intro wS hSw; have hR := HS.out.later (After.trans (After.drew (After.refl _)) hSw); obtain ⟨⟨c0, c1⟩, d0, d1⟩ := HC.out wS hR; go_simp; try with_reducible rfl)
        try simp only [Act.put, List.getElem_toArray, List.getElem_cons_succ, List.getElem_cons_zero, List.setIfInBounds_toArray, List.set_cons_zero, List.set_cons_succ]
        refine Script.load (i := 2) (v := ?_) rfl (by kernel_rfl) (by kernel_rfl) (fun _ _ _ h => h) (by kernel_rfl) ?_ ?_
        rotate_left
        · (intro wS hSw; have hR := HS.out.later (After.trans (After.drew (After.refl _)) hSw); obtain ⟨⟨c0, c1⟩, d0, d1⟩ := HC.out wS hR; go_simp; try with_reducible rfl)
        try simp only [Act.put, List.getElem_toArray, List.getElem_cons_succ, List.getElem_cons_zero, List.setIfInBounds_toArray, List.set_cons_zero, List.set_cons_succ]
        refine Script.load (i := 3) (v := ?_) rfl (by kernel_rfl) (by kernel_rfl) (fun _ _ _ h => h) (by kernel_rfl) ?_ ?_
        rotate_left
        · (intro wS hSw; have hR := HS.out.later (After.trans (After.drew (After.refl _)) hSw); obtain ⟨⟨c0, c1⟩, d0, d1⟩ := HC.out wS hR; go_simp; try with_reducible rfl)
        try simp only [Act.put, List.getElem_toArray, List.getElem_cons_succ, List.getElem_cons_zero, List.setIfInBounds_toArray, List.set_cons_zero, List.set_cons_succ]
        refine Script.load (i := 4) (v := ?_) rfl (by kernel_rfl) (by kernel_rfl) (fun _ _ _ h => h) (by kernel_rfl) ?_ ?_
        rotate_left
        · (intro wS hSw; have hR := HS.out.later (After.trans (After.drew (After.refl _)) hSw); obtain ⟨⟨c0, c1⟩, d0, d1⟩ := HC.out wS hR; go_simp; try with_reducible rfl)
        try simp only [Act.put, List.getElem_toArray, List.getElem_cons_succ, List.getElem_cons_zero, List.setIfInBounds_toArray, List.set_cons_zero, List.set_cons_succ]
        refine Script.load (i := 5) (v := ?_) rfl (by kernel_rfl) (by kernel_rfl) (fun _ _ _ h => h) (by kernel_rfl) ?_ ?_
        rotate_left
        · (intro wS hSw; have hR := HS.out.later (After.trans (After.drew (After.refl _)) hSw); obtain ⟨⟨c0, c1⟩, d0, d1⟩ := HC.out wS hR; go_simp; try with_reducible rfl)
        try simp only [Act.put, List.getElem_toArray, List.getElem_cons_succ, List.getElem_cons_zero, List.setIfInBounds_toArray, List.set_cons_zero, List.set_cons_succ]
        refine Script.load (i := 6) (v := ?_) rfl (by kernel_rfl) (by kernel_rfl) (fun _ _ _ h => h) (by kernel_rfl) ?_ ?_
        rotate_left
        · (intro wS hSw; have hR := HS.out.later (After.trans (After.drew (After.refl _)) hSw); obtain ⟨⟨c0, c1⟩, d0, d1⟩ := HC.out wS hR; go_simp; try with_reducible rfl)
        try simp only [Act.put, List.getElem_toArray, List.getElem_cons_succ, List.getElem_cons_zero, List.setIfInBounds_toArray, List.set_cons_zero, List.set_cons_succ]
        refine Script.load (i := 7) (v := ?_) rfl (by kernel_rfl) (by kernel_rfl) (fun _ _ _ h => h) (by kernel_rfl) ?_ ?_
        rotate_left
        · (intro wS hSw; have hR := HS.out.later (After.trans (After.drew (After.refl _)) hSw); obtain ⟨⟨c0, c1⟩, d0, d1⟩ := HC.out wS hR; go_simp; try with_reducible rfl)
        try simp only [Act.put, List.getElem_toArray, List.getElem_cons_succ, List.getElem_cons_zero, List.setIfInBounds_toArray, List.set_cons_zero, List.set_cons_succ]
        refine Script.load (i := 8) (v := ?_) rfl (by kernel_rfl) (by kernel_rfl) (fun _ _ _ h => h) (by kernel_rfl) ?_ ?_
        rotate_left
        · (intro wS hSw; have hR := HS.out.later (After.trans (After.drew (After.refl _)) hSw); obtain ⟨⟨c0, c1⟩, d0, d1⟩ := HC.out wS hR; go_simp; try with_reducible rfl)
        try simp only [Act.put, List.getElem_toArray, List.getElem_cons_succ, List.getElem_cons_zero, List.setIfInBounds_toArray, List.set_cons_zero, List.set_cons_succ]
        refine Script.call (i := 9) (v := ?_) rfl (by kernel_rfl) (by kernel_rfl) (fun _ _ _ h => h) (by kernel_rfl) ?_ ?_
        rotate_left
        · (intro wS hSw K hK; have hR := HS.out.later (After.trans (After.drew (After.refl _)) hSw); obtain ⟨⟨c0, c1⟩, d0, d1⟩ := HC.out wS hR; go_simp; go_at_call 49; refine (CK.out _ hR).mono ?_; rintro e wc ⟨rfl, hbc⟩; exact hK.out _ hbc)
        try simp only [Act.put, List.getElem_toArray, List.getElem_cons_succ, List.getElem_cons_zero, List.setIfInBounds_toArray, List.set_cons_zero, List.set_cons_succ]
        refine Script.load (i := 10) (v := ?_) rfl (by kernel_rfl) (by kernel_rfl) (fun _ _ _ h => h) (by kernel_rfl) ?_ ?_
        rotate_left
        · (intro wS hSw; have hR := HS.out.later (After.trans (After.drew (After.refl _)) hSw); obtain ⟨⟨c0, c1⟩, d0, d1⟩ := HC.out wS hR; go_simp; try with_reducible rfl)
        try simp only [Act.put, List.getElem_toArray, List.getElem_cons_succ, List.getElem_cons_zero, List.setIfInBounds_toArray, List.set_cons_zero, List.set_cons_succ]
        refine Script.done (by kernel_rfl) ?_
        intro wD hD hG
        have HS2 := Lib.hid (HS.out.later (After.trans (After.drew (After.refl _)) hD))
        clear hD hG HS HC CK
        go_wp2_with fail
        go_roundw
        case rel => exact ⟨h + 1, j, d', by omega, by omega, hjb, by omega, by go_num, rfl, HI2, HS2⟩
        case measure => simp [intOf]; omega
      · have hrd : decide (r < 0) = false := decide_eq_false hr
        have HI2 := Lib.hid (HFa.out (by show ltS L (nth xs h) (nth xs a) = false; rw [ER.out]; exact hrd))
        clear HT HFa ER
        go_wp2_with fail
        refine wp_region_script (by kernel_rfl) (by kernel_rfl) ?_
        refine Script.load (i := 0) (v := ?_) rfl (by kernel_rfl) (by kernel_rfl) (fun _ _ _ h => h) (by kernel_rfl) ?_ ?_
        rotate_left
        · (intro wS hSw; have hR := HS.out.later (After.trans (After.drew (After.refl _)) hSw); obtain ⟨⟨c0, c1⟩, d0, d1⟩ := HC.out wS hR; go_simp; try with_reducible rfl)
        try simp only [Act.put, List.getElem_toArray, List.getElem_cons_succ, List.getElem_cons_zero, List.setIfInBounds_toArray, List.set_cons_zero, List.set_cons_succ]
        refine Script.load (i := 1) (v := ?_) rfl (by kernel_rfl) (by kernel_rfl) (fun _ _ _ h => h) (by kernel_rfl) ?_ ?_
        rotate_left
        · (intro wS hSw; have hR := HS.out.later (After.trans (After.drew (After.refl _)) hSw); obtain ⟨⟨c0, c1⟩, d0, d1⟩ := HC.out wS hR; go_simp; try with_reducible rfl)
        try simp only [Act.put, List.getElem_toArray, List.getElem_cons_succ, List.getElem_cons_zero, List.setIfInBounds_toArray, List.set_cons_zero, List.set_cons_succ]
        refine Script.load (i := 2) (v := ?_) rfl (by kernel_rfl) (by kernel_rfl) (fun _ _ _ h => h) (by kernel_rfl) ?_ ?_
        rotate_left
        · (intro wS hSw; have hR := HS.out.later (After.trans (After.drew (After.refl _)) hSw); obtain ⟨⟨c0, c1⟩, d0, d1⟩ := HC.out wS hR; go_simp; try with_reducible rfl)
        try simp only [Act.put, List.getElem_toArray, List.getElem_cons_succ, List.getElem_cons_zero, List.setIfInBounds_toArray, List.set_cons_zero, List.set_cons_succ]
        refine Script.load (i := 3) (v := ?_) rfl (by kernel_rfl) (by kernel_rfl) (fun _ _ _ h => h) (by kernel_rfl) ?_ ?_
        rotate_left
        · (intro wS hSw; have hR := HS.out.later (After.trans (After.drew (After.refl _)) hSw); obtain ⟨⟨c0, c1⟩, d0, d1⟩ := HC.out wS hR; go_simp; try with_reducible rfl)
        try simp only [Act.put, List.getElem_toArray, List.getElem_cons_succ, List.getElem_cons_zero, List.setIfInBounds_toArray, List.set_cons_zero, List.set_cons_succ]
        refine Script.load (i := 4) (v := ?_) rfl (by kernel_rfl) (by kernel_rfl) (fun _ _ _ h => h) (by kernel_rfl) ?_ ?_
        rotate_left
        · (intro wS hSw; have hR := HS.out.later (After.trans (After.drew (After.refl _)) hSw); obtain ⟨⟨c0, c1⟩, d0, d1⟩ := HC.out wS hR; go_simp; try with_reducible rfl)
        try simp only [Act.put, List.getElem_toArray, List.getElem_cons_succ, List.getElem_cons_zero, List.setIfInBounds_toArray, List.set_cons_zero, List.set_cons_succ]
        refine Script.load (i := 5) (v := ?_) rfl (by kernel_rfl) (by kernel_rfl) (fun _ _ _ h => h) (by kernel_rfl) ?_ ?_
        rotate_left
        · (intro wS hSw; have hR := HS.out.later (After.trans (After.drew (After.refl _)) hSw); obtain ⟨⟨c0, c1⟩, d0, d1⟩ := HC.out wS hR; go_simp; try with_reducible rfl)
        try simp only [Act.put, List.getElem_toArray, List.getElem_cons_succ, List.getElem_cons_zero, List.setIfInBounds_toArray, List.set_cons_zero, List.set_cons_succ]
        refine Script.load (i := 6) (v := ?_) rfl (by kernel_rfl) (by kernel_rfl) (fun _ _ _ h => h) (by kernel_rfl) ?_ ?_
        rotate_left
        · (intro wS hSw; have hR := HS.out.later (After.trans (After.drew (After.refl _)) hSw); obtain ⟨⟨c0, c1⟩, d0, d1⟩ := HC.out wS hR; go_simp; try with_reducible rfl)
        try simp only [Act.put, List.getElem_toArray, List.getElem_cons_succ, List.getElem_cons_zero, List.setIfInBounds_toArray, List.set_cons_zero, List.set_cons_succ]
        refine Script.load (i := 7) (v := ?_) rfl (by kernel_rfl) (by kernel_rfl) (fun _ _ _ h => h) (by kernel_rfl) ?_ ?_
        rotate_left
        · (intro wS hSw; have hR := HS.out.later (After.trans (After.drew (After.refl _)) hSw); obtain ⟨⟨c0, c1⟩, d0, d1⟩ := HC.out wS hR; go_simp; try with_reducible rfl)
        try simp only [Act.put, List.getElem_toArray, List.getElem_cons_succ, List.getElem_cons_zero, List.setIfInBounds_toArray, List.set_cons_zero, List.set_cons_succ]
        refine Script.load (i := 8) (v := ?_) rfl (by kernel_rfl) (by kernel_rfl) (fun _ _ _ h => h) (by kernel_rfl) ?_ ?_
        rotate_left
        · (intro wS hSw; have hR := HS.out.later (After.trans (After.drew (After.refl _)) hSw); obtain ⟨⟨c0, c1⟩, d0, d1⟩ := HC.out wS hR; go_simp; try with_reducible rfl)
        try simp only [Act.put, List.getElem_toArray, List.getElem_cons_succ, List.getElem_cons_zero, List.setIfInBounds_toArray, List.set_cons_zero, List.set_cons_succ]
        refine Script.call (i := 9) (v := ?_) rfl (by kernel_rfl) (by kernel_rfl) (fun _ _ _ h => h) (by kernel_rfl) ?_ ?_
        rotate_left
        · (intro wS hSw K hK; have hR := HS.out.later (After.trans (After.drew (After.refl _)) hSw); obtain ⟨⟨c0, c1⟩, d0, d1⟩ := HC.out wS hR; go_simp; go_at_call 49; refine (CK.out _ hR).mono ?_; rintro e wc ⟨rfl, hbc⟩; exact hK.out _ hbc)
        try simp only [Act.put, List.getElem_toArray, List.getElem_cons_succ, List.getElem_cons_zero, List.setIfInBounds_toArray, List.set_cons_zero, List.set_cons_succ]
        refine Script.load (i := 10) (v := ?_) rfl (by kernel_rfl) (by kernel_rfl) (fun _ _ _ h => h) (by kernel_rfl) ?_ ?_
        rotate_left
        · (intro wS hSw; have hR := HS.out.later (After.trans (After.drew (After.refl _)) hSw); obtain ⟨⟨c0, c1⟩, d0, d1⟩ := HC.out wS hR; go_simp; try with_reducible rfl)
        try simp only [Act.put, List.getElem_toArray, List.getElem_cons_succ, List.getElem_cons_zero, List.setIfInBounds_toArray, List.set_cons_zero, List.set_cons_succ]
        refine Script.done (by kernel_rfl) ?_
        intro wD hD hG
        have HS2 := Lib.hid (HS.out.later (After.trans (After.drew (After.refl _)) hD))
        clear hD hG HS HC CK
        go_wp2_with fail
        go_roundw
        case rel => exact ⟨i, h, d', hmi, hih, by omega, by omega, rfl, rfl, HI2, HS2⟩
        case measure => simp [intOf]; omega
    · have hlt' : ¬ (i : Int) < (j : Int) := by omega
      have hiI := bsr_stop hlt HI.out
      subst hiI
      have hi1 : (i : Int) - 1 = ((i - 1 : Nat) : Int) := by omega
      clear HI
      go_wp2_with fail
      go_loopw [13] (fun u wr => ∃ (k : Nat) (ys : List Sd), a ≤ k ∧ k ≤ i - 1 ∧ u = .int .i64 k ∧ Hid (upL (i - 1 - k) k ys = F) ∧ Hid (SRow B g n c p L ys w0 wr)) (fun u _ => n - (intOf u).toNat)
      case atStart => exact ⟨a, xs, Nat.le_refl _, by omega, rfl, HF, HS⟩
      case round =>
        clear HF HS
        obtain ⟨k, ys, hak, hki, rfl, HF, HS⟩ := hrel
        by_cases hk : k < i - 1
        · have hk' : (k : Int) < ((i - 1 : Nat) : Int) := by omega
          obtain ⟨t, ht⟩ : ∃ t, k + 1 = t := ⟨_, rfl⟩
          have hkt : (k : Int) + 1 = (t : Int) := by omega
          have HF2 : Hid (upL (i - 1 - (k + 1)) (k + 1) (swp ys k t) = F) := by
            have := HF.out
            rw [show i - 1 - k = (i - 1 - (k + 1)) + 1 by omega, upL, ht] at this
            rw [ht]; exact this
          have s1 : k < n := by omega
          have t1 : t < n := by omega
          have s2 : (k : Int) < (n : Int) := by omega
          have t2 : (t : Int) < (n : Int) := by omega
          have s0 : (0 : Int) ≤ (k : Int) := by omega
          have t0 : (0 : Int) ≤ (t : Int) := by omega
          have tw : IntKind.i64.wrap (t : Int) = (t : Int) := IntWalk.i64_in _ (by omega)
          have n1 : ¬ k * 2 = t * 2 := by omega
          have HSW := Lib.hid (HS.out.swap k t)
          obtain ⟨c0, c1⟩ := HS.out.get s1
          obtain ⟨d0, d1⟩ := HS.out.get t1
          obtain ⟨⟨x, y⟩, hx⟩ : ∃ r, nth ys k = r := ⟨_, rfl⟩
          obtain ⟨⟨u, v⟩, hu⟩ : ∃ r, nth ys t = r := ⟨_, rfl⟩
          rw [hx] at c0 c1 HSW
          rw [hu] at d0 d1 HSW
          simp only at c0 c1 d0 d1 HSW
          have f0 := HS.out.thaw (k * 2)
          have f1 := HS.out.thaw (k * 2 + 1)
          have f2 := HS.out.thaw (t * 2)
          have f3 := HS.out.thaw (t * 2 + 1)
          clear hx hu HF HS
          go_wp2_with fail
          go_big_region
          clear c0 c1 d0 d1 f0 f1 f2 f3
          go_wp2_with fail
          go_roundw
          case rel => exact ⟨k + 1, _, by omega, by omega, by go_num, HF2, HSW⟩
          case measure => simp [intOf]; omega
        · have hk' : ¬ (k : Int) < ((i - 1 : Nat) : Int) := by omega
          have hp : Hid (SPost B g n c p L F w0 (.returned (.tuple #[])) wr) := ⟨rfl, by have := HF.out; rw [show i - 1 - k = 0 by omega] at this; rw [← this]; exact HS.out⟩
          clear HF HS
          go_wp2_with fail
          go_end0
          exact hp.out
set_option maxHeartbeats 4000000 in
set_option maxRecDepth 100000 in
theorem implSymB {B g n c p : Nat} {L : Int} {w0 : World} (hn : n ≤ 1048576) (f a m b : Nat) (xs : List Sd) (w : World) (ham : a < m) (hmb : m < b) (hb : b ≤ n) (h1 : ¬ m - a = 1) (h2 : b - m = 1) (h : SRow B g n c p L xs w0 w) :
    Calls Try.prog 57 #[.slice (some ⟨g, 0, none⟩) n c, .int .i64 (a : Int), .int .i64 (m : Int), .int .i64 (b : Int), CmpV p] w (SPost B g n c p L (symL (ltS L) (f + 1) a m b xs) w0) := by
  have HS := Lib.hid h
  obtain ⟨F, hF⟩ : ∃ F, symL (ltS L) (f + 1) a m b xs = F := ⟨_, rfl⟩
  rw [hF]
  rw [symL, if_neg h1, if_pos h2] at hF
  obtain ⟨I, hI⟩ : ∃ I, bsr (fun h => !ltS L (nth xs m) (nth xs h)) (m - a) a m = I := ⟨_, rfl⟩
  have hIin := bsr_in (fun h => !ltS L (nth xs m) (nth xs h)) (m - a) a m (by omega)
  rw [hI] at hF hIin
  obtain ⟨hI1, hI2⟩ := hIin
  have HF := Lib.hid hF
  have HI := Lib.hid hI
  have HPair := Lib.hid (fun ys i j hi hj => SRow.pair (B := B) (g := g) (n := n) (c := c) (p := p) (L := L) (xs := ys) (w0 := w0) (i := i) (j := j) hi hj)
  obtain ⟨ma, hma⟩ : ∃ ma, m - a = ma := ⟨_, rfl⟩
  have e0 : (m : Int) - (a : Int) = (ma : Int) := by omega
  have e1 : ((ma : Int) == 1) = false := by simp; omega
  have e2 : (b : Int) - (m : Int) = 1 := by omega
  have hmn : m < n := by omega
  have m0 : (0 : Int) ≤ (m : Int) := by omega
  have m2 : (m : Int) < (n : Int) := by omega
  clear h hF hI
  unfold CmpV
  go_enter Try.func57, Try.ntmps57
  go_wp2_with fail
  clear e0 e1 e2 hma
  go_loopw [14, 15] (fun u v wr => ∃ (i j d : Nat), a ≤ i ∧ i ≤ j ∧ j ≤ m ∧ j - i ≤ d ∧ u = .int .i64 i ∧ v = .int .i64 j ∧ Hid (bsr (fun h => !ltS L (nth xs m) (nth xs h)) d i j = I) ∧ Hid (SRow B g n c p L xs w0 wr)) (fun u v _ => (intOf v).toNat - (intOf u).toNat)
  case atStart => exact ⟨a, m, m - a, Nat.le_refl _, by omega, Nat.le_refl _, Nat.le_refl _, rfl, rfl, HI, HS⟩
  case round =>
    clear HI HS
    obtain ⟨i, j, d, hmi, hij, hjb, hd, rfl, rfl, HI, HS⟩ := hrel
    by_cases hlt : i < j
    · have hlt' : (i : Int) < (j : Int) := by omega
      obtain ⟨d', rfl, ht, hf⟩ := bsr_step hlt hd HI.out
      have HT := Lib.hid ht
      have HFa := Lib.hid hf
      obtain ⟨s, hs⟩ : ∃ s, i + j = s := ⟨_, rfl⟩
      have hsi : (i : Int) + (j : Int) = (s : Int) := by omega
      rw [hs] at HT HFa
      obtain ⟨h, hh⟩ : ∃ h, s / 2 = h := ⟨_, rfl⟩
      have hhi : (s : Int) / 2 = (h : Int) := by omega
      rw [hh] at HT HFa
      have hhn : h < n := by omega
      have hih : i ≤ h := by omega
      have hhj : h < j := by omega
      have h0 : (0 : Int) ≤ (h : Int) := by omega
      have h2 : (h : Int) < (n : Int) := by omega
      obtain ⟨x, y, u, v, r, -, -, er, hc, hcall⟩ := HPair.out xs m h hmn hhn
      have HC := Lib.hid hc
      have CK := Lib.hid hcall
      have ER := Lib.hid er
      clear ht hf hc hcall er hs hh HI
      by_cases hr : r < 0
      · have hrd : decide (r < 0) = true := decide_eq_true hr
        have HI2 := Lib.hid (HFa.out (by show (!ltS L (nth xs m) (nth xs h)) = false; rw [ER.out, hrd]; rfl))
        clear HT HFa ER
        go_wp2_with fail
        refine wp_region_script (by kernel_rfl) (by kernel_rfl) ?_
        refine Script.load (i := 0) (v := ?_) rfl (by kernel_rfl) (by kernel_rfl) (fun _ _ _ h => h) (by kernel_rfl) ?_ ?_
        rotate_left
        · (intro wS hSw; have hR := HS.out.later (After.trans (After.drew (After.refl _)) hSw); obtain ⟨⟨c0, c1⟩, d0, d1⟩ := HC.out wS hR; go_simp; try with_reducible rfl)
        try simp only [Act.put, List.getElem_toArray, List.getElem_cons_succ, List.getElem_cons_zero, List.setIfInBounds_toArray, List.set_cons_zero, List.set_cons_succ]
        refine Script.load (i := 1) (v := ?_) rfl (by kernel_rfl) (by kernel_rfl) (fun _ _ _ h => h) (by kernel_rfl) ?_ ?_
        rotate_left
        · (intro wS hSw; have hR := HS.out.later (After.trans (After.drew (After.refl _)) hSw); obtain ⟨⟨c0, c1⟩, d0, d1⟩ := HC.out wS hR; go_simp; try with_reducible rfl)
        try simp only [Act.put, List.getElem_toArray, List.getElem_cons_succ, List.getElem_cons_zero, List.setIfInBounds_toArray, List.set_cons_zero, List.set_cons_succ]
        refine Script.load (i := 2) (v := ?_) rfl (by kernel_rfl) (by kernel_rfl) (fun _ _ _ h => h) (by kernel_rfl) ?_ ?_
        rotate_left
        · (intro wS hSw; have hR := HS.out.later (After.trans (After.drew (After.refl _)) hSw); obtain ⟨⟨c0, c1⟩, d0, d1⟩ := HC.out wS hR; go_simp; try with_reducible rfl)
        try simp only [Act.put, List.getElem_toArray, List.getElem_cons_succ, List.getElem_cons_zero, List.setIfInBounds_toArray, List.set_cons_zero, List.set_cons_succ]
        refine Script.load (i := 3) (v := ?_) rfl (by kernel_rfl) (by kernel_rfl) (fun _ _ _ h => h) (by kernel_rfl) ?_ ?_
        rotate_left
        · (intro wS hSw; have hR := HS.out.later (After.trans (After.drew (After.refl _)) hSw); obtain ⟨⟨c0, c1⟩, d0, d1⟩ := HC.out wS hR; go_simp; try with_reducible rfl)
        try simp only [Act.put, List.getElem_toArray, List.getElem_cons_succ, List.getElem_cons_zero, List.setIfInBounds_toArray, List.set_cons_zero, List.set_cons_succ]
        refine Script.load (i := 4) (v := ?_) rfl (by kernel_rfl) (by kernel_rfl) (fun _ _ _ h => h) (by kernel_rfl) ?_ ?_
        rotate_left
        · (intro wS hSw; have hR := HS.out.later (After.trans (After.drew (After.refl _)) hSw); obtain ⟨⟨c0, c1⟩, d0, d1⟩ := HC.out wS hR; go_simp; try with_reducible rfl)
        try simp only [Act.put, List.getElem_toArray, List.getElem_cons_succ, List.getElem_cons_zero, List.setIfInBounds_toArray, List.set_cons_zero, List.set_cons_succ]
        refine Script.load (i := 5) (v := ?_) rfl (by kernel_rfl) (by kernel_rfl) (fun _ _ _ h => h) (by kernel_rfl) ?_ ?_
        rotate_left
        · (intro wS hSw; have hR := HS.out.later (After.trans (After.drew (After.refl _)) hSw); obtain ⟨⟨c0, c1⟩, d0, d1⟩ := HC.out wS hR; go_simp; try with_reducible rfl)
        try simp only [Act.put, List.getElem_toArray, List.getElem_cons_succ, List.getElem_cons_zero, List.setIfInBounds_toArray, List.set_cons_zero, List.set_cons_succ]
        refine Script.load (i := 6) (v := ?_) rfl (by kernel_rfl) (by kernel_rfl) (fun _ _ _ h => h) (by kernel_rfl) ?_ ?_
        rotate_left
        · (intro wS hSw; have hR := HS.out.later (After.trans (After.drew (After.refl _)) hSw); obtain ⟨⟨c0, c1⟩, d0, d1⟩ := HC.out wS hR; go_simp; try with_reducible rfl)
        try simp only [Act.put, List.getElem_toArray, List.getElem_cons_succ, List.getElem_cons_zero, List.setIfInBounds_toArray, List.set_cons_zero, List.set_cons_succ]
        refine Script.load (i := 7) (v := ?_) rfl (by kernel_rfl) (by kernel_rfl) (fun _ _ _ h => h) (by kernel_rfl) ?_ ?_
        rotate_left
        · (intro wS hSw; have hR := HS.out.later (After.trans (After.drew (After.refl _)) hSw); obtain ⟨⟨c0, c1⟩, d0, d1⟩ := HC.out wS hR; go_simp; try with_reducible rfl)
        try simp only [Act.put, List.getElem_toArray, List.getElem_cons_succ, List.getElem_cons_zero, List.setIfInBounds_toArray, List.set_cons_zero, List.set_cons_succ]
        refine Script.load (i := 8) (v := ?_) rfl (by kernel_rfl) (by kernel_rfl) (fun _ _ _ h => h) (by kernel_rfl) ?_ ?_
        rotate_left
        · (intro wS hSw; have hR := HS.out.later (After.trans (After.drew (After.refl _)) hSw); obtain ⟨⟨c0, c1⟩, d0, d1⟩ := HC.out wS hR; go_simp; try with_reducible rfl)
        try simp only [Act.put, List.getElem_toArray, List.getElem_cons_succ, List.getElem_cons_zero, List.setIfInBounds_toArray, List.set_cons_zero, List.set_cons_succ]
        refine Script.call (i := 9) (v := ?_) rfl (by kernel_rfl) (by kernel_rfl) (fun _ _ _ h => h) (by kernel_rfl) ?_ ?_
        rotate_left
        · (intro wS hSw K hK; have hR := HS.out.later (After.trans (After.drew (After.refl _)) hSw); obtain ⟨⟨c0, c1⟩, d0, d1⟩ := HC.out wS hR; go_simp; go_at_call 49; refine (CK.out _ hR).mono ?_; rintro e wc ⟨rfl, hbc⟩; exact hK.out _ hbc)
        try simp only [Act.put, List.getElem_toArray, List.getElem_cons_succ, List.getElem_cons_zero, List.setIfInBounds_toArray, List.set_cons_zero, List.set_cons_succ]
        refine Script.load (i := 10) (v := ?_) rfl (by kernel_rfl) (by kernel_rfl) (fun _ _ _ h => h) (by kernel_rfl) ?_ ?_
        rotate_left
        · (intro wS hSw; have hR := HS.out.later (After.trans (After.drew (After.refl _)) hSw); obtain ⟨⟨c0, c1⟩, d0, d1⟩ := HC.out wS hR; go_simp; try with_reducible rfl)
        try simp only [Act.put, List.getElem_toArray, List.getElem_cons_succ, List.getElem_cons_zero, List.setIfInBounds_toArray, List.set_cons_zero, List.set_cons_succ]
        refine Script.load (i := 11) (v := ?_) rfl (by kernel_rfl) (by kernel_rfl) (fun _ _ _ h => h) (by kernel_rfl) ?_ ?_
        rotate_left
        · (intro wS hSw; have hR := HS.out.later (After.trans (After.drew (After.refl _)) hSw); obtain ⟨⟨c0, c1⟩, d0, d1⟩ := HC.out wS hR; go_simp; try with_reducible rfl)
        try simp only [Act.put, List.getElem_toArray, List.getElem_cons_succ, List.getElem_cons_zero, List.setIfInBounds_toArray, List.set_cons_zero, List.set_cons_succ]
        refine Script.done (by kernel_rfl) ?_
        intro wD hD hG
        have HS2 := Lib.hid (HS.out.later (After.trans (After.drew (After.refl _)) hD))
        clear hD hG HS HC CK
        go_wp2_with fail
        go_roundw
        case rel => exact ⟨i, h, d', hmi, hih, by omega, by omega, rfl, rfl, HI2, HS2⟩
        case measure => simp [intOf]; omega
      · have hrd : decide (r < 0) = false := decide_eq_false hr
        have HI2 := Lib.hid (HT.out (by show (!ltS L (nth xs m) (nth xs h)) = true; rw [ER.out, hrd]; rfl))
        clear HT HFa ER
        go_wp2_with fail
        refine wp_region_script (by kernel_rfl) (by kernel_rfl) ?_
        refine Script.load (i := 0) (v := ?_) rfl (by kernel_rfl) (by kernel_rfl) (fun _ _ _ h => h) (by kernel_rfl) ?_ ?_
        rotate_left
        · (intro wS hSw; have hR := HS.out.later (After.trans (After.drew (After.refl _)) hSw); obtain ⟨⟨c0, c1⟩, d0, d1⟩ := HC.out wS hR; go_simp; try with_reducible rfl)
        try simp only [Act.put, List.getElem_toArray, List.getElem_cons_succ, List.getElem_cons_zero, List.setIfInBounds_toArray, List.set_cons_zero, List.set_cons_succ]
        refine Script.load (i := 1) (v := ?_) rfl (by kernel_rfl) (by kernel_rfl) (fun _ _ _ h => h) (by kernel_rfl) ?_ ?_
        rotate_left
        · (intro wS hSw; have hR := HS.out.later (After.trans (After.drew (After.refl _)) hSw); obtain ⟨⟨c0, c1⟩, d0, d1⟩ := HC.out wS hR; go_simp; try with_reducible rfl)
        try simp only [Act.put, List.getElem_toArray, List.getElem_cons_succ, List.getElem_cons_zero, List.setIfInBounds_toArray, List.set_cons_zero, List.set_cons_succ]
        refine Script.load (i := 2) (v := ?_) rfl (by kernel_rfl) (by kernel_rfl) (fun _ _ _ h => h) (by kernel_rfl) ?_ ?_
        rotate_left
        · (intro wS hSw; have hR := HS.out.later (After.trans (After.drew (After.refl _)) hSw); obtain ⟨⟨c0, c1⟩, d0, d1⟩ := HC.out wS hR; go_simp; try with_reducible rfl)
        try simp only [Act.put, List.getElem_toArray, List.getElem_cons_succ, List.getElem_cons_zero, List.setIfInBounds_toArray, List.set_cons_zero, List.set_cons_succ]
        refine Script.load (i := 3) (v := ?_) rfl (by kernel_rfl) (by kernel_rfl) (fun _ _ _ h => h) (by kernel_rfl) ?_ ?_
        rotate_left
        · (intro wS hSw; have hR := HS.out.later (After.trans (After.drew (After.refl _)) hSw); obtain ⟨⟨c0, c1⟩, d0, d1⟩ := HC.out wS hR; go_simp; try with_reducible rfl)
        try simp only [Act.put, List.getElem_toArray, List.getElem_cons_succ, List.getElem_cons_zero, List.setIfInBounds_toArray, List.set_cons_zero, List.set_cons_succ]
        refine Script.load (i := 4) (v := ?_) rfl (by kernel_rfl) (by kernel_rfl) (fun _ _ _ h => h) (by kernel_rfl) ?_ ?_
        rotate_left
        · (intro wS hSw; have hR := HS.out.later (After.trans (After.drew (After.refl _)) hSw); obtain ⟨⟨c0, c1⟩, d0, d1⟩ := HC.out wS hR; go_simp; try with_reducible rfl)
        try simp only [Act.put, List.getElem_toArray, List.getElem_cons_succ, List.getElem_cons_zero, List.setIfInBounds_toArray, List.set_cons_zero, List.set_cons_succ]
        refine Script.load (i := 5) (v := ?_) rfl (by kernel_rfl) (by kernel_rfl) (fun _ _ _ h => h) (by kernel_rfl) ?_ ?_
        rotate_left
        · (intro wS hSw; have hR := HS.out.later (After.trans (After.drew (After.refl _)) hSw); obtain ⟨⟨c0, c1⟩, d0, d1⟩ := HC.out wS hR; go_simp; try with_reducible rfl)
        try simp only [Act.put, List.getElem_toArray, List.getElem_cons_succ, List.getElem_cons_zero, List.setIfInBounds_toArray, List.set_cons_zero, List.set_cons_succ]
        refine Script.load (i := 6) (v := ?_) rfl (by kernel_rfl) (by kernel_rfl) (fun _ _ _ h => h) (by kernel_rfl) ?_ ?_
        rotate_left
        · (intro wS hSw; have hR := HS.out.later (After.trans (After.drew (After.refl _)) hSw); obtain ⟨⟨c0, c1⟩, d0, d1⟩ := HC.out wS hR; go_simp; try with_reducible rfl)
        try simp only [Act.put, List.getElem_toArray, List.getElem_cons_succ, List.getElem_cons_zero, List.setIfInBounds_toArray, List.set_cons_zero, List.set_cons_succ]
        refine Script.load (i := 7) (v := ?_) rfl (by kernel_rfl) (by kernel_rfl) (fun _ _ _ h => h) (by kernel_rfl) ?_ ?_
        rotate_left
        · (intro wS hSw; have hR := HS.out.later (After.trans (After.drew (After.refl _)) hSw); obtain ⟨⟨c0, c1⟩, d0, d1⟩ := HC.out wS hR; go_simp; try with_reducible rfl)
        try simp only [Act.put, List.getElem_toArray, List.getElem_cons_succ, List.getElem_cons_zero, List.setIfInBounds_toArray, List.set_cons_zero, List.set_cons_succ]
        refine Script.load (i := 8) (v := ?_) rfl (by kernel_rfl) (by kernel_rfl) (fun _ _ _ h => h) (by kernel_rfl) ?_ ?_
        rotate_left
        · (intro wS hSw; have hR := HS.out.later (After.trans (After.drew (After.refl _)) hSw); obtain ⟨⟨c0, c1⟩, d0, d1⟩ := HC.out wS hR; go_simp; try with_reducible rfl)
        try simp only [Act.put, List.getElem_toArray, List.getElem_cons_succ, List.getElem_cons_zero, List.setIfInBounds_toArray, List.set_cons_zero, List.set_cons_succ]
        refine Script.call (i := 9) (v := ?_) rfl (by kernel_rfl) (by kernel_rfl) (fun _ _ _ h => h) (by kernel_rfl) ?_ ?_
        rotate_left
        · (intro wS hSw K hK; have hR := HS.out.later (After.trans (After.drew (After.refl _)) hSw); obtain ⟨⟨c0, c1⟩, d0, d1⟩ := HC.out wS hR; go_simp; go_at_call 49; refine (CK.out _ hR).mono ?_; rintro e wc ⟨rfl, hbc⟩; exact hK.out _ hbc)
        try simp only [Act.put, List.getElem_toArray, List.getElem_cons_succ, List.getElem_cons_zero, List.setIfInBounds_toArray, List.set_cons_zero, List.set_cons_succ]
        refine Script.load (i := 10) (v := ?_) rfl (by kernel_rfl) (by kernel_rfl) (fun _ _ _ h => h) (by kernel_rfl) ?_ ?_
        rotate_left
        · (intro wS hSw; have hR := HS.out.later (After.trans (After.drew (After.refl _)) hSw); obtain ⟨⟨c0, c1⟩, d0, d1⟩ := HC.out wS hR; go_simp; try with_reducible rfl)
        try simp only [Act.put, List.getElem_toArray, List.getElem_cons_succ, List.getElem_cons_zero, List.setIfInBounds_toArray, List.set_cons_zero, List.set_cons_succ]
        refine Script.load (i := 11) (v := ?_) rfl (by kernel_rfl) (by kernel_rfl) (fun _ _ _ h => h) (by kernel_rfl) ?_ ?_
        rotate_left
        · (intro wS hSw; have hR := HS.out.later (After.trans (After.drew (After.refl _)) hSw); obtain ⟨⟨c0, c1⟩, d0, d1⟩ := HC.out wS hR; go_simp; try with_reducible rfl)
        try simp only [Act.put, List.getElem_toArray, List.getElem_cons_succ, List.getElem_cons_zero, List.setIfInBounds_toArray, List.set_cons_zero, List.set_cons_succ]
        refine Script.done (by kernel_rfl) ?_
        intro wD hD hG
        have HS2 := Lib.hid (HS.out.later (After.trans (After.drew (After.refl _)) hD))
        clear hD hG HS HC CK
        go_wp2_with fail
        go_roundw
        case rel => exact ⟨h + 1, j, d', by omega, by omega, hjb, by omega, by go_num, rfl, HI2, HS2⟩
        case measure => simp [intOf]; omega
    · have hlt' : ¬ (i : Int) < (j : Int) := by omega
      have hiI := bsr_stop hlt HI.out
      subst hiI
      clear HI
      go_wp2_with fail
      go_loopw [17] (fun u wr => ∃ (k : Nat) (ys : List Sd), i ≤ k ∧ k ≤ m ∧ u = .int .i64 k ∧ Hid (dnL (k - i) k ys = F) ∧ Hid (SRow B g n c p L ys w0 wr)) (fun u _ => (intOf u).toNat)
      case atStart => exact ⟨m, xs, by omega, Nat.le_refl _, rfl, HF, HS⟩
      case round =>
        clear HF HS
        obtain ⟨k, ys, hik, hkm, rfl, HF, HS⟩ := hrel
        by_cases hk : i < k
        · have hk' : (i : Int) < (k : Int) := by omega
          obtain ⟨t, ht⟩ : ∃ t, k - 1 = t := ⟨_, rfl⟩
          have hkt : (k : Int) - 1 = (t : Int) := by omega
          have HF2 : Hid (dnL (t - i) t (swp ys k t) = F) := by
            have := HF.out
            rw [show k - i = (t - i) + 1 by omega, dnL, ht] at this
            exact this
          have s1 : k < n := by omega
          have t1 : t < n := by omega
          have s2 : (k : Int) < (n : Int) := by omega
          have t2 : (t : Int) < (n : Int) := by omega
          have s0 : (0 : Int) ≤ (k : Int) := by omega
          have t0 : (0 : Int) ≤ (t : Int) := by omega
          have tw : IntKind.i64.wrap (t : Int) = (t : Int) := IntWalk.i64_in _ (by omega)
          have n1 : ¬ k * 2 = t * 2 := by omega
          have HSW := Lib.hid (HS.out.swap k t)
          obtain ⟨c0, c1⟩ := HS.out.get s1
          obtain ⟨d0, d1⟩ := HS.out.get t1
          obtain ⟨⟨x, y⟩, hx⟩ : ∃ r, nth ys k = r := ⟨_, rfl⟩
          obtain ⟨⟨u, v⟩, hu⟩ : ∃ r, nth ys t = r := ⟨_, rfl⟩
          rw [hx] at c0 c1 HSW
          rw [hu] at d0 d1 HSW
          simp only at c0 c1 d0 d1 HSW
          have f0 := HS.out.thaw (k * 2)
          have f1 := HS.out.thaw (k * 2 + 1)
          have f2 := HS.out.thaw (t * 2)
          have f3 := HS.out.thaw (t * 2 + 1)
          clear hx hu HF HS
          go_wp2_with fail
          go_big_region
          clear c0 c1 d0 d1 f0 f1 f2 f3
          go_wp2_with fail
          go_roundw
          case rel => exact ⟨t, _, by omega, by omega, rfl, HF2, HSW⟩
          case measure => simp [intOf]; omega
        · have hk' : ¬ (i : Int) < (k : Int) := by omega
          have hp : Hid (SPost B g n c p L F w0 (.returned (.tuple #[])) wr) := ⟨rfl, by have := HF.out; rw [show k - i = 0 by omega] at this; rw [← this]; exact HS.out⟩
          clear HF HS
          go_wp2_with fail
          go_end0
          exact hp.out
end Go.Proofs.Ytoginbmflomjeaa
