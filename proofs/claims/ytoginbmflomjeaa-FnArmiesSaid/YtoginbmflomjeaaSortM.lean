/- The library's stable sort over soldiers, fifth part: merges in place, the general way where the middle lies in the second part; every merge. -/
import Derived.Test.YtoginbmflomjeaaSortK
import Derived.Test.YtoginbmflomjeaaSortL
import Derived.Deep.DeepCutAuto
namespace Go.Proofs.Ytoginbmflomjeaa
open Go.RowKit
set_option linter.unusedVariables false
set_option linter.unusedSimpArgs false
set_option maxHeartbeats 8000000 in
set_option maxRecDepth 100000 in
theorem implSymC2 {B g n c p : Nat} {L : Int} {w0 : World} (hn : n ≤ 1048576) (f a m b : Nat) (xs : List Sd) (w : World) (ham : a < m) (hmb : m < b) (hb : b ≤ n) (h1 : ¬ m - a = 1) (h2 : ¬ b - m = 1) (hm : ¬ (a + b) / 2 < m) (hf : b - a ≤ f + 1)
    (IH : ∀ (a m b : Nat) (xs : List Sd) (w : World), b - a ≤ f → a < m → m < b → b ≤ n → SRow B g n c p L xs w0 w → Calls Try.prog 57 #[.slice (some ⟨g, 0, none⟩) n c, .int .i64 (a : Int), .int .i64 (m : Int), .int .i64 (b : Int), CmpV p] w (SPost B g n c p L (symL (ltS L) f a m b xs) w0))
    (h : SRow B g n c p L xs w0 w) :
    Calls Try.prog 57 #[.slice (some ⟨g, 0, none⟩) n c, .int .i64 (a : Int), .int .i64 (m : Int), .int .i64 (b : Int), CmpV p] w (SPost B g n c p L (symL (ltS L) (f + 1) a m b xs) w0) := by
  have HS := Lib.hid h
  have CSym := Lib.hid IH
  have CRot := Lib.hid (fun a m b xs w ham hmb hb h => implRot (B := B) (g := g) (n := n) (c := c) (p := p) (L := L) (w0 := w0) hn (CmpV p) a m b xs w ham hmb hb h)
  have HPair := Lib.hid (fun ys i j hi hj => SRow.pair (B := B) (g := g) (n := n) (c := c) (p := p) (L := L) (xs := ys) (w0 := w0) (i := i) (j := j) hi hj)
  unfold CmpV at CSym CRot
  obtain ⟨F, hF⟩ : ∃ F, symL (ltS L) (f + 1) a m b xs = F := ⟨_, rfl⟩
  rw [hF]
  rw [symL, if_neg h1, if_neg h2] at hF
  obtain ⟨ab, hab⟩ : ∃ ab, a + b = ab := ⟨_, rfl⟩
  obtain ⟨M, hM⟩ : ∃ M, ab / 2 = M := ⟨_, rfl⟩
  obtain ⟨s, hs⟩ : ∃ s, symS (ltS L) xs a m b = s := ⟨_, rfl⟩
  obtain ⟨N, hN⟩ : ∃ N, M + m = N := ⟨_, rfl⟩
  obtain ⟨P, hP⟩ : ∃ P, N - 1 = P := ⟨_, rfl⟩
  obtain ⟨e, he⟩ : ∃ e, N - s = e := ⟨_, rfl⟩
  rw [hs] at hF
  rw [hab, hM] at hm
  simp only [hab, hM, hN, he] at hF
  obtain ⟨ys, hys⟩ : ∃ ys, rotS xs s m e = ys := ⟨_, rfl⟩
  rw [hys] at hF
  obtain ⟨zs, hzs⟩ : ∃ zs, (if a < s ∧ s < M then symL (ltS L) f a s M ys else ys) = zs := ⟨_, rfl⟩
  rw [hzs] at hF
  unfold symS at hs
  simp only [hab, hM, hN, hP] at hs
  obtain ⟨S0, hS0⟩ : ∃ S0, (if M < m then N - b else a) = S0 := ⟨_, rfl⟩
  obtain ⟨R0, hR0⟩ : ∃ R0, (if M < m then M else m) = R0 := ⟨_, rfl⟩
  rw [hS0, hR0] at hs
  have hq : S0 ≤ R0 ∧ R0 ≤ M ∧ R0 ≤ m ∧ a ≤ S0 ∧ N ≤ b + S0 ∧ R0 - S0 ≤ b - a := by
    rw [← hS0, ← hR0]
    split <;> omega
  obtain ⟨q1, q2, q3, q4, q5, q6⟩ := hq
  have hin := bsr_in (fun c => !ltS L (nth xs (P - c)) (nth xs c)) (b - a) S0 R0 q1
  rw [hs] at hin
  obtain ⟨sl, sr⟩ := hin
  have HF := Lib.hid hF
  have HY := Lib.hid hys
  have HZ := Lib.hid hzs
  have HI := Lib.hid hs
  obtain ⟨ma, hma⟩ : ∃ ma, m - a = ma := ⟨_, rfl⟩
  obtain ⟨bm, hbm⟩ : ∃ bm, b - m = bm := ⟨_, rfl⟩
  have e0 : (m : Int) - (a : Int) = (ma : Int) := by omega
  have e1 : ((ma : Int) == 1) = false := by simp; omega
  have e2 : (b : Int) - (m : Int) = (bm : Int) := by omega
  have e3 : ((bm : Int) == 1) = false := by simp; omega
  have e4 : (a : Int) + (b : Int) = (ab : Int) := by omega
  have e5 : (ab : Int) / 2 = (M : Int) := by omega
  have e6 : (M : Int) + (m : Int) = (N : Int) := by omega
  have e7 : (N : Int) - 1 = (P : Int) := by omega
  have hMb : M < b := by omega
  clear h IH hF hys hzs hs
  unfold CmpV
  rw [if_neg hm] at hS0 hR0
  have i1 : ¬ (M : Int) < (m : Int) := by omega
  subst hS0
  subst hR0
  go_enter Try.func57, Try.ntmps57
  go_wp2_with fail
  go_loopw [20, 21] (fun u v wr => ∃ (i j d : Nat), a ≤ i ∧ N ≤ b + i ∧ i ≤ j ∧ j ≤ M ∧ j ≤ m ∧ j - i ≤ d ∧ u = .int .i64 i ∧ v = .int .i64 j ∧ Hid (bsr (fun c => !ltS L (nth xs (P - c)) (nth xs c)) d i j = s) ∧ Hid (SRow B g n c p L xs w0 wr)) (fun u v _ => (intOf v).toNat - (intOf u).toNat)
  case atStart => exact ⟨_, _, b - a, by omega, by omega, by omega, by omega, by omega, by omega, rfl, rfl, HI, HS⟩
  case round =>
    clear HI HS
    obtain ⟨i, j, d, hai, hNi, hij, hjM, hjm, hd, rfl, rfl, HI, HS⟩ := hrel
    by_cases hlt : i < j
    · have hlt' : (i : Int) < (j : Int) := by omega
      obtain ⟨d', rfl, ht, hf⟩ := bsr_step hlt hd HI.out
      have HT := Lib.hid ht
      have HFa := Lib.hid hf
      obtain ⟨ij, hs⟩ : ∃ s, i + j = s := ⟨_, rfl⟩
      have hsi : (i : Int) + (j : Int) = (ij : Int) := by omega
      rw [hs] at HT HFa
      obtain ⟨h, hh⟩ : ∃ h, ij / 2 = h := ⟨_, rfl⟩
      have hhi : (ij : Int) / 2 = (h : Int) := by omega
      rw [hh] at HT HFa
      obtain ⟨q, hq⟩ : ∃ q, P - h = q := ⟨_, rfl⟩
      have hqi : (P : Int) - (h : Int) = (q : Int) := by omega
      have hhn : h < n := by omega
      have hqn : q < n := by omega
      have hih : i ≤ h := by omega
      have hhj : h < j := by omega
      have h0 : (0 : Int) ≤ (h : Int) := by omega
      have h2' : (h : Int) < (n : Int) := by omega
      have q0 : (0 : Int) ≤ (q : Int) := by omega
      have q2' : (q : Int) < (n : Int) := by omega
      have hqw : IntKind.i64.wrap (q : Int) = (q : Int) := IntWalk.i64_in _ (by omega)
      obtain ⟨x, y, u, v, r, -, -, er, hc, hcall⟩ := HPair.out xs q h hqn hhn
      have HC := Lib.hid hc
      have CK := Lib.hid hcall
      have ER := Lib.hid er
      clear ht hf hc hcall er hs hh HI
      as_aux_lemma =>
        obtain ⟨t, ht⟩ : ∃ t, decide (r < 0) = t := ⟨_, rfl⟩
        have HI1 : Hid (t = true → bsr (fun c => !ltS L (nth xs (P - c)) (nth xs c)) d' i h = s) := fun e => HFa.out (by show (!ltS L (nth xs (P - h)) (nth xs h)) = false; rw [hq, ER.out, ht, e]; rfl)
        have HI2 : Hid (t = false → bsr (fun c => !ltS L (nth xs (P - c)) (nth xs c)) d' (h + 1) j = s) := fun e => HT.out (by show (!ltS L (nth xs (P - h)) (nth xs h)) = true; rw [hq, ER.out, ht, e]; rfl)
        clear HT HFa ER hq
        go_wp2_with fail
        refine wp_region_script (by kernel_rfl) (by kernel_rfl) ?_
        refine Script.load (i := 0) (v := ?_) rfl (by kernel_rfl) (by kernel_rfl) (fun _ _ _ h => h) (by kernel_rfl) ?_ ?_
        rotate_left
        · (intro wS hSw; have hR := HS.out.later (After.trans (After.drew (After.refl _)) hSw); obtain ⟨⟨c0, c1⟩, d0, d1⟩ := HC.out wS hR; go_simp; try with_reducible rfl)
        try simp only [Act.put, List.getElem_toArray, List.getElem_cons_succ, List.getElem_cons_zero, List.setIfInBounds_toArray, List.set_cons_zero, List.set_cons_succ]
        refine Script.load (i := 1) (v := ?_) rfl (by kernel_rfl) (by kernel_rfl) (fun _ _ _ h => h) (by kernel_rfl) ?_ ?_
        rotate_left
        · (intro wS hSw; have hR := HS.out.later (After.trans (After.drew (After.refl _)) hSw); obtain ⟨⟨c0, c1⟩, d0, d1⟩ := HC.out wS hR; go_simp; try with_reducible rfl)
        try simp only [Act.put, List.getElem_toArray, List.getElem_cons_succ, List.getElem_cons_zero, List.setIfInBounds_toArray, List.set_cons_zero, List.set_cons_succ]
        refine Script.load (i := 2) (v := ?_) rfl (by kernel_rfl) (by kernel_rfl) (fun _ _ _ h => h) (by kernel_rfl) ?_ ?_
        rotate_left
        · (intro wS hSw; have hR := HS.out.later (After.trans (After.drew (After.refl _)) hSw); obtain ⟨⟨c0, c1⟩, d0, d1⟩ := HC.out wS hR; go_simp; try with_reducible rfl)
        try simp only [Act.put, List.getElem_toArray, List.getElem_cons_succ, List.getElem_cons_zero, List.setIfInBounds_toArray, List.set_cons_zero, List.set_cons_succ]
        refine Script.load (i := 3) (v := ?_) rfl (by kernel_rfl) (by kernel_rfl) (fun _ _ _ h => h) (by kernel_rfl) ?_ ?_
        rotate_left
        · (intro wS hSw; have hR := HS.out.later (After.trans (After.drew (After.refl _)) hSw); obtain ⟨⟨c0, c1⟩, d0, d1⟩ := HC.out wS hR; go_simp; try with_reducible rfl)
        try simp only [Act.put, List.getElem_toArray, List.getElem_cons_succ, List.getElem_cons_zero, List.setIfInBounds_toArray, List.set_cons_zero, List.set_cons_succ]
        refine Script.load (i := 4) (v := ?_) rfl (by kernel_rfl) (by kernel_rfl) (fun _ _ _ h => h) (by kernel_rfl) ?_ ?_
        rotate_left
        · (intro wS hSw; have hR := HS.out.later (After.trans (After.drew (After.refl _)) hSw); obtain ⟨⟨c0, c1⟩, d0, d1⟩ := HC.out wS hR; go_simp; try with_reducible rfl)
        try simp only [Act.put, List.getElem_toArray, List.getElem_cons_succ, List.getElem_cons_zero, List.setIfInBounds_toArray, List.set_cons_zero, List.set_cons_succ]
        refine Script.load (i := 5) (v := ?_) rfl (by kernel_rfl) (by kernel_rfl) (fun _ _ _ h => h) (by kernel_rfl) ?_ ?_
        rotate_left
        · (intro wS hSw; have hR := HS.out.later (After.trans (After.drew (After.refl _)) hSw); obtain ⟨⟨c0, c1⟩, d0, d1⟩ := HC.out wS hR; go_simp; try with_reducible rfl)
        try simp only [Act.put, List.getElem_toArray, List.getElem_cons_succ, List.getElem_cons_zero, List.setIfInBounds_toArray, List.set_cons_zero, List.set_cons_succ]
        refine Script.load (i := 6) (v := ?_) rfl (by kernel_rfl) (by kernel_rfl) (fun _ _ _ h => h) (by kernel_rfl) ?_ ?_
        rotate_left
        · (intro wS hSw; have hR := HS.out.later (After.trans (After.drew (After.refl _)) hSw); obtain ⟨⟨c0, c1⟩, d0, d1⟩ := HC.out wS hR; go_simp; try with_reducible rfl)
        try simp only [Act.put, List.getElem_toArray, List.getElem_cons_succ, List.getElem_cons_zero, List.setIfInBounds_toArray, List.set_cons_zero, List.set_cons_succ]
        refine Script.load (i := 7) (v := ?_) rfl (by kernel_rfl) (by kernel_rfl) (fun _ _ _ h => h) (by kernel_rfl) ?_ ?_
        rotate_left
        · (intro wS hSw; have hR := HS.out.later (After.trans (After.drew (After.refl _)) hSw); obtain ⟨⟨c0, c1⟩, d0, d1⟩ := HC.out wS hR; go_simp; try with_reducible rfl)
        try simp only [Act.put, List.getElem_toArray, List.getElem_cons_succ, List.getElem_cons_zero, List.setIfInBounds_toArray, List.set_cons_zero, List.set_cons_succ]
        refine Script.load (i := 8) (v := ?_) rfl (by kernel_rfl) (by kernel_rfl) (fun _ _ _ h => h) (by kernel_rfl) ?_ ?_
        rotate_left
        · (intro wS hSw; have hR := HS.out.later (After.trans (After.drew (After.refl _)) hSw); obtain ⟨⟨c0, c1⟩, d0, d1⟩ := HC.out wS hR; go_simp; try with_reducible rfl)
        try simp only [Act.put, List.getElem_toArray, List.getElem_cons_succ, List.getElem_cons_zero, List.setIfInBounds_toArray, List.set_cons_zero, List.set_cons_succ]
        refine Script.load (i := 9) (v := ?_) rfl (by kernel_rfl) (by kernel_rfl) (fun _ _ _ h => h) (by kernel_rfl) ?_ ?_
        rotate_left
        · (intro wS hSw; have hR := HS.out.later (After.trans (After.drew (After.refl _)) hSw); obtain ⟨⟨c0, c1⟩, d0, d1⟩ := HC.out wS hR; go_simp; try with_reducible rfl)
        try simp only [Act.put, List.getElem_toArray, List.getElem_cons_succ, List.getElem_cons_zero, List.setIfInBounds_toArray, List.set_cons_zero, List.set_cons_succ]
        refine Script.load (i := 10) (v := ?_) rfl (by kernel_rfl) (by kernel_rfl) (fun _ _ _ h => h) (by kernel_rfl) ?_ ?_
        rotate_left
        · (intro wS hSw; have hR := HS.out.later (After.trans (After.drew (After.refl _)) hSw); obtain ⟨⟨c0, c1⟩, d0, d1⟩ := HC.out wS hR; go_simp; try with_reducible rfl)
        try simp only [Act.put, List.getElem_toArray, List.getElem_cons_succ, List.getElem_cons_zero, List.setIfInBounds_toArray, List.set_cons_zero, List.set_cons_succ]
        refine Script.call (i := 11) (v := ?_) rfl (by kernel_rfl) (by kernel_rfl) (fun _ _ _ h => h) (by kernel_rfl) ?_ ?_
        rotate_left
        · (intro wS hSw K hK; have hR := HS.out.later (After.trans (After.drew (After.refl _)) hSw); obtain ⟨⟨c0, c1⟩, d0, d1⟩ := HC.out wS hR; go_simp; go_at_call 49; refine (CK.out _ hR).mono ?_; rintro e wc ⟨rfl, hbc⟩; exact hK.out _ hbc)
        try simp only [Act.put, List.getElem_toArray, List.getElem_cons_succ, List.getElem_cons_zero, List.setIfInBounds_toArray, List.set_cons_zero, List.set_cons_succ]
        refine Script.load (i := 12) (v := ?_) rfl (by kernel_rfl) (by kernel_rfl) (fun _ _ _ h => h) (by kernel_rfl) ?_ ?_
        rotate_left
        · (intro wS hSw; have hR := HS.out.later (After.trans (After.drew (After.refl _)) hSw); obtain ⟨⟨c0, c1⟩, d0, d1⟩ := HC.out wS hR; go_simp; try with_reducible rfl)
        try simp only [Act.put, List.getElem_toArray, List.getElem_cons_succ, List.getElem_cons_zero, List.setIfInBounds_toArray, List.set_cons_zero, List.set_cons_succ]
        refine Script.load (i := 13) (v := ?_) rfl (by kernel_rfl) (by kernel_rfl) (fun _ _ _ h => h) (by kernel_rfl) ?_ ?_
        rotate_left
        · (intro wS hSw; have hR := HS.out.later (After.trans (After.drew (After.refl _)) hSw); obtain ⟨⟨c0, c1⟩, d0, d1⟩ := HC.out wS hR; go_simp; try with_reducible rfl)
        try simp only [Act.put, List.getElem_toArray, List.getElem_cons_succ, List.getElem_cons_zero, List.setIfInBounds_toArray, List.set_cons_zero, List.set_cons_succ]
        refine Script.done (by kernel_rfl) ?_
        intro wD hD hG
        have HS2 := Lib.hid (HS.out.later (After.trans (After.drew (After.refl _)) hD))
        clear hD hG HS HC CK ht
        cases t
        · have HI2 := Lib.hid (HI2.out rfl)
          clear HI1
          go_wp2_with fail
          go_roundw
          case rel => exact ⟨h + 1, j, d', by omega, by omega, by omega, hjM, hjm, by omega, by go_num, rfl, HI2, HS2⟩
          case measure => simp [intOf]; omega
        · have HI2 := Lib.hid (HI1.out rfl)
          clear HI1
          go_wp2_with fail
          go_roundw
          case rel => exact ⟨i, h, d', hai, hNi, hih, by omega, by omega, by omega, rfl, rfl, HI2, HS2⟩
          case measure => simp [intOf]; omega
    · have hlt' : ¬ (i : Int) < (j : Int) := by omega
      have hiI := bsr_stop hlt HI.out
      subst hiI
      have e8 : (N : Int) - (i : Int) = (e : Int) := by omega
      have heb : e ≤ b := by omega
      have hMe : M ≤ e := by omega
      clear HI HPair
      go_upto_region 39 with fail
      go_cut [185] (fun cc wx => cc = .bool (decide (i < m ∧ m < e)) ∧ Hid (SRow B g n c p L xs w0 wx))
      case first =>
        by_cases p1 : (i : Int) < (m : Int) <;> by_cases p2 : (m : Int) < (e : Int)
        all_goals try (exfalso; omega)
        all_goals
          go_wp2_with fail
          go_meet
          exact ⟨by congr 1; symm; simp; omega, HS⟩
      case rest =>
        clear HS
        obtain ⟨rfl, HS⟩ := hcut
        go_upto_if 185 with fail
        go_cut [] (fun wx => Hid (SRow B g n c p L ys w0 wx))
        case first =>
          by_cases hr : i < m ∧ m < e
          · have CX := Lib.hid (CRot.out i m e xs wc hr.1 hr.2 (by omega) HS.out)
            have HY2 : Hid (rotL (e - i) m (m - i) (e - m) xs = ys) := by have := HY.out; rw [rotS, if_pos hr] at this; exact this
            rw [HY2.out] at CX
            rw [decide_eq_true hr]
            go_wp2_with fail
            refine CX.out.mono ?_
            rintro e' w5 ⟨rfl, h5⟩
            have HP := Lib.hid h5
            clear h5
            go_wp2_with fail
            go_meet
            exact HP
          · have HY2 : Hid (xs = ys) := by have := HY.out; rw [rotS, if_neg hr] at this; exact this
            rw [decide_eq_false hr]
            rw [HY2.out] at HS
            go_wp2_with fail
            go_meet
            exact HS
        case rest =>
          clear HS
          have HS : Hid (SRow B g n c p L ys w0 wc) := hcut
          clear hcut
          go_upto_region 41 with fail
          go_cut [199] (fun cc wx => cc = .bool (decide (a < i ∧ i < M)) ∧ Hid (SRow B g n c p L ys w0 wx))
          case first =>
            by_cases p1 : (a : Int) < (i : Int) <;> by_cases p2 : (i : Int) < (M : Int)
            all_goals try (exfalso; omega)
            all_goals
              go_wp2_with fail
              go_meet
              exact ⟨by congr 1; symm; simp; omega, HS⟩
          case rest =>
            clear HS
            obtain ⟨rfl, HS⟩ := hcut
            go_upto_if 199 with fail
            go_cut [] (fun wx => Hid (SRow B g n c p L zs w0 wx))
            case first =>
              by_cases hr : a < i ∧ i < M
              · have CX := Lib.hid (CSym.out a i M ys _ (by omega) hr.1 hr.2 (by omega) HS.out)
                have HZ2 : Hid (symL (ltS L) f a i M ys = zs) := by have := HZ.out; rw [if_pos hr] at this; exact this
                rw [HZ2.out] at CX
                rw [decide_eq_true hr]
                go_wp2_with fail
                refine CX.out.mono ?_
                rintro e' w5 ⟨rfl, h5⟩
                have HP := Lib.hid h5
                clear h5
                go_wp2_with fail
                go_meet
                exact HP
              · have HZ2 : Hid (ys = zs) := by have := HZ.out; rw [if_neg hr] at this; exact this
                rw [decide_eq_false hr]
                rw [HZ2.out] at HS
                go_wp2_with fail
                go_meet
                exact HS
            case rest =>
              clear HS
              have HS : Hid (SRow B g n c p L zs w0 wc) := hcut
              clear hcut
              by_cases p1 : (M : Int) < (e : Int)
              · by_cases p2 : (e : Int) < (b : Int)
                · have CX := Lib.hid (CSym.out M e b zs _ (by omega) (by omega) (by omega) hb HS.out)
                  have HF2 : Hid (symL (ltS L) f M e b zs = F) := by have := HF.out; rw [if_pos (by omega)] at this; exact this
                  rw [HF2.out] at CX
                  go_wp2_with fail
                  refine CX.out.mono ?_
                  rintro e' w5 ⟨rfl, h5⟩
                  have HP := Lib.hid h5
                  clear h5
                  go_wp2_with fail
                  go_end0
                  exact ⟨rfl, HP.out⟩
                · have HF2 : Hid (zs = F) := by have := HF.out; rw [if_neg (by omega)] at this; exact this
                  rw [HF2.out] at HS
                  go_wp2_with fail
                  go_end0
                  exact ⟨rfl, HS.out⟩
              · have HF2 : Hid (zs = F) := by have := HF.out; rw [if_neg (by omega)] at this; exact this
                rw [HF2.out] at HS
                go_wp2_with fail
                go_end0
                exact ⟨rfl, HS.out⟩
theorem implSym {B g n c p : Nat} {L : Int} {w0 : World} (hn : n ≤ 1048576) : ∀ (f a m b : Nat) (xs : List Sd) (w : World), b - a ≤ f → a < m → m < b → b ≤ n → SRow B g n c p L xs w0 w →
    Calls Try.prog 57 #[.slice (some ⟨g, 0, none⟩) n c, .int .i64 (a : Int), .int .i64 (m : Int), .int .i64 (b : Int), CmpV p] w (SPost B g n c p L (symL (ltS L) f a m b xs) w0) := by
  intro f
  induction f with
  | zero => intro a m b xs w hf ham hmb hb h; omega
  | succ f ih =>
    intro a m b xs w hf ham hmb hb h
    by_cases h1 : m - a = 1
    · exact implSymA hn f a m b xs w ham hmb hb h1 h
    by_cases h2 : b - m = 1
    · exact implSymB hn f a m b xs w ham hmb hb h1 h2 h
    by_cases hm : (a + b) / 2 < m
    · exact implSymC1 hn f a m b xs w ham hmb hb h1 h2 hm hf ih h
    · exact implSymC2 hn f a m b xs w ham hmb hb h1 h2 hm hf ih h
end Go.Proofs.Ytoginbmflomjeaa
