/- The library's stable sort over soldiers, last part: stableCmpFunc, SortStableFunc. -/
import Derived.Test.YtoginbmflomjeaaSortM
namespace Go.Proofs.Ytoginbmflomjeaa
open Go.RowKit
set_option linter.unusedVariables false
set_option linter.unusedSimpArgs false
theorem blk_stop {lt : Sd → Sd → Bool} {n d a b : Nat} {xs : List Sd} (h : ¬ b ≤ n) : blkL lt n d a b xs = (a, xs) := by
  cases d with
  | zero => rfl
  | succ d => rw [blkL, if_neg h]
theorem mrg_stop {lt : Sd → Sd → Bool} {n d B a b : Nat} {xs : List Sd} (h : ¬ b ≤ n) : mrgL lt n d B a b xs = (a, xs) := by
  cases d with
  | zero => rfl
  | succ d => rw [mrgL, if_neg h]
theorem mrgs_stop {lt : Sd → Sd → Bool} {n d B : Nat} {xs : List Sd} (h : ¬ B < n) : mrgsL lt n d B xs = xs := by
  cases d with
  | zero => rfl
  | succ d => rw [mrgsL, if_neg h]
set_option maxHeartbeats 8000000 in
set_option maxRecDepth 100000 in
theorem implStable {B g n c p : Nat} {L : Int} {w0 : World} (hn : n ≤ 1048576) (xs : List Sd) (w : World) (h : SRow B g n c p L xs w0 w) :
    Calls Try.prog 55 #[.slice (some ⟨g, 0, none⟩) n c, .int .i64 (n : Int), CmpV p] w (SPost B g n c p L (stabL (ltS L) n xs) w0) := by
  have HS := Lib.hid h
  have CSym := Lib.hid (fun a m b xs w hf ham hmb hb h => implSym (B := B) (g := g) (n := n) (c := c) (p := p) (L := L) (w0 := w0) hn n a m b xs w hf ham hmb hb h)
  have CIns := Lib.hid (fun a b xs w ha hb h => implIns (B := B) (g := g) (n := n) (c := c) (p := p) (L := L) (w0 := w0) hn a b xs w ha hb h)
  unfold CmpV at CSym CIns
  obtain ⟨F, hF⟩ : ∃ F, stabL (ltS L) n xs = F := ⟨_, rfl⟩
  rw [hF]
  have HF : Hid (mrgsL (ltS L) n n 20 (insL (ltS L) (blkL (ltS L) n n 0 20 xs).1 n (blkL (ltS L) n n 0 20 xs).2) = F) := hF
  clear h hF
  unfold CmpV
  go_enter Try.func55, Try.ntmps55
  go_wp2_with fail
  go_loopw [7, 8] (fun u v wr => ∃ (A b d : Nat) (ys : List Sd), Hid (b = A + 20) ∧ A ≤ n ∧ n ≤ d + A ∧ u = .int .i64 A ∧ v = .int .i64 b ∧ Hid (mrgsL (ltS L) n n 20 (insL (ltS L) (blkL (ltS L) n d A b ys).1 n (blkL (ltS L) n d A b ys).2) = F) ∧ Hid (SRow B g n c p L ys w0 wr)) (fun u v _ => n + 20 - (intOf v).toNat)
  case atStart => exact ⟨0, 20, n, xs, rfl, Nat.zero_le _, Nat.le_refl _, rfl, rfl, HF, HS⟩
  case round =>
    clear HF HS
    obtain ⟨A, b, d, ys, hbA, hAn, hd, rfl, rfl, HF, HS⟩ := hrel
    have hbA0 := hbA.out
    have hbn : b ≤ n + 20 := by omega
    by_cases hle : b ≤ n
    · have hle' : (b : Int) ≤ (n : Int) := by omega
      obtain ⟨d, rfl⟩ : ∃ d', d = d' + 1 := ⟨d - 1, by omega⟩
      obtain ⟨b2, hb2⟩ : ∃ b2, b + 20 = b2 := ⟨_, rfl⟩
      have hb2i : (b : Int) + 20 = (b2 : Int) := by omega
      have HB2 : Hid (b2 = b + 20) := hb2.symm
      have HF2 : Hid (mrgsL (ltS L) n n 20 (insL (ltS L) (blkL (ltS L) n d b b2 (insL (ltS L) A b ys)).1 n (blkL (ltS L) n d b b2 (insL (ltS L) A b ys)).2) = F) := by
        have := HF.out
        rw [blkL, if_pos hle, hb2] at this
        exact this
      have CX := Lib.hid (CIns.out A b ys _ hAn hle HS.out)
      clear HF hbA0 hb2
      go_wp2_with fail
      refine CX.out.mono ?_
      rintro e' w5 ⟨rfl, h5⟩
      have HP := Lib.hid h5
      clear h5 HS CX
      go_wp2_with fail
      go_roundw
      case rel => exact ⟨b, b2, d, _, HB2, hle, by have := hbA.out; omega, rfl, rfl, HF2, HP⟩
      case measure => have := HB2.out; simp [intOf]; omega
    · have hle' : ¬ (b : Int) ≤ (n : Int) := by omega
      clear hbA0
      have HF2 : Hid (mrgsL (ltS L) n n 20 (insL (ltS L) A n ys) = F) := by
        have := HF.out
        rw [blk_stop hle] at this
        exact this
      have CX := Lib.hid (CIns.out A n ys _ hAn (Nat.le_refl _) HS.out)
      obtain ⟨zs, hzs⟩ : ∃ zs, insL (ltS L) A n ys = zs := ⟨_, rfl⟩
      rw [hzs] at HF2 CX
      clear HF hzs
      go_wp2_with fail
      refine CX.out.mono ?_
      rintro e' w5 ⟨rfl, h5⟩
      have HP := Lib.hid h5
      clear h5 HS CX
      go_wp2_with fail
      go_loopw [6] (fun u wr => ∃ (Bs d : Nat) (ys : List Sd), 1 ≤ Bs ∧ Bs ≤ 2 * n + 20 ∧ n ≤ d + Bs ∧ u = .int .i64 Bs ∧ Hid (mrgsL (ltS L) n d Bs ys = F) ∧ Hid (SRow B g n c p L ys w0 wr)) (fun u _ => 4194304 - (intOf u).toNat)
      case atStart => exact ⟨20, n, zs, by omega, by omega, by omega, rfl, HF2, HP⟩
      case round =>
        clear HF2 HP
        obtain ⟨Bs, d, ys, hB1, hB2, hd, rfl, HF, HS⟩ := hrel
        by_cases hlt : Bs < n
        · have hlt' : (Bs : Int) < (n : Int) := by omega
          obtain ⟨d, rfl⟩ : ∃ d', d = d' + 1 := ⟨d - 1, by omega⟩
          obtain ⟨D, hD⟩ : ∃ D, 2 * Bs = D := ⟨_, rfl⟩
          have HD : Hid (2 * Bs = D) := hD
          have hDi : 2 * (Bs : Int) = (D : Int) := by omega
          have hDj : (Bs : Int) * 2 = (D : Int) := by omega
          have HF2 : Hid (mrgsL (ltS L) n d D (lastL (ltS L) n Bs (mrgL (ltS L) n n Bs 0 (0 + D) ys)) = F) := by
            have := HF.out
            rw [mrgsL, if_pos hlt, hD] at this
            rw [Nat.zero_add]
            exact this
          have hBD : Bs < D := by omega
          have hDn : D < 2 * n := by omega
          have hdD : n ≤ d + D := by omega
          clear HF hD
          go_wp2_with fail
          go_loopw [7, 8] (fun u v wr => ∃ (A b e : Nat) (zs : List Sd), Hid (b = A + D) ∧ A ≤ n ∧ n ≤ e + A ∧ u = .int .i64 A ∧ v = .int .i64 b ∧ Hid (mrgsL (ltS L) n d D (lastL (ltS L) n Bs (mrgL (ltS L) n e Bs A b zs)) = F) ∧ Hid (SRow B g n c p L zs w0 wr)) (fun u v _ => n + D - (intOf v).toNat)
          case atStart => exact ⟨0, 0 + D, n, ys, rfl, Nat.zero_le _, Nat.le_refl _, rfl, by rw [Nat.zero_add], HF2, HS⟩
          case round =>
            clear HF2 HS
            obtain ⟨A, b, e, zs, hbA, hAn, he, rfl, rfl, HF, HS⟩ := hrel
            obtain ⟨m, hm⟩ : ∃ m, A + Bs = m := ⟨_, rfl⟩
            have hmi : (A : Int) + (Bs : Int) = (m : Int) := by omega
            have hbA0 := hbA.out
            have hm0 : A < m := by omega
            have hD := HD.out
            have hbn : b ≤ n + 2 * D := by omega
            have hmb : m < b := by omega
            have hAb : A + 2 ≤ b := by omega
            clear hD
            by_cases hle : b ≤ n
            · have hle' : (b : Int) ≤ (n : Int) := by omega
              obtain ⟨e, rfl⟩ : ∃ e', e = e' + 1 := ⟨e - 1, by omega⟩
              obtain ⟨b2, hb2⟩ : ∃ b2, b + D = b2 := ⟨_, rfl⟩
              have HB2 : Hid (b2 = b + D) := hb2.symm
              have hb2i : (b : Int) + (D : Int) = (b2 : Int) := by omega
              have HF2 : Hid (mrgsL (ltS L) n d D (lastL (ltS L) n Bs (mrgL (ltS L) n e Bs b b2 (symL (ltS L) n A m b zs))) = F) := by
                have := HF.out
                rw [mrgL, if_pos hle, hm, HD.out, hb2] at this
                exact this
              have CX := Lib.hid (CSym.out A m b zs _ (by omega) (by omega) (by omega) hle HS.out)
              clear HF hbA0 hm hb2
              go_wp2_with fail
              refine CX.out.mono ?_
              rintro e' w5 ⟨rfl, h5⟩
              have HP := Lib.hid h5
              clear h5 HS CX
              go_wp2_with fail
              go_roundw
              case rel => exact ⟨b, b2, e, _, HB2, hle, by omega, rfl, rfl, HF2, HP⟩
              case measure => have := HB2.out; simp [intOf]; omega
            · have hle' : ¬ (b : Int) ≤ (n : Int) := by omega
              have HF2 : Hid (mrgsL (ltS L) n d D (if m < n then symL (ltS L) n A m n zs else zs) = F) := by
                have := HF.out
                rw [mrg_stop hle, lastL] at this
                simp only [hm] at this
                exact this
              by_cases hmn : m < n
              · have hmn' : (m : Int) < (n : Int) := by omega
                have HF3 : Hid (mrgsL (ltS L) n d D (symL (ltS L) n A m n zs) = F) := by have := HF2.out; rw [if_pos hmn] at this; exact this
                have CX := Lib.hid (CSym.out A m n zs _ (by omega) (by omega) hmn (Nat.le_refl _) HS.out)
                clear HF HF2 hbA0 hm
                go_wp2_with fail
                refine CX.out.mono ?_
                rintro e' w5 ⟨rfl, h5⟩
                have HP := Lib.hid h5
                clear h5 HS CX
                go_wp2_with fail
                go_roundw
                case rel => exact ⟨D, d, _, by omega, by omega, hdD, rfl, HF3, HP⟩
                case measure => simp [intOf]; omega
              · have hmn' : ¬ (m : Int) < (n : Int) := by omega
                have HF3 : Hid (mrgsL (ltS L) n d D zs = F) := by have := HF2.out; rw [if_neg hmn] at this; exact this
                clear HF HF2 hbA0 hm
                go_wp2_with fail
                go_roundw
                case rel => exact ⟨D, d, _, by omega, by omega, hdD, rfl, HF3, HS⟩
                case measure => simp [intOf]; omega
        · have hlt' : ¬ (Bs : Int) < (n : Int) := by omega
          have hp : Hid (SPost B g n c p L F w0 (.returned (.tuple #[])) wr) := ⟨rfl, by have := HF.out; rw [mrgs_stop hlt] at this; rw [← this]; exact HS.out⟩
          clear HF HS
          go_wp2_with fail
          go_end0
          exact hp.out
set_option maxRecDepth 100000 in
theorem implSort {B g n c p : Nat} {L : Int} {w0 : World} (hn : n ≤ 1048576) (xs : List Sd) (w : World) (h : SRow B g n c p L xs w0 w) :
    Calls Try.prog 48 #[.slice (some ⟨g, 0, none⟩) n c, CmpV p] w (SPost B g n c p L (stabL (ltS L) n xs) w0) := by
  have CX := Lib.hid (implStable hn xs w h)
  unfold CmpV at CX
  clear h
  unfold CmpV
  go_enter Try.func48, Try.ntmps48
  go_wp2_with fail
  refine CX.out.mono ?_
  rintro e' w5 ⟨rfl, h5⟩
  have HP := Lib.hid h5
  clear h5
  go_wp2_with fail
  go_end0
  exact ⟨rfl, HP.out⟩
end Go.Proofs.Ytoginbmflomjeaa
