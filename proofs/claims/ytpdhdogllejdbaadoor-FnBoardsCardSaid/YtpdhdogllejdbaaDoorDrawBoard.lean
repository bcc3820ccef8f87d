/- The drawn boards: l02Small and DrawBoard of the model give a valid board of at most sixteen places; 'at' gives a byte. Of codes of at most 1048576 bytes. -/
import Derived.Test.YtpdhdogllejdbaaDoorCross
import Derived.Test.YtpdhdogllejdbaaDoorDraw
import Derived.Test.YtpdhdogllejdbaaDoorLaw
namespace Go.Proofs.YtpdhdogllejdbaaDoor
open Go.RowKit
theorem pc_pow : ∀ n i, pc n (2 ^ i) ≤ 1
  | 0, i => by simp [pc]
  | n + 1, 0 => by show 1 % 2 + pc n (1 / 2) ≤ 1; rw [show 1 / 2 = 0 from rfl, pc_zero]; decide
  | n + 1, i + 1 => by
    have h := pc_pow n i
    show 2 ^ (i + 1) % 2 + pc n (2 ^ (i + 1) / 2) ≤ 1
    have e1 : 2 ^ (i + 1) % 2 = 0 := by rw [Nat.pow_succ]; omega
    have e2 : 2 ^ (i + 1) / 2 = 2 ^ i := by rw [Nat.pow_succ]; omega
    rw [e1, e2]; omega
theorem bit_le {z i : Nat} (h : bit z i = true) : 2 ^ i ≤ z := by
  unfold bit at h
  have h' : z / 2 ^ i % 2 = 1 := by simpa using h
  rcases Nat.lt_or_ge z (2 ^ i) with h0 | h0
  · rw [Nat.div_eq_of_lt h0] at h'; simp at h'
  · exact h0
theorem bit_lt {z i n : Nat} (h : bit z i = true) (hn : 1 < (bitsOf n z).length) : 2 ^ i < z := by
  rcases Nat.lt_or_ge (2 ^ i) z with h0 | h0
  · exact h0
  · have e : z = 2 ^ i := by have := bit_le h; omega
    rw [e, bitsOf_length] at hn
    have := pc_pow n i
    omega
theorem Ok.drop {W H : Int} {N z i : Nat} (h : Ok W H N z) (hb : bit z i = true) (hn : 5 < (bitsOf N z).length) : Ok W H N (z - 2 ^ i) :=
  ⟨h.wh, h.n1, h.n49, by have := bit_lt (n := N) hb (by omega); omega, Nat.lt_of_le_of_lt (Nat.sub_le _ _) h.zlt, h.w1, h.w7, h.h1, h.h7⟩
theorem Ok.rect {W H : Int} {N : Nat} (wh : W * H = N) (n1 : 1 ≤ N) (n49 : N ≤ 49) (w1 : 1 ≤ W) (w7 : W ≤ 7) (h1 : 1 ≤ H) (h7 : H ≤ 7) : Ok W H N (2 ^ N - 1) := by
  have hp : 2 ^ 1 ≤ 2 ^ N := Nat.pow_le_pow_right (by decide) n1
  exact ⟨wh, n1, n49, by omega, by omega, w1, w7, h1, h7⟩
theorem Dr.lt {w0 w : World} {a : Option Addr} {len cap p : Nat} (h : Dr w0 a len cap p w) : p < w.heap.size := by
  obtain ⟨_, _, i, y, _, hc⟩ := h
  rcases Nat.lt_or_ge p w.heap.size with h | h
  · exact h
  · rw [Array.getElem?_eq_none h] at hc; cases hc
theorem Dr.set {w0 w : World} {a : Option Addr} {len cap p b j : Nat} {v : Value} (h : Dr w0 a len cap p w) (hb : w0.heap.size ≤ b ∧ ¬ p = b) : Dr w0 a len cap p (w.setCell ⟨b, j, none⟩ v) := by
  obtain ⟨h1, h2, i, y, hi, hc⟩ := h
  exact ⟨h1, set_below h2 hb.1, i, y, hi, (heap_setCell_other w ⟨b, j, none⟩ p _ hb.2).trans hc⟩
theorem Dr.drew {w0 w : World} {a : Option Addr} {len cap p : Nat} (h : Dr w0 a len cap p w) : Dr w0 a len cap p w.drew := ⟨h.1, h.2.1.drew, h.2.2⟩
theorem grown_drew {w w' : World} {r : Option Nat} (h : w.grownBy w' r) : w.grownBy w'.drew r := ⟨h.os, h.tape, h.output, h.size, h.block⟩
theorem grown_set_new {w w' : World} {r : Option Nat} {b j : Nat} {v : Value} (h : w.grownBy w' r) (hb : w.heap.size ≤ b) : w.grownBy (w'.setCell ⟨b, j, none⟩ v) r :=
  ⟨h.os, h.tape, h.output, by simpa using h.size, fun k hk hr => (heap_setCell_other w' ⟨b, j, none⟩ k _ (by show ¬ k = b; omega)).trans (h.block k hk hr)⟩
def row3 (w : World) (b : Nat) (W H Z : Int) : Prop := w.heap[b]? = some (.cells #[.int .i64 W, .int .i64 H, .int .i64 Z] 25 (0, 0))
def SmallPost (w0 : World) (a : Option Addr) (len cap p : Nat) (w : World) (e : Ending) (w' : World) : Prop :=
  ∃ (W H : Int) (N z : Nat), Ok W H N z ∧ N ≤ 16 ∧ e = .returned (bd W H z) ∧ Dr w0 a len cap p w' ∧ w.grownBy w' (some p)
theorem dims (x m : Nat) (hx : x < 5) (hm : (16 : Int) / (1 + x) = m) (y : Nat) (h4 : y < 4) (hy : y < m) :
    (¬ (1 + (x : Int) < 3 ∧ 1 + (y : Int) < 3) → ∃ N : Nat, (1 + (x : Int)) * (1 + y) = N ∧ 3 ≤ N ∧ N ≤ 16) ∧ (1 + (x : Int) < 3 → ∃ N : Nat, (1 + (x : Int)) * 3 = N ∧ 3 ≤ N ∧ N ≤ 16) := by
  match x, hx with
  | 0, _ | 1, _ | 2, _ | 3, _ | 4, _ =>
    simp at hm
    exact ⟨fun h => ⟨_, (Int.toNat_of_nonneg (by omega)).symm, by omega, by omega⟩, fun h => ⟨_, (Int.toNat_of_nonneg (by omega)).symm, by omega, by omega⟩⟩
  | x + 5, h => omega
set_option maxHeartbeats 4000000 in
set_option maxRecDepth 100000 in
theorem small {w0 : World} {a : Option Addr} {len cap p : Nat} (hcode : CodeAt w0 a len) (w : World) (hd : Dr w0 a len cap p w) :
    Calls Tryd.prog 18 #[.pointer (some ⟨p, 0, none⟩)] w (SmallPost w0 a len cap p w) := by
  have HCO := Lib.hid hcode
  have HD := Lib.hid hd
  have hpw := Dr.lt hd
  have hw0 := hd.2.1.size
  clear hd hcode
  go_enter Tryd.func18, Tryd.ntmps18
  go_wp2_with fail
  have hA : zero3 (w.alloc (.cells #[.int .i64 0, .int .i64 0, .int .i64 0] 25)) w.heap.size := heap_alloc_new w _
  have hS : (w.alloc (.cells #[.int .i64 0, .int .i64 0, .int .i64 0] 25)).heap.size = w.heap.size + 1 := by simp
  have hB : Below w.heap.size w (w.alloc (.cells #[.int .i64 0, .int .i64 0, .int .i64 0] 25)) := (Below.refl _ _).alloc (Nat.le_refl _) _
  have HD1 := Lib.hid (HD.out.below hB)
  have HG1 := Lib.hid (grown_below hB (some p))
  have HA := Lib.hid hA
  clear hA hB
  generalize w.alloc (.cells #[.int .i64 0, .int .i64 0, .int .i64 0] 25) = W1 at *
  refine (below HCO.out 5 _ HD1.out (by omega) (by omega)).mono ?_
  rintro e w1 ⟨x, hx, rfl, hd1, hg1⟩
  have HD2 := Lib.hid hd1
  have HG2 := Lib.hid (HG1.out.trans hg1)
  have HA2 : Hid (zero3 w1 w.heap.size) := (hg1.block _ (by omega) (by intro h; injection h; omega)).trans HA.out
  have hlt2 : w.heap.size < w1.heap.size := by have := hg1.size; omega
  clear hd1 hg1 HD1 HG1 HA hS
  obtain ⟨m, hm, hm3, hm16⟩ : ∃ m : Nat, (16 : Int) / (1 + x) = m ∧ 3 ≤ m ∧ m ≤ 16 := by
    have h1 : 0 ≤ (16 : Int) / (1 + x) := Int.ediv_nonneg (by omega) (by omega)
    obtain ⟨m, hm⟩ := Int.eq_ofNat_of_zero_le h1
    refine ⟨m, hm, ?_, ?_⟩
    · match x, hx with
      | 0, _ | 1, _ | 2, _ | 3, _ | 4, _ => simp at hm; omega
      | x + 5, h => omega
    · match x, hx with
      | 0, _ | 1, _ | 2, _ | 3, _ | 4, _ => simp at hm; omega
      | x + 5, h => omega
  have HDI := Lib.hid (fun y => dims x m (by omega) hm y)
  obtain ⟨W, hW⟩ : ∃ W : Int, 1 + (x : Int) = W := ⟨_, rfl⟩
  rw [hW] at hm HDI
  have hW1 : 1 ≤ W := by omega
  have hW5 : W ≤ 5 := by omega
  go_wp2_with fail
  all_goals
    refine (below HCO.out _ _ HD2.out (by omega) (by omega)).mono ?_
    rintro e w2 ⟨y, hy, rfl, hd2, hg2⟩
    have HD3 := Lib.hid hd2
    have HG3 := Lib.hid (HG2.out.trans hg2)
    have HA3 : Hid (zero3 w2 w.heap.size) := (hg2.block _ (by omega) (by intro h; injection h; omega)).trans HA2.out
    have hlt3 : w.heap.size < w2.heap.size := by have := hg2.size; omega
    clear hd2 hg2
    obtain ⟨H, hH⟩ : ∃ H : Int, 1 + (y : Int) = H := ⟨_, rfl⟩
    have HDY := HDI.out y (by omega) (by omega)
    rw [hH] at HDY
    have hH1 : 1 ≤ H := by omega
    have hH4 : H ≤ 4 := by omega
    by_cases hcc : W < 3 ∧ H < 3
    · obtain ⟨hc1, hc2⟩ := hcc
      obtain ⟨N, hN, hN3, hN16⟩ := HDY.2 hc1
      clear HDY HDI
      have hsW : sideB W = true := by simp only [sideB, Bool.and_eq_true, decide_eq_true_eq]; omega
      have hsH : sideB 3 = true := by simp only [sideB, Bool.and_eq_true, decide_eq_true_eq]; omega
      have HR := Lib.hid (rect_yes hsW hsH hN)
      have HO := Lib.hid (Ok.rect hN (by omega) (by omega) (by omega) (by omega) (by omega) (by omega))
      clear hsW hsH
      go_wp2_with fail
      refine (specRect _ _ _).mono ?_
      rintro e w3 ⟨rfl, hb3⟩
      rw [HR.out]
      unfold bd
      have HD4 := Lib.hid (HD3.out.below hb3)
      have HG4 := Lib.hid (HG3.out.trans (grown_below hb3 (some p)))
      have HA4 : Hid (zero3 w3 w.heap.size) := row_later HA3.out hb3 hlt3
      have hlt4 : w.heap.size < w3.heap.size := Nat.lt_of_lt_of_le hlt3 hb3.size
      clear hb3 HD3 HG3 HA3 hlt3
      go_wp2_with fail
      have hq : row3 (w3.alloc (.cells #[.int .i64 W, .int .i64 3, .int .i64 (2 ^ N - 1)] 25)) w3.heap.size W 3 (2 ^ N - 1) := heap_alloc_new w3 _
      have hB5 : Below w3.heap.size w3 (w3.alloc (.cells #[.int .i64 W, .int .i64 3, .int .i64 (2 ^ N - 1)] 25)) := (Below.refl _ _).alloc (Nat.le_refl _) _
      have HD5 := Lib.hid (HD4.out.below hB5)
      have HG5 := Lib.hid (HG4.out.trans (grown_below hB5 (some p)))
      have HA5 : Hid (zero3 (w3.alloc (.cells #[.int .i64 W, .int .i64 3, .int .i64 (2 ^ N - 1)] 25)) w.heap.size) := row_later HA4.out hB5 hlt4
      have hpq : p < w3.heap.size := Dr.lt HD4.out
      have HQ := Lib.hid hq
      clear hq hB5 HD4 HG4 HA4
      have hz5 : (w3.alloc (.cells #[.int .i64 W, .int .i64 3, .int .i64 (2 ^ N - 1)] 25)).heap.size = w3.heap.size + 1 := by simp
      generalize w3.alloc (.cells #[.int .i64 W, .int .i64 3, .int .i64 (2 ^ N - 1)] 25) = w4 at *
      generalize hqq : w3.heap.size = q at *
      clear hqq
      refine (below HCO.out 3 _ HD5.out (by omega) (by omega)).mono ?_
      rintro e w5 ⟨v, hv, rfl, hd6, hg6⟩
      have HD6 := Lib.hid hd6
      have HG6 := Lib.hid (HG5.out.trans hg6)
      have HA6 : Hid (zero3 w5 w.heap.size) := (hg6.block _ (by omega) (by intro h; injection h; omega)).trans HA5.out
      have HQ6 : Hid (row3 w5 q W 3 ((2 ^ N - 1 : Nat) : Int)) := by
        unfold Hid
        rw [Int.natCast_sub (Nat.two_pow_pos N), ← pow_cast]
        exact (hg6.block _ (by omega) (by intro h; injection h; omega)).trans HQ.out
      have hz6 : q + 1 ≤ w5.heap.size := by have := hg6.size; omega
      clear hd6 hg6 HD5 HG5 HA5 HQ hz5 HR
      go_wp2_with fail
      go_loopw [6] (fun i wr => ∃ (k z : Nat), k ≤ 2 ∧ i = .int .i64 k ∧ Hid (Ok W 3 N z) ∧ Hid (Dr w0 a len cap p wr) ∧ Hid (w.grownBy wr (some p)) ∧ Hid (zero3 wr w.heap.size) ∧ Hid (row3 wr q W 3 z) ∧ q + 1 ≤ wr.heap.size) (fun i _ => (intOf i).toNat)
      case atStart => exact ⟨v, _, by omega, rfl, HO, HD6, HG6, HA6, HQ6, hz6⟩
      case round =>
        obtain ⟨k, z, hk, rfl, ho, hd, hg, hz3, hq3, hzz⟩ := hrel
        clear HO HD6 HG6 HA6 HQ6 hz6
        obtain ⟨a0, a1, a2, f0, f1, f2⟩ := row_facts hz3.out
        obtain ⟨c0, c1, c2, g0, g1, g2⟩ := row_facts hq3.out
        have hne : ¬ w.heap.size = q := by omega
        by_cases hk0 : 0 < k
        · go_wp2_with fail
          refine (specCount ho.out _).mono ?_
          rintro e w6 ⟨rfl, hb6⟩
          have hd6 := Lib.hid (hd.out.below hb6)
          have hg6 := Lib.hid (hg.out.trans (grown_below hb6 (some p)))
          have hz36 : Hid (zero3 w6 w.heap.size) := row_later hz3.out hb6 (by omega)
          have hq36 : Hid (row3 w6 q W 3 z) := row_later hq3.out hb6 (by omega)
          have hzz6 : q + 1 ≤ w6.heap.size := by have := hb6.size; omega
          clear a0 a1 a2 f0 f1 f2 c0 c1 c2 g0 g1 g2 hd hg hz3 hq3 hzz hb6
          obtain ⟨a0, a1, a2, f0, f1, f2⟩ := row_facts hz36.out
          obtain ⟨c0, c1, c2, g0, g1, g2⟩ := row_facts hq36.out
          by_cases hc : 5 < (bitsOf N z).length
          · have hci : (5 : Int) < ((bitsOf N z).length : Int) := by omega
            clear a0 a1 a2 f0 f1 f2
            go_wp2_with fail
            clear hci c0 c1 c2 g0 g1 g2
            refine (below HCO.out (N : Int) _ hd6.out (by omega) (by omega)).mono ?_
            rintro e w7 ⟨j, hj, rfl, hd7, hg7⟩
            have hd7' := Lib.hid hd7
            have hg7' := Lib.hid (hg6.out.trans hg7)
            have hz37 : Hid (zero3 w7 w.heap.size) := (hg7.block _ (by omega) (by intro h; injection h; omega)).trans hz36.out
            have hq37 : Hid (row3 w7 q W 3 z) := (hg7.block _ (by omega) (by intro h; injection h; omega)).trans hq36.out
            have hzz7 : q + 1 ≤ w7.heap.size := by have := hg7.size; omega
            clear hd7 hg7 hd6 hg6 hz36 hq36 hzz6
            obtain ⟨c0, c1, c2, g0, g1, g2⟩ := row_facts hq37.out
            have hand := hand1
            cases hbit : bit z j
            · have hb1 : ((z : Int) / 2 ^ j % 2 == 1) = false := by rw [bit_int]; exact hbit
              clear hbit
              go_wp2_with fail
              go_roundw
              case rel => exact ⟨k - 1, z, by omega, by rw [show (((k - 1 : Nat) : Int)) = (k : Int) - 1 by omega], ho, hd7', hg7', hz37, hq37, hzz7⟩
              case measure => simp [intOf]; omega
            · have hb1 : ((z : Int) / 2 ^ j % 2 == 1) = true := by rw [bit_int]; exact hbit
              have hlez := bit_lt (n := N) hbit (by omega)
              have ho' := Lib.hid (ho.out.drop hbit hc)
              have hzb := ho.out.zbig
              obtain ⟨p1, p2⟩ := pow_le49 (show j ≤ 49 by omega)
              have hcast : (((z - 2 ^ j : Nat) : Int)) = (z : Int) - 2 ^ j := by rw [Int.natCast_sub (Nat.le_of_lt hlez), ← pow_cast]
              have hsub0 : (0 : Int) ≤ (z : Int) - 2 ^ j := by rw [← hcast]; omega
              have HC := Lib.hid hcast
              have hw8 : IntKind.i64.wrap ((z : Int) - 2 ^ j) = (z : Int) - 2 ^ j := IntWalk.i64_in _ (by omega)
              have hw9 : IntKind.i64.wrap ((2 : Int) ^ j) = (2 : Int) ^ j := IntWalk.i64_in _ (by omega)
              clear hbit hlez hcast
              go_wp2_with fail
              go_region
              all_goals
                clear hw8 hw9
                have hd8 : Hid (Dr w0 a len cap p (w7.setCell ⟨q, 2, none⟩ (.int .i64 ((z : Int) - 2 ^ j))).drew) := Dr.drew (Dr.set (b := q) hd7'.out (by omega))
                have hg8 : Hid (w.grownBy (w7.setCell ⟨q, 2, none⟩ (.int .i64 ((z : Int) - 2 ^ j))).drew (some p)) := grown_drew (grown_set_new (b := q) hg7'.out (by omega))
                have hz38 : Hid (zero3 (w7.setCell ⟨q, 2, none⟩ (.int .i64 ((z : Int) - 2 ^ j))).drew w.heap.size) := (heap_setCell_other w7 ⟨q, 2, none⟩ w.heap.size _ hne).trans hz37.out
                have hq38 : Hid (row3 (w7.setCell ⟨q, 2, none⟩ (.int .i64 ((z : Int) - 2 ^ j))).drew q W 3 ((z - 2 ^ j : Nat) : Int)) := by
                  unfold Hid
                  rw [HC.out]
                  exact heap_setCell_same w7 q 2 _ 25 _ hq37.out
                have hzz8 : q + 1 ≤ (w7.setCell ⟨q, 2, none⟩ (.int .i64 ((z : Int) - 2 ^ j))).drew.heap.size := by show _ ≤ (w7.setCell _ _).heap.size; simpa using hzz7
                clear c0 c1 c2 g0 g1 g2
                go_wp2_with fail
                go_roundw
                case rel => exact ⟨k - 1, _, by omega, by rw [show (((k - 1 : Nat) : Int)) = (k : Int) - 1 by omega], ho', hd8, hg8, hz38, hq38, hzz8⟩
                case measure => simp [intOf]; omega
          · have hci : ¬ (5 : Int) < ((bitsOf N z).length : Int) := by omega
            go_wp2_with fail
            refine bodyPost_ret (v := bd W 3 z) (by simp [results, Tryd.results18, go_sem, bd, a0, a1, a2]) rfl ⟨W, 3, N, z, ho.out, by omega, rfl, ?_, ?_⟩
            · exact Dr.set (Dr.set (Dr.set (b := w.heap.size) hd6.out (by omega)) (by omega)) (by omega)
            · exact grown_set_new (grown_set_new (grown_set_new hg6.out (Nat.le_refl _)) (Nat.le_refl _)) (Nat.le_refl _)
        · obtain rfl : k = 0 := by omega
          go_wp2_with fail
          refine bodyPost_ret (v := bd W 3 z) (by simp [results, Tryd.results18, go_sem, bd, a0, a1, a2]) rfl ⟨W, 3, N, z, ho.out, by omega, rfl, ?_, ?_⟩
          · exact Dr.set (Dr.set (Dr.set (b := w.heap.size) hd.out (by omega)) (by omega)) (by omega)
          · exact grown_set_new (grown_set_new (grown_set_new hg.out (Nat.le_refl _)) (Nat.le_refl _)) (Nat.le_refl _)
    · obtain ⟨N, hN, hN3, hN16⟩ := HDY.1 hcc
      clear HDY HDI
      have hcd : W < 3 → ¬ H < 3 := fun h1 h2 => hcc ⟨h1, h2⟩
      clear hcc
      by_cases hc1 : W < 3
      all_goals
        first | (have hc2 := hcd hc1) | skip
        clear hcd
        have hsW : sideB W = true := by simp only [sideB, Bool.and_eq_true, decide_eq_true_eq]; omega
        have hsH : sideB H = true := by simp only [sideB, Bool.and_eq_true, decide_eq_true_eq]; omega
        have HR := Lib.hid (rect_yes hsW hsH hN)
        have HO := Lib.hid (Ok.rect hN (by omega) (by omega) (by omega) (by omega) (by omega) (by omega))
        clear hsW hsH
        go_wp2_with fail
        refine (specRect _ _ _).mono ?_
        rintro e w3 ⟨rfl, hb3⟩
        rw [HR.out]
        unfold bd
        have HD4 := Lib.hid (HD3.out.below hb3)
        have HG4 := Lib.hid (HG3.out.trans (grown_below hb3 (some p)))
        have HA4 : Hid (zero3 w3 w.heap.size) := row_later HA3.out hb3 hlt3
        have hlt4 : w.heap.size < w3.heap.size := Nat.lt_of_lt_of_le hlt3 hb3.size
        clear hb3 HD3 HG3 HA3 hlt3
        go_wp2_with fail
        have hq : row3 (w3.alloc (.cells #[.int .i64 W, .int .i64 H, .int .i64 (2 ^ N - 1)] 25)) w3.heap.size W H (2 ^ N - 1) := heap_alloc_new w3 _
        have hB5 : Below w3.heap.size w3 (w3.alloc (.cells #[.int .i64 W, .int .i64 H, .int .i64 (2 ^ N - 1)] 25)) := (Below.refl _ _).alloc (Nat.le_refl _) _
        have HD5 := Lib.hid (HD4.out.below hB5)
        have HG5 := Lib.hid (HG4.out.trans (grown_below hB5 (some p)))
        have HA5 : Hid (zero3 (w3.alloc (.cells #[.int .i64 W, .int .i64 H, .int .i64 (2 ^ N - 1)] 25)) w.heap.size) := row_later HA4.out hB5 hlt4
        have hpq : p < w3.heap.size := Dr.lt HD4.out
        have HQ := Lib.hid hq
        clear hq hB5 HD4 HG4 HA4
        have hz5 : (w3.alloc (.cells #[.int .i64 W, .int .i64 H, .int .i64 (2 ^ N - 1)] 25)).heap.size = w3.heap.size + 1 := by simp
        generalize w3.alloc (.cells #[.int .i64 W, .int .i64 H, .int .i64 (2 ^ N - 1)] 25) = w4 at *
        generalize hqq : w3.heap.size = q at *
        clear hqq
        refine (below HCO.out 3 _ HD5.out (by omega) (by omega)).mono ?_
        rintro e w5 ⟨v, hv, rfl, hd6, hg6⟩
        have HD6 := Lib.hid hd6
        have HG6 := Lib.hid (HG5.out.trans hg6)
        have HA6 : Hid (zero3 w5 w.heap.size) := (hg6.block _ (by omega) (by intro h; injection h; omega)).trans HA5.out
        have HQ6 : Hid (row3 w5 q W H ((2 ^ N - 1 : Nat) : Int)) := by
          unfold Hid
          rw [Int.natCast_sub (Nat.two_pow_pos N), ← pow_cast]
          exact (hg6.block _ (by omega) (by intro h; injection h; omega)).trans HQ.out
        have hz6 : q + 1 ≤ w5.heap.size := by have := hg6.size; omega
        clear hd6 hg6 HD5 HG5 HA5 HQ hz5 HR
        go_wp2_with fail
        go_loopw [6] (fun i wr => ∃ (k z : Nat), k ≤ 2 ∧ i = .int .i64 k ∧ Hid (Ok W H N z) ∧ Hid (Dr w0 a len cap p wr) ∧ Hid (w.grownBy wr (some p)) ∧ Hid (zero3 wr w.heap.size) ∧ Hid (row3 wr q W H z) ∧ q + 1 ≤ wr.heap.size) (fun i _ => (intOf i).toNat)
        case atStart => exact ⟨v, _, by omega, rfl, HO, HD6, HG6, HA6, HQ6, hz6⟩
        case round =>
          obtain ⟨k, z, hk, rfl, ho, hd, hg, hz3, hq3, hzz⟩ := hrel
          clear HO HD6 HG6 HA6 HQ6 hz6
          obtain ⟨a0, a1, a2, f0, f1, f2⟩ := row_facts hz3.out
          obtain ⟨c0, c1, c2, g0, g1, g2⟩ := row_facts hq3.out
          have hne : ¬ w.heap.size = q := by omega
          by_cases hk0 : 0 < k
          · go_wp2_with fail
            refine (specCount ho.out _).mono ?_
            rintro e w6 ⟨rfl, hb6⟩
            have hd6 := Lib.hid (hd.out.below hb6)
            have hg6 := Lib.hid (hg.out.trans (grown_below hb6 (some p)))
            have hz36 : Hid (zero3 w6 w.heap.size) := row_later hz3.out hb6 (by omega)
            have hq36 : Hid (row3 w6 q W H z) := row_later hq3.out hb6 (by omega)
            have hzz6 : q + 1 ≤ w6.heap.size := by have := hb6.size; omega
            clear a0 a1 a2 f0 f1 f2 c0 c1 c2 g0 g1 g2 hd hg hz3 hq3 hzz hb6
            obtain ⟨a0, a1, a2, f0, f1, f2⟩ := row_facts hz36.out
            obtain ⟨c0, c1, c2, g0, g1, g2⟩ := row_facts hq36.out
            by_cases hc : 5 < (bitsOf N z).length
            · have hci : (5 : Int) < ((bitsOf N z).length : Int) := by omega
              clear a0 a1 a2 f0 f1 f2
              go_wp2_with fail
              clear hci c0 c1 c2 g0 g1 g2
              refine (below HCO.out (N : Int) _ hd6.out (by omega) (by omega)).mono ?_
              rintro e w7 ⟨j, hj, rfl, hd7, hg7⟩
              have hd7' := Lib.hid hd7
              have hg7' := Lib.hid (hg6.out.trans hg7)
              have hz37 : Hid (zero3 w7 w.heap.size) := (hg7.block _ (by omega) (by intro h; injection h; omega)).trans hz36.out
              have hq37 : Hid (row3 w7 q W H z) := (hg7.block _ (by omega) (by intro h; injection h; omega)).trans hq36.out
              have hzz7 : q + 1 ≤ w7.heap.size := by have := hg7.size; omega
              clear hd7 hg7 hd6 hg6 hz36 hq36 hzz6
              obtain ⟨c0, c1, c2, g0, g1, g2⟩ := row_facts hq37.out
              have hand := hand1
              cases hbit : bit z j
              · have hb1 : ((z : Int) / 2 ^ j % 2 == 1) = false := by rw [bit_int]; exact hbit
                clear hbit
                go_wp2_with fail
                go_roundw
                case rel => exact ⟨k - 1, z, by omega, by rw [show (((k - 1 : Nat) : Int)) = (k : Int) - 1 by omega], ho, hd7', hg7', hz37, hq37, hzz7⟩
                case measure => simp [intOf]; omega
              · have hb1 : ((z : Int) / 2 ^ j % 2 == 1) = true := by rw [bit_int]; exact hbit
                have hlez := bit_lt (n := N) hbit (by omega)
                have ho' := Lib.hid (ho.out.drop hbit hc)
                have hzb := ho.out.zbig
                obtain ⟨p1, p2⟩ := pow_le49 (show j ≤ 49 by omega)
                have hcast : (((z - 2 ^ j : Nat) : Int)) = (z : Int) - 2 ^ j := by rw [Int.natCast_sub (Nat.le_of_lt hlez), ← pow_cast]
                have hsub0 : (0 : Int) ≤ (z : Int) - 2 ^ j := by rw [← hcast]; omega
                have HC := Lib.hid hcast
                have hw8 : IntKind.i64.wrap ((z : Int) - 2 ^ j) = (z : Int) - 2 ^ j := IntWalk.i64_in _ (by omega)
                have hw9 : IntKind.i64.wrap ((2 : Int) ^ j) = (2 : Int) ^ j := IntWalk.i64_in _ (by omega)
                clear hbit hlez hcast
                go_wp2_with fail
                go_region
                all_goals
                  clear hw8 hw9
                  have hd8 : Hid (Dr w0 a len cap p (w7.setCell ⟨q, 2, none⟩ (.int .i64 ((z : Int) - 2 ^ j))).drew) := Dr.drew (Dr.set (b := q) hd7'.out (by omega))
                  have hg8 : Hid (w.grownBy (w7.setCell ⟨q, 2, none⟩ (.int .i64 ((z : Int) - 2 ^ j))).drew (some p)) := grown_drew (grown_set_new (b := q) hg7'.out (by omega))
                  have hz38 : Hid (zero3 (w7.setCell ⟨q, 2, none⟩ (.int .i64 ((z : Int) - 2 ^ j))).drew w.heap.size) := (heap_setCell_other w7 ⟨q, 2, none⟩ w.heap.size _ hne).trans hz37.out
                  have hq38 : Hid (row3 (w7.setCell ⟨q, 2, none⟩ (.int .i64 ((z : Int) - 2 ^ j))).drew q W H ((z - 2 ^ j : Nat) : Int)) := by
                    unfold Hid
                    rw [HC.out]
                    exact heap_setCell_same w7 q 2 _ 25 _ hq37.out
                  have hzz8 : q + 1 ≤ (w7.setCell ⟨q, 2, none⟩ (.int .i64 ((z : Int) - 2 ^ j))).drew.heap.size := by show _ ≤ (w7.setCell _ _).heap.size; simpa using hzz7
                  clear c0 c1 c2 g0 g1 g2
                  go_wp2_with fail
                  go_roundw
                  case rel => exact ⟨k - 1, _, by omega, by rw [show (((k - 1 : Nat) : Int)) = (k : Int) - 1 by omega], ho', hd8, hg8, hz38, hq38, hzz8⟩
                  case measure => simp [intOf]; omega
            · have hci : ¬ (5 : Int) < ((bitsOf N z).length : Int) := by omega
              go_wp2_with fail
              refine bodyPost_ret (v := bd W H z) (by simp [results, Tryd.results18, go_sem, bd, a0, a1, a2]) rfl ⟨W, H, N, z, ho.out, by omega, rfl, ?_, ?_⟩
              · exact Dr.set (Dr.set (Dr.set (b := w.heap.size) hd6.out (by omega)) (by omega)) (by omega)
              · exact grown_set_new (grown_set_new (grown_set_new hg6.out (Nat.le_refl _)) (Nat.le_refl _)) (Nat.le_refl _)
          · obtain rfl : k = 0 := by omega
            go_wp2_with fail
            refine bodyPost_ret (v := bd W H z) (by simp [results, Tryd.results18, go_sem, bd, a0, a1, a2]) rfl ⟨W, H, N, z, ho.out, by omega, rfl, ?_, ?_⟩
            · exact Dr.set (Dr.set (Dr.set (b := w.heap.size) hd.out (by omega)) (by omega)) (by omega)
            · exact grown_set_new (grown_set_new (grown_set_new hg.out (Nat.le_refl _)) (Nat.le_refl _)) (Nat.le_refl _)
theorem CodeAt.below {w w' : World} {a : Option Addr} {len : Nat} (h : CodeAt w a len) (hb : Below w.heap.size w w') : CodeAt w' a len := by
  refine ⟨h.1, ?_⟩
  rcases h.2 with h | ⟨b, off, ha, hlt, hc⟩
  · exact .inl h
  · refine .inr ⟨b, off, ha, Nat.lt_of_lt_of_le hlt hb.size, fun k hk => ?_⟩
    obtain ⟨c, h1, h2⟩ := hc k hk
    exact ⟨c, h1, (hb.cell (p := ⟨b, off + k, none⟩) hlt).trans h2⟩
def DrawBoardPost (w : World) (e : Ending) (w' : World) : Prop := ∃ (W H : Int) (N z : Nat), Ok W H N z ∧ N ≤ 16 ∧ e = .returned (bd W H z) ∧ Below w.heap.size w w'
set_option maxHeartbeats 1000000 in
set_option maxRecDepth 100000 in
theorem drawBoard {a : Option Addr} {len cap : Nat} (w : World) (hcode : CodeAt w a len) :
    Calls Tryd.prog 6 #[.slice a len cap] w (DrawBoardPost w) := by
  have HCO := Lib.hid hcode
  clear hcode
  go_enter Tryd.func6, Tryd.ntmps6
  go_wp2_with fail
  have hA : zero3 (w.alloc (.cells #[.int .i64 0, .int .i64 0, .int .i64 0] 25)) w.heap.size := heap_alloc_new w _
  have hB : Below w.heap.size w (w.alloc (.cells #[.int .i64 0, .int .i64 0, .int .i64 0] 25)) := (Below.refl _ _).alloc (Nat.le_refl _) _
  have hS : w.heap.size < (w.alloc (.cells #[.int .i64 0, .int .i64 0, .int .i64 0] 25)).heap.size := by simp
  have HC1 := Lib.hid (HCO.out.below hB)
  generalize w.alloc (.cells #[.int .i64 0, .int .i64 0, .int .i64 0] 25) = W1 at *
  refine (curNew _ HC1.out).mono ?_
  rintro e w1 ⟨p, rfl, hd⟩
  have HD := Lib.hid hd
  have hp := hd.1
  have HA1 : Hid (zero3 w1 w.heap.size) := row_later hA hd.2.1 hS
  clear hA hd
  go_wp2_with fail
  refine (small HC1.out _ HD.out).mono ?_
  rintro e w2 ⟨W, H, N, z, ho, hN, rfl, hd2, hg⟩
  unfold bd
  have HO := Lib.hid ho
  have hbw := hB.trans (hd2.2.1.mono hB.size)
  have hlt1 : w.heap.size < w1.heap.size := Nat.lt_of_lt_of_le hS HD.out.2.1.size
  have HA2 : Hid (zero3 w2 w.heap.size) := (hg.block _ hlt1 (by intro h; injection h; omega)).trans HA1.out
  clear hd2 hg ho hB HA1
  obtain ⟨a0, a1, a2, f0, f1, f2⟩ := row_facts HA2.out
  go_wp2_with fail
  exact bodyPost_ret (v := bd W H z) (by simp [results, Tryd.results6, go_sem, bd, a0, a1, a2]) rfl ⟨W, H, N, z, HO.out, hN, rfl, set_below (set_below (set_below hbw (Nat.le_refl _)) (Nat.le_refl _)) (Nat.le_refl _)⟩
def AtPost (w : World) (e : Ending) (w' : World) : Prop := ∃ x : Nat, x ≤ 255 ∧ e = .returned (.int .i64 x) ∧ w = w'
theorem byteAt {a : Option Addr} {len cap : Nat} (i : Nat) (hi : i ≤ 1000) (w : World) (hcode : CodeAt w a len) :
    Calls Tryd.prog 11 #[.slice a len cap, .int .i64 i] w (AtPost w) := by
  by_cases h0 : len = 0
  · subst h0
    have hp : AtPost w (.returned (.int .i64 0)) w := ⟨0, by omega, rfl, rfl⟩
    have HP := Lib.hid hp
    clear hp hcode
    go_enter Tryd.func11, Tryd.ntmps11
    go_wp2_with fail
    go_ret
    exact HP.out
  · obtain ⟨b, off, rfl, hlt, hc⟩ : ∃ b off, a = some ⟨b, off, none⟩ ∧ b < w.heap.size ∧ ∀ k, k < len → ∃ c : Nat, c < 256 ∧ w.cell? ⟨b, off + k, none⟩ = some (.int .u8 c) := by
      rcases hcode.2 with h | h
      · exact absurd h h0
      · exact h
    have hl := hcode.1
    have hj : (i * 5 + 1) % len < len := Nat.mod_lt _ (by omega)
    obtain ⟨c, hc1, hc2⟩ := hc _ hj
    have e1 : ((i : Int) * 5 + 1) % (len : Int) = (((i * 5 + 1) % len : Nat) : Int) := by simp
    generalize (i * 5 + 1) % len = j at hj hc2 e1
    have hp : AtPost w (.returned (.int .i64 c)) w := ⟨c, by omega, rfl, rfl⟩
    have HP := Lib.hid hp
    have h0' : ¬ (len : Int) = 0 := by omega
    have hjl : (j : Int) < (len : Int) := by omega
    clear hp hcode hc
    go_enter Tryd.func11, Tryd.ntmps11
    go_wp2_with fail
    go_ret
    exact HP.out
end Go.Proofs.YtpdhdogllejdbaaDoor
