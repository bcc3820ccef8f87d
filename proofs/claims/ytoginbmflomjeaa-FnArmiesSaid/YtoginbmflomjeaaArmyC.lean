/- LeastArmy of the model, for every int. -/
import Derived.Test.YtoginbmflomjeaaArmyB
namespace Go.Proofs.Ytoginbmflomjeaa
open Go.RowKit
set_option linter.unusedVariables false
set_option linter.unusedSimpArgs false
/-- The distance of the soldier with this number, nearest first. -/
def rt (m : Nat) : Nat := if m < 1 then 0 else if m < 4 then 1 else if m < 9 then 2 else if m < 16 then 3 else 4
/-- The sum of the first m soldiers. -/
def lsS (l : Nat) : Nat → Int × Int
  | 0 => (0, 0)
  | m + 1 => ((lsS l m).1 + (pw (rt m + l)).1, (lsS l m).2 + (pw (rt m + l)).2)
def leN (l : Nat) : Nat := if l = 1 then 2 else if l = 2 then 4 else if l = 3 then 8 else 19
theorem rt_at : ∀ (k : Fin 5) (i : Fin 9), i.val ≤ 2 * k.val → rt (k.val * k.val + i.val) = k.val := by decide +kernel
theorem ls_in : ∀ (l : Fin 5) (m : Fin 20), (-100000 ≤ (lsS l.val m.val).1 ∧ (lsS l.val m.val).1 ≤ 100000) ∧ -100000 ≤ (lsS l.val m.val).2 ∧ (lsS l.val m.val).2 ≤ 100000 := by decide +kernel
theorem ls_no : ∀ (l : Fin 5) (m : Fin 20), 1 ≤ l.val → m.val < leN l.val → cmpG (lsS l.val m.val).1 (lsS l.val m.val).2 1 0 < 0 := by decide +kernel
theorem ls_yes : ∀ (l : Fin 5), 1 ≤ l.val → 0 ≤ cmpG (lsS l.val (leN l.val)).1 (lsS l.val (leN l.val)).2 1 0 := by decide +kernel
theorem le_B (l : Nat) (h1 : 1 ≤ l) (h4 : l ≤ 4) : leastB l = (leN l : Nat) := by
  have hl : l = 1 ∨ l = 2 ∨ l = 3 ∨ l = 4 := by omega
  rcases hl with rfl | rfl | rfl | rfl <;> rfl
theorem le_19 (l : Nat) : 1 ≤ leN l ∧ leN l ≤ 19 := by unfold leN; (repeat' split) <;> omega
set_option maxHeartbeats 4000000 in
set_option maxRecDepth 100000 in
theorem specLeast (L : Int) (w : World) : Calls Try.prog 28 #[.int .i64 L] w (GI (leastB L) w) := by
  cases hl : inB L 1 4
  · have CL : Hid (∀ w, Calls Try.prog 42 #[.int .i64 L, .int .i64 1, .int .i64 4] w fun e w' => e = .returned (.bool false) ∧ w = w') := fun w => by rw [← hl]; exact specIn L 1 4 w
    have HG : Hid (leastB L = -1) := by
      unfold Hid leastB
      simp only [inB, Bool.and_eq_false_iff, decide_eq_false_iff_not] at hl
      rw [if_neg (by omega), if_neg (by omega), if_neg (by omega), if_neg (by omega)]
    clear hl
    go_enter Try.func28, Try.ntmps28
    go_wp2_with fail
    refine (CL.out _).mono ?_
    rintro e w1 ⟨rfl, rfl⟩
    go_wp2_with fail
    go_ret
    exact ⟨ret_int HG.out.symm, Below.refl _ _⟩
  · have CL : Hid (∀ w, Calls Try.prog 42 #[.int .i64 L, .int .i64 1, .int .i64 4] w fun e w' => e = .returned (.bool true) ∧ w = w') := fun w => by rw [← hl]; exact specIn L 1 4 w
    have hL : 1 ≤ L ∧ L ≤ 4 := by simpa [inB] using hl
    obtain ⟨l, rfl⟩ := Int.eq_ofNat_of_zero_le (show 0 ≤ L by omega)
    have l1 : 1 ≤ l := by omega
    have l4 : l ≤ 4 := by omega
    have HE := Lib.hid (le_B l l1 l4)
    have hle := le_19 l
    obtain ⟨N, hN⟩ : ∃ N, leN l = N := ⟨_, rfl⟩
    have HNo : Hid (∀ m, m < N → cmpG (lsS l m).1 (lsS l m).2 1 0 < 0) := fun m hm => by
      have := ls_no ⟨l, by omega⟩ ⟨m, by omega⟩ l1 (by rw [hN]; exact hm)
      exact this
    have HYes : Hid (0 ≤ cmpG (lsS l N).1 (lsS l N).2 1 0) := by
      have := ls_yes ⟨l, by omega⟩ l1
      simp only [hN] at this; exact this
    have HIn : Hid (∀ m, m ≤ 19 → (-100000 ≤ (lsS l m).1 ∧ (lsS l m).1 ≤ 100000) ∧ -100000 ≤ (lsS l m).2 ∧ (lsS l m).2 ≤ 100000) := fun m hm => ls_in ⟨l, by omega⟩ ⟨m, by omega⟩
    have HNext : Hid (∀ k i, k ≤ 4 → i ≤ 2 * k → lsS l (k * k + i + 1) = ((lsS l (k * k + i)).1 + (pw (k + l)).1, (lsS l (k * k + i)).2 + (pw (k + l)).2)) := fun k i hk hi => by
      have := rt_at ⟨k, by omega⟩ ⟨i, by omega⟩ hi
      simp only at this
      show ((lsS l (k * k + i)).1 + (pw (rt (k * k + i) + l)).1, (lsS l (k * k + i)).2 + (pw (rt (k * k + i) + l)).2) = _
      rw [this]
    have CP : Hid (∀ k : Nat, k ≤ 4 → ∀ w, Calls Try.prog 43 #[.int .i64 ((k : Int) + (l : Int))] w (GQ (pw (k + l)).1 (pw (k + l)).2 w)) := fun k hk w => by
      have := specPowerOf ((k + l : Nat) : Int) w
      rw [pow_yes (k + l) (by omega), Int.natCast_add] at this
      exact this
    have CC := Lib.hid (fun u v w => specCompareGold u v 1 0 w)
    rw [hN] at HE hle
    clear hl hL hN
    go_enter Try.func28, Try.ntmps28
    go_wp2_with fail
    refine (CL.out _).mono ?_
    rintro e w1 ⟨rfl, rfl⟩
    go_wp2_with fail
    have B0 := Lib.hid (bg1_new 0 0 w)
    generalize w.alloc (.cells #[.int .i64 0, .int .i64 0] 31) = W1 at *
    go_loopw [4, 5] (fun s i wr => ∃ k : Nat, k ≤ 4 ∧ k * k < N ∧ s = .int .i64 ((k * k : Nat) : Int) ∧ i = .int .i64 k ∧ Hid (Bg1 (lsS l (k * k)).1 (lsS l (k * k)).2 w wr)) (fun _ i _ => 4 - (intOf i).toNat)
    case atStart => exact ⟨0, by omega, by omega, rfl, rfl, B0⟩
    case round =>
      clear B0
      obtain ⟨k, hk, hkk, rfl, rfl, B1⟩ := hrel
      obtain ⟨K2, hK2⟩ : ∃ K2, k * k = K2 := ⟨_, rfl⟩
      rw [hK2] at hkk B1 ⊢
      have CPk := Lib.hid (fun w => CP.out k hk w)
      have k0 : (0 : Int) ≤ (k : Int) := by omega
      have k4 : (k : Int) ≤ 4 := by omega
      go_wp2_with fail
      go_loopw [4, 6] (fun s i wr => ∃ j : Nat, j ≤ 2 * k + 1 ∧ K2 + j < N ∧ s = .int .i64 ((K2 + j : Nat) : Int) ∧ i = .int .i64 j ∧ Hid (Bg1 (lsS l (K2 + j)).1 (lsS l (K2 + j)).2 w wr)) (fun _ i _ => 2 * k + 1 - (intOf i).toNat)
      case atStart => exact ⟨0, by omega, by omega, rfl, rfl, B1⟩
      case round =>
        clear B1
        obtain ⟨j, hj, hjN, rfl, rfl, B1⟩ := hrel
        by_cases hjk : j < 2 * k + 1
        · have j1 : (j : Int) < 2 * (k : Int) + 1 := by omega
          have HX : Hid (lsS l (K2 + j + 1) = ((lsS l (K2 + j)).1 + (pw (k + l)).1, (lsS l (K2 + j)).2 + (pw (k + l)).2)) := by unfold Hid; rw [← hK2]; exact HNext.out k j hk (by omega)
          have hin := HIn.out (K2 + j) (by omega)
          have hnx := HIn.out (K2 + j + 1) (by omega)
          rw [HX.out] at hnx
          obtain ⟨m, hm⟩ : ∃ m, K2 + j = m := ⟨_, rfl⟩
          rw [hm] at hjN HX hin hnx B1
          have hmi : ((K2 + j : Nat) : Int) = (m : Int) := by rw [hm]
          rw [hmi]
          have hjm : K2 + (j + 1) = m + 1 := by omega
          obtain ⟨⟨u, v⟩, hu⟩ : ∃ r, lsS l m = r := ⟨_, rfl⟩
          obtain ⟨⟨p, q⟩, hp⟩ : ∃ r, pw (k + l) = r := ⟨_, rfl⟩
          rw [hu, hp] at HX hnx
          rw [hu] at hin B1
          have CQ := Lib.hid (fun w => CPk.out w)
          rw [hp] at CQ
          simp only at HX hnx hin B1 CQ
          obtain ⟨⟨i0, i1⟩, i2, i3⟩ := hin
          obtain ⟨⟨n0, n1⟩, n2, n3⟩ := hnx
          have CC1 := Lib.hid (fun w => CC.out (u + p) (v + q) w)
          have m0 : (0 : Int) ≤ (m : Int) := by omega
          have m19 : (m : Int) ≤ 19 := by omega
          have HMY : Hid (m + 1 = N → 0 ≤ cmpG (u + p) (v + q) 1 0) := fun h => by have := HYes.out; rw [← h, HX.out] at this; exact this
          have HMN : Hid (m + 1 < N → cmpG (u + p) (v + q) 1 0 < 0) := fun h => by have := HNo.out (m + 1) h; rw [HX.out] at this; exact this
          generalize cmpG (u + p) (v + q) 1 0 = r at *
          clear hu hp hm hmi
          go_wp2_with fail
          refine (CQ.out _).mono ?_
          rintro e w5 ⟨rfl, hb5⟩
          have B5 := Lib.hid (B1.out.later hb5)
          clear hb5 B1
          have hba : Below w5.heap.size w5 (w5.alloc (.cells #[.int .i64 p, .int .i64 q] 31)) := (Below.refl _ _).alloc (Nat.le_refl _) _
          have B6 := Lib.hid (B5.out.later hba)
          obtain ⟨k0', k1', f0, f1⟩ := two_facts B6.out.1
          have B7 : Hid (Bg1 (u + p) (v + q) w (((w5.alloc (.cells #[.int .i64 p, .int .i64 q] 31)).setCell ⟨w.heap.size, 0, none⟩ (.int .i64 (u + p))).setCell ⟨w.heap.size, 1, none⟩ (.int .i64 (v + q)))) :=
            ⟨bg_set B6.out.1, set_below (set_below B6.out.2 (by omega)) (by omega)⟩
          obtain ⟨g0, g1, -, -⟩ := two_facts B7.out.1
          go_wp2_with fail
          generalize ((w5.alloc (.cells #[.int .i64 p, .int .i64 q] 31)).setCell ⟨w.heap.size, 0, none⟩ (.int .i64 (u + p))).setCell ⟨w.heap.size, 1, none⟩ (.int .i64 (v + q)) = w6 at *
          refine (CC1.out _).mono ?_
          rintro e w7 ⟨rfl, hb7⟩
          have B8 := Lib.hid (B7.out.later hb7)
          clear hb7 B7 g0 g1
          by_cases hfin : m + 1 = N
          · have hr := HMY.out hfin
            have HR : Hid (leastB (l : Int) = (m : Int) + 1) := by unfold Hid; rw [HE.out, ← hfin]; simp
            clear HMY HMN
            go_wp2_with fail
            go_ret
            exact ⟨ret_int HR.out.symm, B8.out.2⟩
          · have hr := HMN.out (by omega)
            have hr' : ¬ 0 ≤ r := by omega
            clear HMY HMN
            go_wp2_with fail
            go_roundw
            case rel => exact ⟨j + 1, by omega, by omega, by rw [hjm]; go_num, by go_num, by rw [hjm, HX.out]; exact B8⟩
            case measure => simp [intOf]; omega
        · obtain rfl : j = 2 * k + 1 := by omega
          have hsq : K2 + (2 * k + 1) = (k + 1) * (k + 1) := by rw [← hK2, Nat.add_mul, Nat.mul_add, Nat.mul_one, Nat.one_mul]; omega
          have hk3 : k + 1 ≤ 4 := by
            rcases Nat.lt_or_ge k 4 with h' | h'
            · omega
            · obtain rfl : k = 4 := by omega
              omega
          go_wp2_with fail
          go_roundw
          case rel => exact ⟨k + 1, hk3, by rw [← hsq]; exact hjN, by rw [hsq], by go_num, by rw [← hsq]; exact B1⟩
          case measure => simp [intOf]; omega
end Go.Proofs.Ytoginbmflomjeaa
