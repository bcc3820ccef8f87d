/- Armies of the model: ArmyOk, WeightTo, ArmySum, MayReach, for every slice of at most 1048576 soldiers and every int. -/
import Derived.Test.YtoginbmflomjeaaSoldArgs
import Derived.Test.YtoginbmflomjeaaGolds
namespace Go.Proofs.Ytoginbmflomjeaa
open Go.RowKit
set_option linter.unusedVariables false
set_option linter.unusedSimpArgs false
set_option maxRecDepth 100000 in
theorem specSold (x y : Int) (w : World) : Calls Try.prog 40 #[.agg #[.int .i64 x, .int .i64 y]] w (GB (soldB (x, y)) w) := by
  have hg : soldB (x, y) = (inB x (-8) 8 && inB y 0 8) := rfl
  have C := Lib.hid (fun n a b w => specIn n a b w)
  cases h1 : inB x (-8) 8
  · rw [h1] at hg
    have HG := Lib.hid hg
    clear hg
    go_enter Try.func40, Try.ntmps40
    go_wp2_with fail
    refine (C.out _ _ _ _).mono ?_
    rintro e w1 ⟨rfl, rfl⟩
    rw [h1]
    go_wp2_with fail
    go_ret
    exact ⟨ret_bool (by rw [HG.out]; rfl), (Below.refl _ _).alloc (Nat.le_refl _) _⟩
  · rw [h1] at hg
    have HG := Lib.hid hg
    clear hg
    go_enter Try.func40, Try.ntmps40
    go_wp2_with fail
    refine (C.out _ _ _ _).mono ?_
    rintro e w1 ⟨rfl, rfl⟩
    rw [h1]
    go_wp2_with fail
    refine (C.out _ _ _ _).mono ?_
    rintro e w1 ⟨rfl, rfl⟩
    go_wp2_with fail
    go_ret
    exact ⟨ret_bool (by rw [HG.out]; simp), (Below.refl _ _).alloc (Nat.le_refl _) _⟩
theorem specSold_is {x y : Int} {b : Bool} (h : soldB (x, y) = b) (w : World) : Calls Try.prog 40 #[.agg #[.int .i64 x, .int .i64 y]] w (GB b w) := by rw [← h]; exact specSold x y w
set_option maxHeartbeats 2000000 in
set_option maxRecDepth 100000 in
theorem specArmyOk {a : Option Addr} {n c : Nat} {xs : List Sd} (w : World) (hx : n ≤ 1048576) (h : SoldsAt w a n xs) : Calls Try.prog 20 #[.slice a n c] w (GB (armyB xs) w) := by
  have HN := Lib.hid h.1
  have HA := Lib.hid h
  have HE := Lib.hid (fun (hg : goodL xs) => good_army hg)
  have HBad := Lib.hid (fun (k : Nat) (s : Sd) (hk : xs[k]? = some s) (hs : soldB s = false) => army_bad hk hs)
  have HDup := Lib.hid (fun (i k : Nat) (s : Sd) (hi : xs[i]? = some s) (hk : xs[k]? = some s) (hik : i < k) => army_dup hi hk hik)
  have CS := Lib.hid (fun x y b (h : soldB (x, y) = b) w => specSold_is h w)
  rw [HN.out] at HE
  generalize armyB xs = R at *
  clear h
  go_enter Try.func20, Try.ntmps20
  go_wp2_with fail
  go_loopw [3] (fun i wr => ∃ k : Nat, k ≤ n ∧ i = .int .i64 k ∧ Hid (goodL (xs.take k)) ∧ Hid (Below w.heap.size w wr)) (fun i _ => n - (intOf i).toNat)
  case atStart => exact ⟨0, Nat.zero_le _, rfl, by unfold Hid; rw [List.take_zero]; exact good_nil, Below.refl _ _⟩
  case round =>
    obtain ⟨k, hk, rfl, HG, HW⟩ := hrel
    by_cases hkn : k < n
    · have k0 : (0 : Int) ≤ (k : Int) := by omega
      have k1 : (k : Int) < (n : Int) := by omega
      obtain ⟨⟨x, y⟩, hs⟩ : ∃ s, xs[k]? = some s := ⟨_, List.getElem?_eq_getElem (by rw [HN.out]; exact hkn)⟩
      obtain ⟨b, off, rfl, hb, -⟩ := HA.out.cell hkn
      have HC : Hid (∀ w', Below w.heap.size w w' → ∀ (j : Nat) (s : Sd), xs[j]? = some s → w'.cell? ⟨b, off + j * 2, none⟩ = some (.int .i64 s.1) ∧ w'.cell? ⟨b, off + j * 2 + 1, none⟩ = some (.int .i64 s.2)) := fun w' hw' j s hj => by
        obtain ⟨b', off', e, -, g⟩ := (HA.out.later hw').cell hkn
        cases e
        exact g j s hj
      obtain ⟨c0, c1⟩ := HC.out _ HW.out k _ hs
      cases hso : soldB (x, y)
      · have HR := Lib.hid (HBad.out k _ hs hso)
        have CX := Lib.hid (CS.out x y _ hso)
        clear hs hso HG
        go_wp2_with fail
        refine (CX.out _).mono ?_
        rintro e w1 ⟨rfl, hb1⟩
        have HW1 := Lib.hid (HW.out.trans (hb1.mono HW.out.size))
        clear hb1 c0 c1
        go_wp2_with fail
        go_ret
        exact ⟨ret_bool HR.out.symm, HW1.out⟩
      · have CX := Lib.hid (CS.out x y _ hso)
        have HG2 : Hid ((∀ (i : Nat) (t : Sd), i < k → xs[i]? = some t → t ≠ (x, y)) → goodL (xs.take (k + 1))) := fun hn => good_snoc HG.out hs hso hn
        have HS := Lib.hid hs
        clear hs hso HG
        go_wp2_with fail
        refine (CX.out _).mono ?_
        rintro e w1 ⟨rfl, hb1⟩
        have HW1 := Lib.hid (HW.out.trans (hb1.mono HW.out.size))
        clear hb1 c0 c1 HW
        go_wp2_with fail
        go_loopw [4] (fun i wr => ∃ j : Nat, j ≤ k ∧ i = .int .i64 j ∧ Hid (∀ (i : Nat) (t : Sd), i < j → xs[i]? = some t → t ≠ (x, y)) ∧ Hid (Below w.heap.size w wr)) (fun i _ => k - (intOf i).toNat)
        case atStart => exact ⟨0, Nat.zero_le _, rfl, fun i t h => absurd h (Nat.not_lt_zero _), HW1⟩
        case round =>
          clear HW1
          obtain ⟨j, hj, rfl, HNo, HW⟩ := hrel
          by_cases hjk : j < k
          · have j0 : (0 : Int) ≤ (j : Int) := by omega
            have j1 : (j : Int) < (k : Int) := by omega
            have j2 : (j : Int) < (n : Int) := by omega
            obtain ⟨⟨u, v⟩, ht⟩ : ∃ s, xs[j]? = some s := ⟨_, List.getElem?_eq_getElem (by rw [HN.out]; omega)⟩
            obtain ⟨c0, c1⟩ := HC.out _ HW.out k _ HS.out
            obtain ⟨d0, d1⟩ := HC.out _ HW.out j _ ht
            simp only at c0 c1 d0 d1
            have HNext : Hid ((u, v) ≠ (x, y) → ∀ (i : Nat) (t : Sd), i < j + 1 → xs[i]? = some t → t ≠ (x, y)) := fun hne i t hi hti => by
              rcases Nat.lt_or_ge i j with h' | h'
              · exact HNo.out i t h' hti
              · obtain rfl : i = j := by omega
                rw [ht] at hti; cases hti; exact hne
            have HYes : Hid ((u, v) = (x, y) → R = false) := fun e => HDup.out j k (x, y) (by rw [ht, e]) HS.out hjk
            clear ht HNo
            by_cases e0 : u = x
            · by_cases e1 : v = y
              · have HR := Lib.hid (HYes.out (by rw [e0, e1]))
                clear HYes HNext
                go_wp2_with fail
                go_quiet (fail)
                go_wp2_with fail
                go_ret
                exact ⟨ret_bool HR.out.symm, below_drewN _ HW.out⟩
              · have HR := Lib.hid (HNext.out (fun e => e1 (by injection e)))
                have HW2 := Lib.hid (fun q => below_drewN q HW.out)
                clear HYes HNext
                go_wp2_with fail
                go_quiet (fail)
                go_wp2_with fail
                go_roundw
                case rel => exact ⟨j + 1, by omega, by go_num, HR, HW2.out _⟩
                case measure => simp [intOf]; omega
            · have HR := Lib.hid (HNext.out (fun e => e0 (by injection e)))
              have HW2 := Lib.hid (fun q => below_drewN q HW.out)
              clear HYes HNext
              go_wp2_with fail
              go_quiet (fail)
              go_wp2_with fail
              go_roundw
              case rel => exact ⟨j + 1, by omega, by go_num, HR, HW2.out _⟩
              case measure => simp [intOf]; omega
          · obtain rfl : j = k := by omega
            have HR := Lib.hid (HG2.out HNo.out)
            go_wp2_with fail
            go_roundw
            case rel => exact ⟨j + 1, by omega, by go_num, HR, HW⟩
            case measure => simp [intOf]; omega
    · obtain rfl : k = n := by omega
      have hfull : Hid (xs.take k = xs) := List.take_of_length_le (by rw [HN.out]; exact Nat.le_refl _)
      rw [hfull.out] at HG
      have HR := Lib.hid (HE.out HG.out)
      by_cases h60 : (k : Int) ≤ 60
      · have HR : Hid (R = true) := by unfold Hid; rw [HR.out]; simp; omega
        go_wp2_with fail
        go_ret
        exact ⟨ret_bool (by rw [HR.out]; try simp [h60]), HW.out⟩
      · have HR : Hid (R = false) := by unfold Hid; rw [HR.out]; simp; omega
        go_wp2_with fail
        go_ret
        exact ⟨ret_bool (by rw [HR.out]; try simp [h60]), HW.out⟩
end Go.Proofs.Ytoginbmflomjeaa
