/- Armies of the program: everySoldier, firstSoldiers, LeastArmy, for every int. -/
import Derived.Test.YtoginbmflomjeaaSortN
import Derived.Test.YtoginbmflomjeaaArmyC
import Derived.Test.YtoginbmflomjeaaDrawArmy
namespace Go.Proofs.Ytoginbmflomjeaa
open Go.RowKit
set_option linter.unusedVariables false
set_option linter.unusedSimpArgs false
theorem ev_next (y j : Nat) (hy : y < 9) (hj : j < 17) : evS.take (17 * y + j + 1) = evS.take (17 * y + j) ++ [((j : Int) - 8, (y : Int))] := take_one (ev_at ⟨y, hy⟩ ⟨j, hj⟩)
set_option maxHeartbeats 4000000 in
set_option maxRecDepth 100000 in
theorem implEvery (w : World) : Calls Try.prog 47 #[] w (OwnSolds evS w) := by
  obtain ⟨i0, hi, hz0, hz1, hz2⟩ : ∃ i, Try.prog.info? 37 = some i ∧ i.zero = some (.agg #[.int .i64 0, .int .i64 0]) ∧ i.size = 2 ∧ i.bytes = 16 := ⟨_, by rfl, by rfl, by rfl, by rfl⟩
  have HNX := Lib.hid (fun y j hy hj => ev_next y j hy hj)
  have HLN : Hid (∀ k, k ≤ 153 → (evS.take k).length = k) := fun k hk => by rw [List.length_take, ev_good.2.2]; omega
  have HE : Hid (evS.length = 153) := ev_good.2.2
  obtain ⟨E, hE⟩ : ∃ E, evS = E := ⟨_, rfl⟩
  rw [hE] at HNX HLN HE ⊢
  clear hE
  go_enter Try.func47, Try.ntmps47
  go_wp2_with fail
  have HL1 : Hid ((w.alloc (.cells #[] 37)).ownsRow w.heap.size 37 2 (.slice (some ⟨w.heap.size, 0, none⟩) 0 0) 0 (sv (E.take (17 * 0)))) := by
    rw [Nat.mul_zero, List.take_zero]
    exact World.ownsRow_made w #[] 0 (Nat.le_refl _) (by unfold maxLen; omega) rfl
  have HB1 : Hid (Below w.heap.size w (w.alloc (.cells #[] 37))) := (Below.refl _ _).alloc (Nat.le_refl _) _
  generalize w.alloc (.cells #[] 37) = w1 at *
  go_loopw [1, 5] (fun s i wr => ∃ (y : Nat) (v : Value), y ≤ 9 ∧ i = .int .i64 y ∧ v = s ∧ Hid (wr.ownsRow w.heap.size 37 2 v (17 * y) (sv (E.take (17 * y)))) ∧ Hid (Below w.heap.size w wr)) (fun _ i _ => 9 - (intOf i).toNat)
  case atStart => exact ⟨0, _, by omega, rfl, rfl, HL1, HB1⟩
  case round =>
    clear HL1 HB1
    obtain ⟨y, v, hy, rfl, rfl, HL, HB⟩ := hrel
    by_cases hy9 : y < 9
    · have y0 : (0 : Int) ≤ (y : Int) := by omega
      have y1 : (y : Int) < 9 := by omega
      go_wp2_with fail
      go_loopw [1, 3] (fun s i wr => ∃ (j k : Nat) (x : Int) (v : Value), j ≤ 17 ∧ Hid (17 * y + j = k) ∧ Hid ((j : Int) - 8 = x) ∧ i = .int .i64 x ∧ v = s ∧ Hid (wr.ownsRow w.heap.size 37 2 v k (sv (E.take k))) ∧ Hid (Below w.heap.size w wr)) (fun _ i _ => (9 - intOf i).toNat)
      case atStart => exact ⟨0, 17 * y, -8, v, by omega, rfl, by unfold Hid; omega, rfl, rfl, HL, HB⟩
      case round =>
        clear HL HB
        obtain ⟨j, k, x, v, hj, hk, hx, rfl, rfl, HL, HB⟩ := hrel
        have hk' := hk.out
        have hx' := hx.out
        by_cases hj17 : j < 17
        · have x8 : x ≤ 8 := by omega
          have x9 : -8 ≤ x := by omega
          obtain ⟨x2, hx2⟩ : ∃ x2, x + 1 = x2 := ⟨_, rfl⟩
          have HX2 : Hid ((((j + 1 : Nat) : Int)) - 8 = x2) := by unfold Hid; omega
          have HK2 : Hid (17 * y + (j + 1) = k + 1) := by unfold Hid; omega
          have HT : Hid (E.take (k + 1) = E.take k ++ [(x, (y : Int))]) := by
            have := HNX.out y j hy9 hj17
            rw [hx', hk'] at this
            exact this
          have HLk := Lib.hid (HLN.out k (by omega))
          have hkn : k ≤ 1000000000 := by omega
          have hbz : w.heap.size ≤ wr.heap.size := HB.out.size
          clear hk' hx'
          go_wp2_with (at_builtin; refine wpList_append_sold rfl (.tmp 12) (.tmp 16) 24 rfl w.heap.size 37 i0 (.agg #[.int .i64 0, .int .i64 0]) Try.underlying24 hi hz0 hz1 hz2 rfl _ _ (E.take k) rfl HL.out _ rfl rfl hkn hbz ?_; intro g' cap' w8 hown' hgrow hb2 hat)
          rw [← HT.out] at hown'
          have HL8 := Lib.hid hown'
          have HB8 := Lib.hid (HB.out.trans hb2)
          clear hown' hgrow hb2 hat HL HB
          go_wp2_with fail
          go_roundw
          case rel => exact ⟨j + 1, k + 1, x2, _, by omega, HK2, HX2, by first | rfl | (rw [hx2]), rfl, HL8, HB8⟩
          case measure => simp [intOf]; omega
        · obtain rfl : j = 17 := by omega
          have x8 : ¬ x ≤ 8 := by omega
          have hkk : k = 17 * (y + 1) := by omega
          rw [hkk] at HL
          clear hk' hx' hkk
          go_wp2_with fail
          go_roundw
          case rel => exact ⟨y + 1, _, by omega, by go_num, rfl, HL, HB⟩
          case measure => simp [intOf]; omega
    · obtain rfl : y = 9 := by omega
      have hfull : Hid (E.take (17 * 9) = E) := List.take_of_length_le (by rw [HE.out]; decide)
      rw [hfull.out] at HL
      have hp : Hid (OwnSolds E w (.returned v) wr) := ⟨v, rfl, by rw [HE.out]; exact HL.out, HB.out⟩
      clear HL HB
      go_wp2_with fail
      go_ret
      exact hp.out
/-- A list of 153 soldiers in new memory. -/
def FirstAt (xs : List Sd) (w : World) (e : Ending) (w' : World) : Prop :=
  ∃ g c, e = .returned (.slice (some ⟨g, 0, none⟩) 153 c) ∧ 153 ≤ c ∧ w'.ownsRow w.heap.size 37 2 (.slice (some ⟨g, 0, none⟩) 153 c) 153 (sv xs) ∧ Below w.heap.size w w'
theorem owns_cap {w : World} {B g n c s : Nat} {T : TypeId} {xs : List Value} (h : w.ownsRow B T s (.slice (some ⟨g, 0, none⟩) n c) n xs) : n ≤ c := by
  rcases h.2 with ⟨h1, -⟩ | ⟨g', cap, cur, h1, -, -, h2, -⟩
  · cases h1
  · cases h1; exact h2
set_option maxRecDepth 100000 in
theorem implFirst (L : Int) (w : World) : Calls Try.prog 32 #[.int .i64 L] w (FirstAt (firstS L) w) := by
  have CE := Lib.hid (fun w => implEvery w)
  have CS := Lib.hid (fun B g c p w0 xs w h => implSort (B := B) (g := g) (n := 153) (c := c) (p := p) (L := L) (w0 := w0) (by omega) xs w h)
  have HR := Lib.hid (stab_first L)
  have HE : Hid (evS.length = 153) := ev_good.2.2
  generalize evS = E at *
  generalize firstS L = R at *
  unfold CmpV at CS
  go_enter Try.func32, Try.ntmps32
  go_wp2_with fail
  have HP1 : Hid ((w.alloc (.cells #[.int .i64 L] 3)).heap[w.heap.size]? = some (.cells #[.int .i64 L] 3 (0, 0))) := heap_alloc_new w _
  have HB1 : Hid (Below w.heap.size w (w.alloc (.cells #[.int .i64 L] 3))) := (Below.refl _ _).alloc (Nat.le_refl _) _
  have hsz : (w.alloc (.cells #[.int .i64 L] 3)).heap.size = w.heap.size + 1 := by simp
  generalize w.alloc (.cells #[.int .i64 L] 3) = w1 at *
  refine (CE.out _).mono ?_
  rintro e w2 ⟨v, rfl, ho, hb⟩
  rw [HE.out] at ho
  obtain ⟨g, c, rfl⟩ : ∃ g c, v = .slice (some ⟨g, 0, none⟩) 153 c := by
    rcases Go.Joins.ownsRow_forms ho with ⟨rfl, h2⟩ | ⟨g, cap, rfl⟩
    · cases h2
    · exact ⟨_, _, rfl⟩
  have hlt := ho.lt g rfl
  have HS2 : Hid (SRow w1.heap.size g 153 c w.heap.size L E w2 w2) := ⟨HE.out, ho, closed_row _ _ _ _ HP1.out hb, by omega, World.grownBy.refl _ _⟩
  have HB2 := Lib.hid (HB1.out.trans (hb.mono HB1.out.size))
  have CX := Lib.hid (CS.out _ _ _ _ _ _ _ HS2.out)
  rw [HR.out] at CX
  have hgw : w.heap.size ≤ g := by omega
  have hws : w.heap.size ≤ w1.heap.size := by omega
  clear ho hb hlt HP1 HB1 HS2 hsz
  go_wp2_with fail
  refine CX.out.mono ?_
  rintro e w3 ⟨rfl, h3⟩
  have HP : Hid (FirstAt R w (.returned (.slice (some ⟨g, 0, none⟩) 153 c)) w3) := ⟨g, c, rfl, owns_cap h3.2.1, own_base h3.2.1 hws, HB2.out.grown h3.2.2.2.2 HB2.out.size (fun j hj => by cases hj; exact hgw)⟩
  clear h3
  go_wp2_with fail
  go_ret
  exact HP.out
theorem solds_take {w : World} {a : Option Addr} {n m : Nat} {xs : List Sd} (h : SoldsAt w a n xs) (hm : m ≤ n) : SoldsAt w a m (xs.take m) := by
  refine ⟨by rw [List.length_take, h.1]; omega, ?_⟩
  rcases h.2 with h0 | ⟨b, off, ha, hb, hc⟩
  · left; omega
  · right
    refine ⟨b, off, ha, hb, fun k s hk => hc k s ?_⟩
    rw [List.getElem?_take] at hk
    split at hk
    · exact hk
    · cases hk
set_option maxHeartbeats 4000000 in
set_option maxRecDepth 100000 in
theorem implLeast (L : Int) (w : World) : Calls Try.prog 13 #[.int .i64 L] w (GI (leastB L) w) := by
  have CF := Lib.hid (fun w => implFirst L w)
  have HM := Lib.hid (fun (n : Nat) (hn : n ≤ 60) => first_may L hn)
  have HLen : Hid ((firstS L).length = 153) := first_len L
  have CM := Lib.hid (fun (a : Option Addr) (n c : Nat) (xs : List Sd) w hx h => implMayReach (a := a) (n := n) (c := c) (xs := xs) L w hx h)
  have HA : Hid (leastB L = -1 ∨ (0 ≤ leastB L ∧ leastB L ≤ 60)) := by
    unfold Hid leastB
    repeat' split
    all_goals simp
  generalize leastB L = A at *
  generalize firstS L = R at *
  go_enter Try.func13, Try.ntmps13
  go_wp2_with fail
  refine (CF.out _).mono ?_
  rintro e w1 ⟨g, c, rfl, hc, ho, hb⟩
  have HS1 := Lib.hid (solds_own ho HLen.out)
  have HB1 := Lib.hid hb
  clear ho hb CF
  go_wp2_with fail
  go_loopw [7] (fun i wr => ∃ k : Nat, k ≤ 61 ∧ i = .int .i64 k ∧ Hid (A = -1 ∨ (k : Int) ≤ A) ∧ Hid (SoldsAt wr (some ⟨g, 0, none⟩) 153 R) ∧ Hid (Below w.heap.size w wr)) (fun i _ => 61 - (intOf i).toNat)
  case atStart => exact ⟨0, by omega, rfl, HA.out.imp id (fun h => h.1), HS1, HB1⟩
  case round =>
    clear HS1 HB1
    obtain ⟨k, hk, rfl, HK, HS, HB⟩ := hrel
    by_cases hk61 : k < 61
    · have k0 : (0 : Int) ≤ (k : Int) := by omega
      have k1 : (k : Int) < 61 := by omega
      have k2 : (k : Int) ≤ (c : Int) := by omega
      have k3 : k ≤ c := by omega
      have HR : Hid (mayB (R.take k) L = decide (A = (k : Int))) := by
        have hK := HK.out
        have hA := HA.out
        rcases HM.out k (by omega) with h | h
        · unfold Hid
          rw [h, decide_eq_decide]
          omega
        · omega
      have CX := Lib.hid (fun c' => CM.out (some ⟨g, 0, none⟩) k c' (R.take k) wr (by omega) (solds_take HS.out (by omega)))
      rw [HR.out] at CX
      by_cases hAk : A = (k : Int)
      · rw [decide_eq_true hAk] at CX
        have HAk := Lib.hid hAk
        clear HR hAk HM HK HA
        go_wp2_with fail
        refine (CX.out _).mono ?_
        rintro e w2 ⟨rfl, hb⟩
        have HB2 := Lib.hid (HB.out.trans (hb.mono HB.out.size))
        clear hb
        go_wp2_with fail
        go_ret
        exact ⟨ret_int HAk.out.symm, HB2.out⟩
      · rw [decide_eq_false hAk] at CX
        have HK2 : Hid (A = -1 ∨ ((k + 1 : Nat) : Int) ≤ A) := by have := HK.out; unfold Hid; omega
        clear HR hAk HK
        go_wp2_with fail
        refine (CX.out _).mono ?_
        rintro e w2 ⟨rfl, hb⟩
        have HS2 := Lib.hid (HS.out.later hb)
        have HB2 := Lib.hid (HB.out.trans (hb.mono HB.out.size))
        clear hb CX HS
        go_wp2_with fail
        go_roundw
        case rel => exact ⟨k + 1, by omega, by go_num, HK2, HS2, HB2⟩
        case measure => simp [intOf]; omega
    · obtain rfl : k = 61 := by omega
      have hA : Hid (A = -1) := by have := HK.out; have := HA.out; unfold Hid; omega
      go_wp2_with fail
      go_ret
      exact ⟨ret_int hA.out.symm, HB.out⟩
end Go.Proofs.Ytoginbmflomjeaa
