/- Armies of the program: isBelowBorder, ArmyOk, WeightTo, ArmySum, MayReach, for every slice of at most 1048576 soldiers and every int. -/
import Derived.Test.YtoginbmflomjeaaArmyB
import Derived.Test.YtoginbmflomjeaaMapKit
import Derived.Test.YtoginbmflomjeaaBoards
namespace Go.Proofs.Ytoginbmflomjeaa
open Go.RowKit
set_option linter.unusedVariables false
set_option linter.unusedSimpArgs false
set_option maxRecDepth 100000 in
theorem implBelow (x y : Int) (w : World) : Calls Try.prog 38 #[.agg #[.int .i64 x, .int .i64 y]] w (GB (soldB (x, y)) w) := by
  by_cases h1 : -8 ≤ x <;> by_cases h2 : x ≤ 8 <;> by_cases h3 : 0 ≤ y <;> by_cases h4 : y ≤ 8
  all_goals try (exfalso; omega)
  all_goals
    go_enter Try.func38, Try.ntmps38
    go_wp2_with fail
    go_ret
    refine ⟨ret_bool ?_, (Below.refl _ _).alloc (Nat.le_refl _) _⟩
    simp [soldB, inB, h1, h2, h3, h4]
theorem implBelow_is {x y : Int} {b : Bool} (h : soldB (x, y) = b) (w : World) : Calls Try.prog 38 #[.agg #[.int .i64 x, .int .i64 y]] w (GB b w) := by rw [← h]; exact implBelow x y w
theorem key_sold : KeyRun Try.prog 37 (fun s : Sd => Value.agg #[.int .i64 s.1, .int .i64 s.2]) := key_two Try.underlying37 (by kernel_rfl) (by decide) (by decide) rfl rfl (by kernel_rfl) (by kernel_rfl)
abbrev SoldMap (w : World) (b : Nat) (l : List (Sd × Bool)) : Prop := MapAt (fun s : Sd => Value.agg #[.int .i64 s.1, .int .i64 s.2]) Value.bool w b l
theorem zero_bool (w : World) : (zeroValue 4).run Try.prog w = .ok (.bool false) w := by kernel_rfl
/-- All that have come wait. -/
def Waits (l : List (Sd × Bool)) (P : Sd → Prop) : Prop := (l.map (·.1)).Nodup ∧ ∀ s, (P s → getM l s = some true) ∧ (¬ P s → getM l s = none)
theorem Waits.put {l : List (Sd × Bool)} {P Q : Sd → Prop} {x : Sd} (h : Waits l P) (hq : ∀ s, Q s ↔ P s ∨ s = x) : Waits (putM l x true) Q := by
  refine ⟨nodup_put h.1 x true, fun s => ?_⟩
  rw [getM_put, hq]
  by_cases hs : s = x
  · rw [if_pos hs]; exact ⟨fun _ => rfl, fun hn => absurd (.inr hs) hn⟩
  · rw [if_neg hs]
    exact ⟨fun hp => (h.2 s).1 (hp.resolve_right hs), fun hn => (h.2 s).2 (fun hp => hn (.inl hp))⟩
theorem Waits.del {l : List (Sd × Bool)} {P Q : Sd → Prop} {x : Sd} (h : Waits l P) (hq : ∀ s, Q s ↔ P s ∧ s ≠ x) : Waits (delM l x) Q := by
  refine ⟨nodup_del h.1 x, fun s => ?_⟩
  rw [getM_del h.1, hq]
  by_cases hs : s = x
  · rw [if_pos hs]; exact ⟨fun hp => absurd hs hp.2, fun _ => rfl⟩
  · rw [if_neg hs]
    exact ⟨fun hp => (h.2 s).1 hp.1, fun hn => (h.2 s).2 (fun hp => hn ⟨hp, hs⟩)⟩
theorem mem_snoc {α : Type} {xs : List α} {k : Nat} {s : α} (hk : xs[k]? = some s) (t : α) : t ∈ xs.take (k + 1) ↔ t ∈ xs.take k ∨ t = s := by
  rw [take_one hk, List.mem_append, List.mem_singleton]
set_option maxHeartbeats 4000000 in
set_option maxRecDepth 100000 in
theorem implArmyOk {a : Option Addr} {n c : Nat} {xs : List Sd} (w : World) (hx : n ≤ 1048576) (h : SoldsAt w a n xs) : Calls Try.prog 18 #[.slice a n c] w (GB (armyB xs) w) := by
  have HN := Lib.hid h.1
  have HA := Lib.hid h
  by_cases h60 : (n : Int) ≤ 60
  rotate_left
  · have HR : Hid (armyB xs = false) := by unfold Hid armyB; rw [HN.out]; simp; omega
    have h61 : (60 : Int) < n := by omega
    clear h h60
    go_enter Try.func18, Try.ntmps18
    go_wp2_with fail
    go_ret
    exact ⟨ret_bool HR.out.symm, Below.refl _ _⟩
  have h61 : ¬ (60 : Int) < n := by omega
  have hmm := @run_makeMap Try.prog
  have HE := Lib.hid (fun (hg : goodL xs) => good_army hg)
  have HBad := Lib.hid (fun (k : Nat) (s : Sd) (hk : xs[k]? = some s) (hs : soldB s = false) => army_bad hk hs)
  have HDup := Lib.hid (fun (i k : Nat) (s : Sd) (hi : xs[i]? = some s) (hk : xs[k]? = some s) (hik : i < k) => army_dup hi hk hik)
  have CS := Lib.hid (fun x y b (h : soldB (x, y) = b) w => implBelow_is h w)
  rw [HN.out] at HE
  have h60' : n ≤ 60 := by omega
  have HE2 : Hid (goodL xs → armyB xs = true) := fun hg => by rw [HE.out hg]; exact decide_eq_true h60'
  clear HE
  generalize armyB xs = R at *
  clear h h60
  go_enter Try.func18, Try.ntmps18
  go_wp2_with fail
  have M0 : Hid (SoldMap (w.alloc (.map #[] 0)) w.heap.size []) := MapAt.made (α := Sd) (fun s : Sd => Value.agg #[.int .i64 s.1, .int .i64 s.2]) Value.bool w
  have B0 : Hid (Below w.heap.size w (w.alloc (.map #[] 0))) := (Below.refl _ _).alloc (Nat.le_refl _) _
  generalize w.alloc (.map #[] 0) = W1 at *
  obtain ⟨q, hq⟩ : ∃ q, w.heap.size = q := ⟨_, rfl⟩
  have HQ := Lib.hid hq
  rw [hq] at M0
  rw [hq]
  clear hq
  go_loopw [14] (fun i wr => ∃ (k : Nat) (l : List (Sd × Bool)), k ≤ n ∧ i = .int .i64 k ∧ Hid (Waits l (fun s => s ∈ xs.take k)) ∧ Hid (SoldMap wr q l) ∧ Hid (Below w.heap.size w wr)) (fun i _ => n - (intOf i).toNat)
  case atStart => exact ⟨0, [], Nat.zero_le _, rfl, ⟨List.Pairwise.nil, fun s => ⟨fun h => absurd h (by simp), fun _ => rfl⟩⟩, M0, B0⟩
  case round =>
    clear M0 B0
    obtain ⟨k, l, hk, rfl, HV, HM, HW⟩ := hrel
    by_cases hkn : k < n
    · have k0 : (0 : Int) ≤ (k : Int) := by omega
      have k1 : (k : Int) < (n : Int) := by omega
      obtain ⟨⟨x, y⟩, hs⟩ : ∃ s, xs[k]? = some s := ⟨_, List.getElem?_eq_getElem (by rw [HN.out]; exact hkn)⟩
      obtain ⟨b, off, rfl, hb, hc⟩ := (HA.out.later HW.out).cell hkn
      obtain ⟨c0, c1⟩ := hc k _ hs
      simp only at c0 c1
      have HV2 := Lib.hid (HV.out.put (Q := fun s => s ∈ xs.take (k + 1)) (x := (x, y)) (fun s => mem_snoc hs s))
      have hba : Below wr.heap.size wr (wr.alloc (.cells #[.int .i64 x, .int .i64 y] 37)) := (Below.refl _ _).alloc (Nat.le_refl _) _
      have HM1 := Lib.hid (HM.out.later hba)
      have HW1 := Lib.hid (HW.out.trans (hba.mono HW.out.size))
      have HQ0 : Hid (Bg 37 wr.heap.size x y (wr.alloc (.cells #[.int .i64 x, .int .i64 y] 37))) := heap_alloc_new wr _
      obtain ⟨d0, d1, -, -⟩ := two_facts HQ0.out
      have hqw : Hid (w.heap.size ≤ q) := by unfold Hid; rw [HQ.out]; exact Nat.le_refl _
      clear hs hc HV HM HW
      go_wp2_with (at_mapUpdate; refine wpList_put rfl _ _ _ 59 rfl HM1.out key_sold Try.underlying59 rfl (x, y) rfl true rfl ?_; intro w5 hm5 hg5)
      have HM5 := Lib.hid hm5
      have HW5 : Hid (Below w.heap.size w w5) := HW1.out.grown hg5 HW1.out.size (fun j hj => by cases hj; exact hqw.out)
      clear hm5 hg5
      go_wp2_with fail
      go_roundw
      case rel => exact ⟨k + 1, _, by omega, by go_num, HV2, HM5, HW5⟩
      case measure => simp [intOf]; omega
    · obtain rfl : k = n := by omega
      have hfull : Hid (xs.take k = xs) := List.take_of_length_le (by rw [HN.out]; exact Nat.le_refl _)
      rw [hfull.out] at HV
      have HV1 : Hid (Waits l (fun s => s ∈ xs ∧ s ∉ xs.take 0)) := ⟨HV.out.1, fun s => ⟨fun h => (HV.out.2 s).1 h.1, fun h => (HV.out.2 s).2 (fun hs => h ⟨hs, by simp⟩)⟩⟩
      clear HV
      go_wp2_with fail
      go_loopw [23] (fun i wr => ∃ (j : Nat) (l : List (Sd × Bool)), j ≤ k ∧ i = .int .i64 j ∧ Hid (goodL (xs.take j)) ∧ Hid (Waits l (fun s => s ∈ xs ∧ s ∉ xs.take j)) ∧ Hid (SoldMap wr q l) ∧ Hid (Below w.heap.size w wr)) (fun i _ => k - (intOf i).toNat)
      case atStart => exact ⟨0, l, Nat.zero_le _, rfl, by unfold Hid; rw [List.take_zero]; exact good_nil, HV1, HM, HW⟩
      case round =>
        clear HV1 HM HW
        obtain ⟨j, l, hj, rfl, HG, HV, HM, HW⟩ := hrel
        by_cases hjn : j < k
        · have j0 : (0 : Int) ≤ (j : Int) := by omega
          have j1 : (j : Int) < (k : Int) := by omega
          obtain ⟨⟨x, y⟩, hs⟩ : ∃ s, xs[j]? = some s := ⟨_, List.getElem?_eq_getElem (by rw [HN.out]; exact hjn)⟩
          obtain ⟨b, off, rfl, hb, hc⟩ := (HA.out.later HW.out).cell hjn
          obtain ⟨c0, c1⟩ := hc j _ hs
          simp only at c0 c1
          have hba : Below wr.heap.size wr (wr.alloc (.cells #[.int .i64 x, .int .i64 y] 37)) := (Below.refl _ _).alloc (Nat.le_refl _) _
          have HM1 := Lib.hid (HM.out.later hba)
          have HW1 := Lib.hid (HW.out.trans (hba.mono HW.out.size))
          have HQ0 : Hid (Bg 37 wr.heap.size x y (wr.alloc (.cells #[.int .i64 x, .int .i64 y] 37))) := heap_alloc_new wr _
          obtain ⟨d0, d1, -, -⟩ := two_facts HQ0.out
          have hqw : Hid (w.heap.size ≤ q) := by unfold Hid; rw [HQ.out]; exact Nat.le_refl _
          cases hso : soldB (x, y)
          · have HR := Lib.hid (HBad.out j _ hs hso)
            have CX := Lib.hid (CS.out x y _ hso)
            clear hs hc hso HG HV HM HW
            go_wp2_with fail
            generalize wr.alloc (.cells #[.int .i64 x, .int .i64 y] 37) = w3 at *
            refine (CX.out _).mono ?_
            rintro e w4 ⟨rfl, hb4⟩
            have HW4 := Lib.hid (HW1.out.trans (hb4.mono HW1.out.size))
            clear hb4 d0 d1 hba HQ0 c0 c1
            go_wp2_with fail
            go_ret
            exact ⟨ret_bool HR.out.symm, HW4.out⟩
          · have CX := Lib.hid (CS.out x y _ hso)
            have hmem : (x, y) ∈ xs := List.mem_of_getElem? hs
            by_cases hd : (x, y) ∈ xs.take j
            · have HR : Hid (R = false) := by
                obtain ⟨i, hi⟩ := List.mem_iff_getElem?.1 hd
                have hij : i < j := by
                  have := (List.getElem?_eq_some_iff.1 hi).1
                  rw [List.length_take] at this; omega
                rw [List.getElem?_take, if_pos hij] at hi
                exact HDup.out i j _ hi hs hij
              have hget : Hid (getM l (x, y) = none) := (HV.out.2 (x, y)).2 (fun h => h.2 hd)
              clear hs hc hso HG HV HM HW hd hmem
              go_wp2_with fail
              generalize wr.alloc (.cells #[.int .i64 x, .int .i64 y] 37) = w3 at *
              generalize wr.heap.size = p at *
              refine (CX.out _).mono ?_
              rintro e w4 ⟨rfl, hb4⟩
              have HW4 := Lib.hid (HW1.out.trans (hb4.mono HW1.out.size))
              have hlk := (HM1.out.later hb4).look false key_sold Try.underlying59 (zero_bool w4) (x, y)
              rw [hget.out] at hlk
              simp only [Bool.false_eq_true, if_false, Option.map_none, Option.getD_none] at hlk
              obtain ⟨d0, d1, -, -⟩ := two_facts (HQ0.out.later hb4)
              clear hb4 hba HQ0 c0 c1
              go_wp2_with fail
              go_ret
              exact ⟨ret_bool HR.out.symm, HW4.out⟩
            · have hget : Hid (getM l (x, y) = some true) := (HV.out.2 (x, y)).1 ⟨hmem, hd⟩
              have HV2 := Lib.hid (HV.out.del (Q := fun s => s ∈ xs ∧ s ∉ xs.take (j + 1)) (x := (x, y)) (fun s => by rw [mem_snoc hs s, not_or, and_assoc]))
              have HG2 := Lib.hid (good_snoc HG.out hs hso (fun i t hi ht he => hd (by
                rw [← he]
                exact List.mem_iff_getElem?.2 ⟨i, by rw [List.getElem?_take, if_pos hi]; exact ht⟩)))
              clear hs hc hso HG HV HM HW hd hmem
              go_wp2_with fail
              generalize wr.alloc (.cells #[.int .i64 x, .int .i64 y] 37) = w3 at *
              generalize wr.heap.size = p at *
              refine (CX.out _).mono ?_
              rintro e w4 ⟨rfl, hb4⟩
              have HW4 := Lib.hid (HW1.out.trans (hb4.mono HW1.out.size))
              have HM4 := Lib.hid (HM1.out.later hb4)
              have hlk := HM4.out.look false key_sold Try.underlying59 (zero_bool w4) (x, y)
              rw [hget.out] at hlk
              simp only [Bool.false_eq_true, if_false, Option.map_some, Option.getD_some] at hlk
              obtain ⟨d0, d1, -, -⟩ := two_facts (HQ0.out.later hb4)
              clear hb4 hba HQ0 c0 c1
              go_wp2_with (at_delete; refine wpList_del rfl _ _ 59 37 rfl HM4.out key_sold Try.underlying59 rfl (x, y) rfl ?_; intro w5 hm5 hg5)
              have HM5 := Lib.hid hm5
              have HW5 : Hid (Below w.heap.size w w5) := HW4.out.grown hg5 HW4.out.size (fun j hj => by cases hj; exact hqw.out)
              clear hm5 hg5 hlk d0 d1
              go_wp2_with fail
              go_roundw
              case rel => exact ⟨j + 1, _, by omega, by go_num, HG2, HV2, HM5, HW5⟩
              case measure => simp [intOf]; omega
        · obtain rfl : j = k := by omega
          rw [hfull.out] at HG
          have HR := Lib.hid (HE2.out HG.out)
          clear HV HM
          go_wp2_with fail
          go_ret
          exact ⟨ret_bool HR.out.symm, HW.out⟩
/-- A golden number stored into a soldier's and a result's block. -/
def putG (w : World) (q : Nat) (x y : Int) : World := (w.setCell ⟨q, 0, none⟩ (.int .i64 x)).setCell ⟨q, 1, none⟩ (.int .i64 y)
theorem BxS.set {x y u v p q : Int} {w0 w : World} (h : BxS x y u v w0 w) : BxS x y p q w0 (putG w (w0.heap.size + 1) p q) := ⟨bg_other h.1 (by omega), bg_set h.2.1, set_below (set_below h.2.2 (by omega)) (by omega)⟩
set_option maxHeartbeats 4000000 in
set_option maxRecDepth 100000 in
theorem implWeightTo (x y L : Int) (w : World) : Calls Try.prog 17 #[.agg #[.int .i64 x, .int .i64 y], .int .i64 L] w (GQ (wtB (x, y) L).1 (wtB (x, y) L).2 w) := by
  have CS := Lib.hid (fun (b : Bool) (h : soldB (x, y) = b) w => implBelow_is h w)
  cases hs : soldB (x, y)
  · have HG := Lib.hid (wt_no (s := (x, y)) (L := L) (by rw [hs]; rfl))
    have CX := Lib.hid (CS.out _ hs)
    clear hs
    go_enter Try.func17, Try.ntmps17
    go_wp2_with fail
    have B0 := Lib.hid (bxs_new x y 0 0 w)
    generalize (w.alloc (.cells #[.int .i64 x, .int .i64 y] 37)).alloc (.cells #[.int .i64 0, .int .i64 0] 31) = W1 at *
    obtain ⟨k0, k1, -, -⟩ := two_facts B0.out.1
    go_wp2_with fail
    refine (CX.out _).mono ?_
    rintro e w1 ⟨rfl, hb⟩
    have B1 := Lib.hid (B0.out.later hb)
    clear hb B0 k0 k1
    obtain ⟨z0, z1, f0, f1⟩ := two_facts B1.out.2.1
    go_wp2_with fail
    exact bodyPost_ret (v := .agg #[.int .i64 0, .int .i64 0]) (by simp [results, Try.results17, go_sem, z0, z1]) rfl ⟨by rw [HG.out], set_below (set_below B1.out.2.2 (by omega)) (by omega)⟩
  have CX := Lib.hid (CS.out _ hs)
  cases hl : inB L 1 5
  · have HG := Lib.hid (wt_no (s := (x, y)) (L := L) (by rw [hs, hl]; rfl))
    have hL : L < 1 ∨ (1 ≤ L ∧ 5 < L) := by
      simp only [inB, Bool.and_eq_false_iff, decide_eq_false_iff_not] at hl
      omega
    clear hs hl
    rcases hL with l1 | ⟨l1, l2⟩
    all_goals
      go_enter Try.func17, Try.ntmps17
      go_wp2_with fail
      have B0 := Lib.hid (bxs_new x y 0 0 w)
      generalize (w.alloc (.cells #[.int .i64 x, .int .i64 y] 37)).alloc (.cells #[.int .i64 0, .int .i64 0] 31) = W1 at *
      obtain ⟨k0, k1, -, -⟩ := two_facts B0.out.1
      go_wp2_with fail
      refine (CX.out _).mono ?_
      rintro e w1 ⟨rfl, hb⟩
      have B1 := Lib.hid (B0.out.later hb)
      clear hb B0 k0 k1
      obtain ⟨z0, z1, f0, f1⟩ := two_facts B1.out.2.1
      go_wp2_with fail
      exact bodyPost_ret (v := .agg #[.int .i64 0, .int .i64 0]) (by simp [results, Try.results17, go_sem, z0, z1]) rfl ⟨by rw [HG.out], set_below (set_below B1.out.2.2 (by omega)) (by omega)⟩
  · have HG : Hid (wtB (x, y) L = powG ((x.natAbs : Int) + y + L)) := by unfold Hid wtB; rw [hs, hl]; rfl
    obtain ⟨⟨x0, x1⟩, y0, y1⟩ := sold_yes hs
    have hl' : 1 ≤ L ∧ L ≤ 5 := by simpa [inB] using hl
    obtain ⟨l0, l1⟩ := hl'
    have CP := Lib.hid (fun n w => implPowerOf n w)
    have CM := Lib.hid (fun w => implMagn x (by simp only at x0 x1; omega) w)
    simp only at x0 x1 y0 y1
    obtain ⟨m, hm⟩ : ∃ m : Int, (x.natAbs : Int) = m := ⟨_, rfl⟩
    have hm0 : 0 ≤ m := by omega
    have hm1 : m ≤ 8 := by omega
    rw [hm] at HG CM
    obtain ⟨⟨u, v⟩, hu⟩ : ∃ r, powG (m + y + L) = r := ⟨_, rfl⟩
    have CP2 := Lib.hid (fun w => CP.out (m + y + L) w)
    rw [hu] at CP2
    have HG2 := Lib.hid (HG.out.trans hu)
    clear hs hl hm HG hu CP
    have nl1 : ¬ L < 1 := by omega
    have nl2 : ¬ 5 < L := by omega
    have hw1 : IntKind.i64.wrap (m + y) = m + y := IntWalk.i64_in _ (by omega)
    have hw2 : IntKind.i64.wrap (m + y + L) = m + y + L := IntWalk.i64_in _ (by omega)
    go_enter Try.func17, Try.ntmps17
    go_wp2_with fail
    have B0 := Lib.hid (bxs_new x y 0 0 w)
    generalize (w.alloc (.cells #[.int .i64 x, .int .i64 y] 37)).alloc (.cells #[.int .i64 0, .int .i64 0] 31) = W1 at *
    obtain ⟨k0, k1, -, -⟩ := two_facts B0.out.1
    go_wp2_with fail
    refine (CX.out _).mono ?_
    rintro e w1 ⟨rfl, hb⟩
    have B1 := Lib.hid (B0.out.later hb)
    clear hb B0 k0 k1
    go_wp2_with fail
    refine wp_region_script (by kernel_rfl) (by kernel_rfl) ?_
    refine Script.load (i := 0) (v := ?_) rfl (by kernel_rfl) (by kernel_rfl) (fun _ _ _ h => h) (by kernel_rfl) ?_ ?_
    rotate_left
    · (intro wS hSw; have hF := B1.out.later (After.trans (After.drew (After.refl _)) hSw); obtain ⟨k0, k1, -, -⟩ := two_facts hF.1; obtain ⟨z0, z1, f0, f1⟩ := two_facts hF.2.1; go_simp; try with_reducible rfl)
    try simp only [Act.put, List.getElem_toArray, List.getElem_cons_succ, List.getElem_cons_zero, List.setIfInBounds_toArray, List.set_cons_zero, List.set_cons_succ]
    refine Script.load (i := 1) (v := ?_) rfl (by kernel_rfl) (by kernel_rfl) (fun _ _ _ h => h) (by kernel_rfl) ?_ ?_
    rotate_left
    · (intro wS hSw; have hF := B1.out.later (After.trans (After.drew (After.refl _)) hSw); obtain ⟨k0, k1, -, -⟩ := two_facts hF.1; obtain ⟨z0, z1, f0, f1⟩ := two_facts hF.2.1; go_simp; try with_reducible rfl)
    try simp only [Act.put, List.getElem_toArray, List.getElem_cons_succ, List.getElem_cons_zero, List.setIfInBounds_toArray, List.set_cons_zero, List.set_cons_succ]
    refine Script.call (i := 2) (v := ?_) rfl (by kernel_rfl) (by kernel_rfl) (fun _ _ _ h => h) (by kernel_rfl) ?_ ?_
    rotate_left
    · (intro wS hSw K hK; have hF := B1.out.later (After.trans (After.drew (After.refl _)) hSw); obtain ⟨k0, k1, -, -⟩ := two_facts hF.1; obtain ⟨z0, z1, f0, f1⟩ := two_facts hF.2.1; go_simp; go_at_call 39; refine (CM.out _).mono ?_; rintro e wc ⟨rfl, rfl⟩; have hbc := Below.refl wS.heap.size wS; exact hK.out _ hbc)
    try simp only [Act.put, List.getElem_toArray, List.getElem_cons_succ, List.getElem_cons_zero, List.setIfInBounds_toArray, List.set_cons_zero, List.set_cons_succ]
    refine Script.load (i := 3) (v := ?_) rfl (by kernel_rfl) (by kernel_rfl) (fun _ _ _ h => h) (by kernel_rfl) ?_ ?_
    rotate_left
    · (intro wS hSw; have hF := B1.out.later (After.trans (After.drew (After.refl _)) hSw); obtain ⟨k0, k1, -, -⟩ := two_facts hF.1; obtain ⟨z0, z1, f0, f1⟩ := two_facts hF.2.1; go_simp; try with_reducible rfl)
    try simp only [Act.put, List.getElem_toArray, List.getElem_cons_succ, List.getElem_cons_zero, List.setIfInBounds_toArray, List.set_cons_zero, List.set_cons_succ]
    refine Script.load (i := 4) (v := ?_) rfl (by kernel_rfl) (by kernel_rfl) (fun _ _ _ h => h) (by kernel_rfl) ?_ ?_
    rotate_left
    · (intro wS hSw; have hF := B1.out.later (After.trans (After.drew (After.refl _)) hSw); obtain ⟨k0, k1, -, -⟩ := two_facts hF.1; obtain ⟨z0, z1, f0, f1⟩ := two_facts hF.2.1; go_simp; try with_reducible rfl)
    try simp only [Act.put, List.getElem_toArray, List.getElem_cons_succ, List.getElem_cons_zero, List.setIfInBounds_toArray, List.set_cons_zero, List.set_cons_succ]
    refine Script.load (i := 5) (v := ?_) rfl (by kernel_rfl) (by kernel_rfl) (fun _ _ _ h => h) (by kernel_rfl) ?_ ?_
    rotate_left
    · (intro wS hSw; have hF := B1.out.later (After.trans (After.drew (After.refl _)) hSw); obtain ⟨k0, k1, -, -⟩ := two_facts hF.1; obtain ⟨z0, z1, f0, f1⟩ := two_facts hF.2.1; go_simp; try with_reducible rfl)
    try simp only [Act.put, List.getElem_toArray, List.getElem_cons_succ, List.getElem_cons_zero, List.setIfInBounds_toArray, List.set_cons_zero, List.set_cons_succ]
    refine Script.load (i := 6) (v := ?_) rfl (by kernel_rfl) (by kernel_rfl) (fun _ _ _ h => h) (by kernel_rfl) ?_ ?_
    rotate_left
    · (intro wS hSw; have hF := B1.out.later (After.trans (After.drew (After.refl _)) hSw); obtain ⟨k0, k1, -, -⟩ := two_facts hF.1; obtain ⟨z0, z1, f0, f1⟩ := two_facts hF.2.1; go_simp; try with_reducible rfl)
    try simp only [Act.put, List.getElem_toArray, List.getElem_cons_succ, List.getElem_cons_zero, List.setIfInBounds_toArray, List.set_cons_zero, List.set_cons_succ]
    refine Script.load (i := 7) (v := ?_) rfl (by kernel_rfl) (by kernel_rfl) (fun _ _ _ h => h) (by kernel_rfl) ?_ ?_
    rotate_left
    · (intro wS hSw; have hF := B1.out.later (After.trans (After.drew (After.refl _)) hSw); obtain ⟨k0, k1, -, -⟩ := two_facts hF.1; obtain ⟨z0, z1, f0, f1⟩ := two_facts hF.2.1; go_simp; try with_reducible rfl)
    try simp only [Act.put, List.getElem_toArray, List.getElem_cons_succ, List.getElem_cons_zero, List.setIfInBounds_toArray, List.set_cons_zero, List.set_cons_succ]
    refine Script.call (i := 8) (v := ?_) rfl (by kernel_rfl) (by kernel_rfl) (fun _ _ _ h => h) (by kernel_rfl) ?_ ?_
    rotate_left
    · (intro wS hSw K hK; have hF := B1.out.later (After.trans (After.drew (After.refl _)) hSw); obtain ⟨k0, k1, -, -⟩ := two_facts hF.1; obtain ⟨z0, z1, f0, f1⟩ := two_facts hF.2.1; go_simp; go_at_call 31; refine (CP2.out _).mono ?_; rintro e wc ⟨rfl, hbc⟩; exact hK.out _ hbc)
    try simp only [Act.put, List.getElem_toArray, List.getElem_cons_succ, List.getElem_cons_zero, List.setIfInBounds_toArray, List.set_cons_zero, List.set_cons_succ]
    refine Script.last (i := 9) rfl (by kernel_rfl) (by kernel_rfl) (by kernel_rfl) ?_
    intro wO hO hGO K hK; have hSw := hO; have hF := B1.out.later (After.trans (After.drew (After.refl _)) hSw); obtain ⟨k0, k1, -, -⟩ := two_facts hF.1; obtain ⟨z0, z1, f0, f1⟩ := two_facts hF.2.1; go_simp
    clear hSw
    refine hK.out undef _ ?_
    clear hK K
    try simp only [Act.put, List.getElem_toArray, List.getElem_cons_succ, List.getElem_cons_zero, List.setIfInBounds_toArray, List.set_cons_zero, List.set_cons_succ]
    refine Script.done (by kernel_rfl) ?_
    intro wD hD hG
    have B3 := Lib.hid ((B1.out.later (After.trans (After.drew (After.refl _)) hO)).set (p := u) (q := v) |>.later hD)
    clear B1 hO hD hG
    obtain ⟨z0, z1, f0, f1⟩ := two_facts B3.out.2.1
    go_wp2_with fail
    exact bodyPost_ret (v := .agg #[.int .i64 u, .int .i64 v]) (by simp [results, Try.results17, go_sem, z0, z1]) rfl ⟨by rw [HG2.out], B3.out.2.2⟩
end Go.Proofs.Ytoginbmflomjeaa
