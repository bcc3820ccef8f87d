/- The law FnArmies returns true for every code: of a drawn army and a level of 1 to 4: it does not reach the fifth row, it has at least as many soldiers as the least army where it may reach the level, then it may reach the level below, too; it may reach just if its sum is at least 1; its sum is that of its weights; the least armies have 2, 4, 8 and more than 16 soldiers; sixty soldiers may reach the fourth row and not the fifth. No condition. -/
import Derived.Test.YtoginbmflomjeaaRows
import Derived.WalkKit
import Derived.WalkSpells
import Derived.ProofKit
import Derived.OpenShut
import Derived.ShutString
import Derived.ChangeOld
import Derived.Below
import Derived.Lib.Hide
import Derived.Lib.SmallJoins
import Derived.ChangeArms
import Derived.Test.YtoginbmflomjeaaDrawArmy
import Derived.Test.YtoginbmflomjeaaArmyL
import Derived.Deep.DeepCutAuto
namespace Go.Proofs.Ytoginbmflomjeaa.fnArmies
open Go.ChangeShapes Go.WideShapes Go.ChangeAt Go.RowKit
open Go.ChangeMaps (open_string shut_string)
set_option linter.unusedVariables false
set_option linter.unusedSimpArgs false
theorem own : ownKnob Try.prog.godebug = none := by kernel_rfl
theorem laidOut : laidOutB Try.prog = true := by kernel_rfl
/-- What the walk is told of a slice of integers that came in. -/
def IsRow (k : IntKind) (w : World) (a : Option Addr) (len cap : Nat) (zs : List Int) : Prop :=
  (a = none ∧ len = 0 ∧ cap = 0 ∧ zs = []) ∨
  ∃ x, a = some x ∧ len ≤ cap ∧ cap ≤ maxLen ∧ zs.length = cap ∧ (∀ i, i < zs.length → w.cell? (x.add i) = some (.int k (zs.getD i 0))) ∧ ∀ n ∈ zs, (Lit.int k n).wf = true
theorem byteAt0 {a : Option Addr} {len cap : Nat} (w : World) (hcode : CodeAt w a len) : Calls Try.prog 11 #[.slice a len cap, .int .i64 0] w (AtPost w) := byteAt 0 (by omega) w hcode
/-- Sixty soldiers, row by row. -/
def sixty : List Sd := (List.range 60).map fun (k : Nat) => (((k % 11 : Nat) : Int) - 5, ((k / 11 : Nat) : Int))
theorem sixty_may : mayB sixty 4 = true := by decide +kernel
theorem sixty_len : sixty.length = 60 := by decide +kernel
theorem sixty_next (k : Nat) (hk : k < 60) : sixty.take (k + 1) = sixty.take k ++ [(((k % 11 : Nat) : Int) - 5, ((k / 11 : Nat) : Int))] := take_one (by unfold sixty; rw [List.getElem?_map, List.getElem?_range hk]; rfl)
theorem Bg1.set {a b x y : Int} {w0 w : World} (h : Bg1 a b w0 w) : Bg1 x y w0 (putG w w0.heap.size x y) := ⟨bg_set h.1, set_below (set_below h.2 (by omega)) (by omega)⟩
set_option maxHeartbeats 8000000 in
set_option maxRecDepth 100000 in
theorem walk_in {a0 : Option Addr} {len cap : Nat} (w : World) (hcode : CodeAt w a0 len) :
    Calls Try.prog 3 #[.slice a0 len cap] w fun e w' => e = .returned (.bool true) ∧ Below w.heap.size w w' := by
  obtain ⟨i0, hi, hz0, hz1, hz2⟩ : ∃ i, Try.prog.info? 37 = some i ∧ i.zero = some (.agg #[.int .i64 0, .int .i64 0]) ∧ i.size = 2 ∧ i.bytes = 16 := ⟨_, by rfl, by rfl, by rfl, by rfl⟩
  have HCO := Lib.hid hcode
  clear hcode
  go_enter Try.func3, Try.ntmps3
  go_wp2_with fail
  refine (big_no _ HCO.out.1).mono ?_
  rintro e w' ⟨rfl, rfl⟩
  go_wp2_with fail
  refine (drawArmy w HCO.out).mono ?_
  rintro e w1 ⟨xs, v, rfl, hgood, h24, ho, hb1⟩
  obtain ⟨va, vc, rfl⟩ := solds_form ho
  obtain ⟨m, hm⟩ : ∃ m, xs.length = m := ⟨_, rfl⟩
  have HA := Lib.hid (solds_own ho rfl)
  rw [hm] at h24
  have harmy : armyB xs = true := by rw [good_army hgood, hm]; exact decide_eq_true (by omega)
  have HB1 := Lib.hid hb1
  have HM := Lib.hid hm
  rw [hm]
  have HA : Hid (SoldsAt w1 va m xs) := by have := HA.out; rw [hm] at this; exact this
  clear ho hb1 hgood hm
  go_wp2_with fail
  refine (byteAt0 _ (HCO.out.below HB1.out)).mono ?_
  rintro e w' ⟨x, hx, rfl, rfl⟩
  obtain ⟨n, hn⟩ : ∃ n : Nat, (x : Int) % 4 = n := Int.eq_ofNat_of_zero_le (by omega)
  obtain ⟨l, hl⟩ : ∃ l, n + 1 = l := ⟨_, rfl⟩
  have hli : 1 + (n : Int) = (l : Int) := by omega
  have l1 : 1 ≤ l := by omega
  have l4 : l ≤ 4 := by omega
  have CM := Lib.hid (fun (L : Int) w h => implMayReach (a := va) (n := m) (c := vc) (xs := xs) L w (by omega) h)
  have CSum := Lib.hid (fun w h => implArmySum (a := va) (n := m) (c := vc) (xs := xs) (l : Int) w (by omega) h)
  have COk : Hid (∀ w, SoldsAt w va m xs → Calls Try.prog 18 #[.slice va m vc] w (GB true w)) := fun w h => by have := implArmyOk (c := vc) w (by omega) h; rwa [harmy] at this
  have CL := Lib.hid (fun (L : Int) w => implLeast L w)
  have CW := Lib.hid (fun x y w => implWeightTo x y (l : Int) w)
  have hin : inB (l : Int) 1 5 = true := by simp [inB]; omega
  have HSum : Hid (asumB xs l = wsum xs l) := asum_yes harmy hin
  have H5 := Lib.hid (no_five xs)
  have HLe : Hid (mayB xs l = true → leastB l ≤ (xs.length : Int)) := fun h => may_least (by omega) (by omega) h
  have HDn : Hid (1 < l → mayB xs l = true → mayB xs ((l : Int) - 1) = true) := fun h2 h => may_down (by omega) (by omega) h
  have HCmp := Lib.hid (may_cmp xs (l : Int))
  have HTk := Lib.hid (fun k => wsum_gold_take (xs := xs) (by have := (army_yes harmy).2.2; exact this) (l : Int) k)
  have HWG := Lib.hid (fun s => wt_gold s (l : Int))
  rw [HM.out] at HLe
  obtain ⟨b, hb⟩ : ∃ b, mayB xs l = b := ⟨_, rfl⟩
  have CMl := Lib.hid (CM.out (l : Int))
  rw [hb] at CMl HLe HDn HCmp
  obtain ⟨A, hA⟩ : ∃ A, leastB l = A := ⟨_, rfl⟩
  have CLl := Lib.hid (CL.out (l : Int))
  rw [hA] at CLl HLe
  rw [HSum.out] at CSum HCmp
  have CC := Lib.hid (fun w => implCompareGold (wsum xs l).1 (wsum xs l).2 1 0 w)
  have CM5 := Lib.hid (CM.out 5)
  rw [H5.out] at CM5
  clear hin harmy hb hA H5 HSum hl
  go_wp2_with fail
  refine (CMl.out _ HA.out).mono ?_
  rintro e w2 ⟨rfl, h2⟩
  have HB2 := Lib.hid (HB1.out.trans (h2.mono HB1.out.size))
  have HA2 := Lib.hid (HA.out.later h2)
  clear h2 HB1 HA
  go_wp2_with fail
  refine (CLl.out _).mono ?_
  rintro e w3 ⟨rfl, h2⟩
  have HB3 := Lib.hid (HB2.out.trans (h2.mono HB2.out.size))
  have HA3 := Lib.hid (HA2.out.later h2)
  clear h2 HB2 HA2 CLl
  go_upto_region 7 with fail
  go_cut [60] (fun cc wx => cc = .bool false ∧ Hid (SoldsAt wx va m xs) ∧ Hid (Below w.heap.size w wx))
  case first =>
    have fin : ∀ (r : Int) (b : Bool), b = decide (0 ≤ r) → (b = true ∧ 0 ≤ r) ∨ (b = false ∧ ¬ 0 ≤ r) := fun r b h => by
      by_cases hr : 0 ≤ r
      · left; exact ⟨by rw [h]; exact decide_eq_true hr, hr⟩
      · right; exact ⟨by rw [h]; exact decide_eq_false hr, hr⟩
    obtain ⟨r, hr⟩ : ∃ r, cmpG (wsum xs l).1 (wsum xs l).2 1 0 = r := ⟨_, rfl⟩
    rw [hr] at CC HCmp
    generalize (wsum xs l).1 = s1 at *
    generalize (wsum xs l).2 = s2 at *
    rcases fin r b HCmp.out with ⟨rfl, hr0⟩ | ⟨rfl, hr0⟩
    · have hle := HLe.out rfl
      have hnl : ¬ (m : Int) < A := by omega
      by_cases h1 : 1 < l
      · have h1' : (1 : Int) < (l : Int) := by omega
        have CMd := Lib.hid (CM.out ((l : Int) - 1))
        rw [HDn.out h1 rfl] at CMd
        clear fin hr HCmp HLe HDn
        go_wp2_with fail
        refine (CM5.out _ HA3.out).mono ?_
        rintro e w4 ⟨rfl, h2⟩
        have HB4 := Lib.hid (HB3.out.trans (h2.mono HB3.out.size))
        have HA4 := Lib.hid (HA3.out.later h2)
        clear h2
        go_wp2_with fail
        refine (CMd.out _ HA4.out).mono ?_
        rintro e w5 ⟨rfl, h2⟩
        have HB5 := Lib.hid (HB4.out.trans (h2.mono HB4.out.size))
        have HA5 := Lib.hid (HA4.out.later h2)
        clear h2
        go_wp2_with fail
        refine (CMl.out _ HA5.out).mono ?_
        rintro e w6 ⟨rfl, h2⟩
        have HB6 := Lib.hid (HB5.out.trans (h2.mono HB5.out.size))
        have HA6 := Lib.hid (HA5.out.later h2)
        clear h2
        go_wp2_with fail
        refine (CSum.out _ HA6.out).mono ?_
        rintro e w7 ⟨rfl, h2⟩
        have HB7 := Lib.hid (HB6.out.trans (h2.mono HB6.out.size))
        have HA7 := Lib.hid (HA6.out.later h2)
        clear h2
        go_wp2_with fail
        refine (CC.out _).mono ?_
        rintro e w8 ⟨rfl, h2⟩
        have HB8 := Lib.hid (HB7.out.trans (h2.mono HB7.out.size))
        have HA8 := Lib.hid (HA7.out.later h2)
        clear h2
        go_wp2_with fail
        go_meet
        exact ⟨by first | rfl | (congr 1; simp; omega), HA8, HB8⟩
      · have h1' : ¬ (1 : Int) < (l : Int) := by omega
        clear fin hr HCmp HLe HDn
        go_wp2_with fail
        refine (CM5.out _ HA3.out).mono ?_
        rintro e w5 ⟨rfl, h2⟩
        have HB5 := Lib.hid (HB3.out.trans (h2.mono HB3.out.size))
        have HA5 := Lib.hid (HA3.out.later h2)
        clear h2
        go_wp2_with fail
        refine (CMl.out _ HA5.out).mono ?_
        rintro e w6 ⟨rfl, h2⟩
        have HB6 := Lib.hid (HB5.out.trans (h2.mono HB5.out.size))
        have HA6 := Lib.hid (HA5.out.later h2)
        clear h2
        go_wp2_with fail
        refine (CSum.out _ HA6.out).mono ?_
        rintro e w7 ⟨rfl, h2⟩
        have HB7 := Lib.hid (HB6.out.trans (h2.mono HB6.out.size))
        have HA7 := Lib.hid (HA6.out.later h2)
        clear h2
        go_wp2_with fail
        refine (CC.out _).mono ?_
        rintro e w8 ⟨rfl, h2⟩
        have HB8 := Lib.hid (HB7.out.trans (h2.mono HB7.out.size))
        have HA8 := Lib.hid (HA7.out.later h2)
        clear h2
        go_wp2_with fail
        go_meet
        exact ⟨by first | rfl | (congr 1; simp; omega), HA8, HB8⟩
    · clear fin hr HCmp HLe HDn
      go_wp2_with fail
      refine (CM5.out _ HA3.out).mono ?_
      rintro e w5 ⟨rfl, h2⟩
      have HB5 := Lib.hid (HB3.out.trans (h2.mono HB3.out.size))
      have HA5 := Lib.hid (HA3.out.later h2)
      clear h2
      go_wp2_with fail
      refine (CMl.out _ HA5.out).mono ?_
      rintro e w6 ⟨rfl, h2⟩
      have HB6 := Lib.hid (HB5.out.trans (h2.mono HB5.out.size))
      have HA6 := Lib.hid (HA5.out.later h2)
      clear h2
      go_wp2_with fail
      refine (CSum.out _ HA6.out).mono ?_
      rintro e w7 ⟨rfl, h2⟩
      have HB7 := Lib.hid (HB6.out.trans (h2.mono HB6.out.size))
      have HA7 := Lib.hid (HA6.out.later h2)
      clear h2
      go_wp2_with fail
      refine (CC.out _).mono ?_
      rintro e w8 ⟨rfl, h2⟩
      have HB8 := Lib.hid (HB7.out.trans (h2.mono HB7.out.size))
      have HA8 := Lib.hid (HA7.out.later h2)
      clear h2
      go_wp2_with fail
      go_meet
      exact ⟨by first | rfl | (congr 1; simp; omega), HA8, HB8⟩
  case rest =>
    obtain ⟨rfl, HA4, HB4⟩ := hcut
    clear HA3 HB3 CM5 CMl CC HLe HDn HCmp
    have S0 := Lib.hid (bg1_new 0 0 wc)
    go_wp2_with fail
    go_loopw [8] (fun i wr => ∃ (k : Nat) (u v : Int), k ≤ m ∧ i = .int .i64 k ∧ Hid (wsum (xs.take k) l = (u, v)) ∧ Hid (Bg1 u v wc wr)) (fun i _ => m - (intOf i).toNat)
    case atStart => exact ⟨0, 0, 0, Nat.zero_le _, rfl, rfl, S0⟩
    case round =>
      clear S0
      obtain ⟨k, u, v, hk, rfl, HX, HS⟩ := hrel
      by_cases hkn : k < m
      · have k0 : (0 : Int) ≤ (k : Int) := by omega
        have k1 : (k : Int) < (m : Int) := by omega
        obtain ⟨⟨x1, y1⟩, hs⟩ : ∃ s, xs[k]? = some s := ⟨_, List.getElem?_eq_getElem (by rw [HM.out]; exact hkn)⟩
        obtain ⟨bb, off, hva, -, -⟩ := (HA4.out).cell hkn
        have HC : Hid (∀ w', Below wc.heap.size wc w' → w'.cell? ⟨bb, off + k * 2, none⟩ = some (.int .i64 x1) ∧ w'.cell? ⟨bb, off + k * 2 + 1, none⟩ = some (.int .i64 y1)) := fun w' hw' => by
          obtain ⟨b', off', e, -, g⟩ := (HA4.out.later hw').cell hkn
          rw [hva] at e
          cases e
          exact g k _ hs
        have G1 := Lib.hid (HTk.out k)
        rw [HX.out] at G1
        have G2 := Lib.hid (HWG.out (x1, y1))
        have G3 := Lib.hid (HTk.out (k + 1))
        have hX2 : wsum (xs.take (k + 1)) l = (u + (wtB (x1, y1) l).1, v + (wtB (x1, y1) l).2) := by rw [take_one hs, wsum_snoc, HX.out]
        rw [hX2] at G3
        have HX2 := Lib.hid hX2
        have CX := Lib.hid (fun w => CW.out x1 y1 w)
        obtain ⟨p, hp⟩ : ∃ r, (wtB (x1, y1) l).1 = r := ⟨_, rfl⟩
        obtain ⟨r, hr⟩ : ∃ r, (wtB (x1, y1) l).2 = r := ⟨_, rfl⟩
        rw [hp, hr] at HX2 CX G2 G3
        have CA := Lib.hid (fun w => specAddGold u v p r w)
        rw [add_yes G1.out G2.out G3.out] at CA
        clear hX2 hs hp hr HX G1 G2 G3
        subst hva
        go_wp2_with fail
        refine wp_region_script (by kernel_rfl) (by kernel_rfl) ?_
        refine Script.load (i := 0) (v := ?_) rfl (by kernel_rfl) (by kernel_rfl) (fun _ _ _ h => h) (by kernel_rfl) ?_ ?_
        rotate_left
        · (intro wS hSw; have hB := HS.out.later (After.trans (After.drew (After.refl _)) hSw); obtain ⟨k0', k1', f0, f1⟩ := two_facts hB.1; obtain ⟨d0, d1⟩ := HC.out _ hB.2; go_simp; try with_reducible rfl)
        try simp only [Act.put, List.getElem_toArray, List.getElem_cons_succ, List.getElem_cons_zero, List.setIfInBounds_toArray, List.set_cons_zero, List.set_cons_succ]
        refine Script.load (i := 1) (v := ?_) rfl (by kernel_rfl) (by kernel_rfl) (fun _ _ _ h => h) (by kernel_rfl) ?_ ?_
        rotate_left
        · (intro wS hSw; have hB := HS.out.later (After.trans (After.drew (After.refl _)) hSw); obtain ⟨k0', k1', f0, f1⟩ := two_facts hB.1; obtain ⟨d0, d1⟩ := HC.out _ hB.2; go_simp; try with_reducible rfl)
        try simp only [Act.put, List.getElem_toArray, List.getElem_cons_succ, List.getElem_cons_zero, List.setIfInBounds_toArray, List.set_cons_zero, List.set_cons_succ]
        refine Script.load (i := 2) (v := ?_) rfl (by kernel_rfl) (by kernel_rfl) (fun _ _ _ h => h) (by kernel_rfl) ?_ ?_
        rotate_left
        · (intro wS hSw; have hB := HS.out.later (After.trans (After.drew (After.refl _)) hSw); obtain ⟨k0', k1', f0, f1⟩ := two_facts hB.1; obtain ⟨d0, d1⟩ := HC.out _ hB.2; go_simp; try with_reducible rfl)
        try simp only [Act.put, List.getElem_toArray, List.getElem_cons_succ, List.getElem_cons_zero, List.setIfInBounds_toArray, List.set_cons_zero, List.set_cons_succ]
        refine Script.load (i := 3) (v := ?_) rfl (by kernel_rfl) (by kernel_rfl) (fun _ _ _ h => h) (by kernel_rfl) ?_ ?_
        rotate_left
        · (intro wS hSw; have hB := HS.out.later (After.trans (After.drew (After.refl _)) hSw); obtain ⟨k0', k1', f0, f1⟩ := two_facts hB.1; obtain ⟨d0, d1⟩ := HC.out _ hB.2; go_simp; try with_reducible rfl)
        try simp only [Act.put, List.getElem_toArray, List.getElem_cons_succ, List.getElem_cons_zero, List.setIfInBounds_toArray, List.set_cons_zero, List.set_cons_succ]
        refine Script.load (i := 4) (v := ?_) rfl (by kernel_rfl) (by kernel_rfl) (fun _ _ _ h => h) (by kernel_rfl) ?_ ?_
        rotate_left
        · (intro wS hSw; have hB := HS.out.later (After.trans (After.drew (After.refl _)) hSw); obtain ⟨k0', k1', f0, f1⟩ := two_facts hB.1; obtain ⟨d0, d1⟩ := HC.out _ hB.2; go_simp; try with_reducible rfl)
        try simp only [Act.put, List.getElem_toArray, List.getElem_cons_succ, List.getElem_cons_zero, List.setIfInBounds_toArray, List.set_cons_zero, List.set_cons_succ]
        refine Script.load (i := 5) (v := ?_) rfl (by kernel_rfl) (by kernel_rfl) (fun _ _ _ h => h) (by kernel_rfl) ?_ ?_
        rotate_left
        · (intro wS hSw; have hB := HS.out.later (After.trans (After.drew (After.refl _)) hSw); obtain ⟨k0', k1', f0, f1⟩ := two_facts hB.1; obtain ⟨d0, d1⟩ := HC.out _ hB.2; go_simp; try with_reducible rfl)
        try simp only [Act.put, List.getElem_toArray, List.getElem_cons_succ, List.getElem_cons_zero, List.setIfInBounds_toArray, List.set_cons_zero, List.set_cons_succ]
        refine Script.call (i := 6) (v := ?_) rfl (by kernel_rfl) (by kernel_rfl) (fun _ _ _ h => h) (by kernel_rfl) ?_ ?_
        rotate_left
        · (intro wS hSw K hK; have hB := HS.out.later (After.trans (After.drew (After.refl _)) hSw); obtain ⟨k0', k1', f0, f1⟩ := two_facts hB.1; obtain ⟨d0, d1⟩ := HC.out _ hB.2; go_simp; go_at_call 17; refine (CX.out _).mono ?_; rintro e wc' ⟨rfl, hbc⟩; exact hK.out _ hbc)
        try simp only [Act.put, List.getElem_toArray, List.getElem_cons_succ, List.getElem_cons_zero, List.setIfInBounds_toArray, List.set_cons_zero, List.set_cons_succ]
        refine Script.call (i := 7) (v := ?_) rfl (by kernel_rfl) (by kernel_rfl) (fun _ _ _ h => h) (by kernel_rfl) ?_ ?_
        rotate_left
        · (intro wS hSw K hK; have hB := HS.out.later (After.trans (After.drew (After.refl _)) hSw); obtain ⟨k0', k1', f0, f1⟩ := two_facts hB.1; obtain ⟨d0, d1⟩ := HC.out _ hB.2; go_simp; go_at_call 16; refine (CA.out _).mono ?_; rintro e wc' ⟨rfl, hbc⟩; exact hK.out _ hbc)
        try simp only [Act.put, List.getElem_toArray, List.getElem_cons_succ, List.getElem_cons_zero, List.setIfInBounds_toArray, List.set_cons_zero, List.set_cons_succ]
        refine Script.load (i := 8) (v := ?_) rfl (by kernel_rfl) (by kernel_rfl) (fun _ _ _ h => h) (by kernel_rfl) ?_ ?_
        rotate_left
        · (intro wS hSw; have hB := HS.out.later (After.trans (After.drew (After.refl _)) hSw); obtain ⟨k0', k1', f0, f1⟩ := two_facts hB.1; obtain ⟨d0, d1⟩ := HC.out _ hB.2; go_simp; try with_reducible rfl)
        try simp only [Act.put, List.getElem_toArray, List.getElem_cons_succ, List.getElem_cons_zero, List.setIfInBounds_toArray, List.set_cons_zero, List.set_cons_succ]
        refine Script.load (i := 9) (v := ?_) rfl (by kernel_rfl) (by kernel_rfl) (fun _ _ _ h => h) (by kernel_rfl) ?_ ?_
        rotate_left
        · (intro wS hSw; have hB := HS.out.later (After.trans (After.drew (After.refl _)) hSw); obtain ⟨k0', k1', f0, f1⟩ := two_facts hB.1; obtain ⟨d0, d1⟩ := HC.out _ hB.2; go_simp; try with_reducible rfl)
        try simp only [Act.put, List.getElem_toArray, List.getElem_cons_succ, List.getElem_cons_zero, List.setIfInBounds_toArray, List.set_cons_zero, List.set_cons_succ]
        refine Script.load (i := 10) (v := ?_) rfl (by kernel_rfl) (by kernel_rfl) (fun _ _ _ h => h) (by kernel_rfl) ?_ ?_
        rotate_left
        · (intro wS hSw; have hB := HS.out.later (After.trans (After.drew (After.refl _)) hSw); obtain ⟨k0', k1', f0, f1⟩ := two_facts hB.1; obtain ⟨d0, d1⟩ := HC.out _ hB.2; go_simp; try with_reducible rfl)
        try simp only [Act.put, List.getElem_toArray, List.getElem_cons_succ, List.getElem_cons_zero, List.setIfInBounds_toArray, List.set_cons_zero, List.set_cons_succ]
        refine Script.last (i := 11) rfl (by kernel_rfl) (by kernel_rfl) (by kernel_rfl) ?_
        intro wO hO hGO K hK; have hSw := hO; have hB := HS.out.later (After.trans (After.drew (After.refl _)) hSw); obtain ⟨k0', k1', f0, f1⟩ := two_facts hB.1; obtain ⟨d0, d1⟩ := HC.out _ hB.2; go_simp
        clear hSw
        refine hK.out undef _ ?_
        clear hK K
        try simp only [Act.put, List.getElem_toArray, List.getElem_cons_succ, List.getElem_cons_zero, List.setIfInBounds_toArray, List.set_cons_zero, List.set_cons_succ]
        refine Script.done (by kernel_rfl) ?_
        intro wD hD hG
        have HS3 := Lib.hid ((Bg1.set (x := u + p) (y := v + r) (HS.out.later (After.trans (After.drew (After.refl _)) hO))).later hD)
        clear HS hO hD hG CX CA HC
        go_wp2_with fail
        go_roundw
        case rel => exact ⟨k + 1, u + p, v + r, by omega, by go_num, HX2, HS3⟩
        case measure => simp [intOf]; omega
      · obtain rfl : k = m := by omega
        have hfull : Hid (xs.take k = xs) := List.take_of_length_le (by rw [HM.out]; exact Nat.le_refl _)
        rw [hfull.out] at HX
        rw [HX.out] at CSum
        have HNX := Lib.hid (fun k hk => sixty_next k hk)
        have HM4 := Lib.hid sixty_may
        have HM5 := Lib.hid (no_five sixty)
        have HLen := Lib.hid sixty_len
        have CSx := Lib.hid (fun (a : Option Addr) (c : Nat) (L : Int) w h => implMayReach (a := a) (n := 60) (c := c) (xs := sixty) L w (by omega) h)
        clear hfull HX HTk HWG CW
        generalize sixty = S at *
        have hq : wc.heap.size < wr.heap.size := row_lt2 HS.out.1
        have HL1 : Hid ((wr.alloc (.cells #[] 37)).ownsRow wr.heap.size 37 2 (.slice (some ⟨wr.heap.size, 0, none⟩) 0 0) 0 (sv (S.take 0))) := by
          rw [List.take_zero]
          exact World.ownsRow_made wr #[] 0 (Nat.le_refl _) (by unfold maxLen; omega) rfl
        have HS1 : Hid (Bg1 u v wc (wr.alloc (.cells #[] 37))) := HS.out.later ((Below.refl _ _).alloc (Nat.le_refl _) _)
        have HZ1 : Hid (wr.heap.size ≤ (wr.alloc (.cells #[] 37)).heap.size) := by unfold Hid; simp
        clear HS
        go_wp2_with fail
        generalize wr.alloc (.cells #[] 37) = w5 at *
        generalize wr.heap.size = B at *
        go_loopw [9, 10] (fun s i wr => ∃ (j : Nat) (vv : Value), j ≤ 60 ∧ i = .int .i64 j ∧ vv = s ∧ Hid (wr.ownsRow B 37 2 vv j (sv (S.take j))) ∧ Hid (Bg1 u v wc wr) ∧ Hid (B ≤ wr.heap.size)) (fun _ i _ => 60 - (intOf i).toNat)
        case atStart => exact ⟨0, _, by omega, rfl, rfl, HL1, HS1, HZ1⟩
        case round =>
          clear HL1 HS1 HZ1
          obtain ⟨j, vv, hj, rfl, rfl, HL, HS, HZ⟩ := hrel
          by_cases hj60 : j < 60
          · have j0 : (0 : Int) ≤ (j : Int) := by omega
            have j1 : (j : Int) < 60 := by omega
            have HT := Lib.hid (HNX.out j hj60)
            obtain ⟨x1, hx1⟩ : ∃ x1 : Int, ((j % 11 : Nat) : Int) - 5 = x1 := ⟨_, rfl⟩
            obtain ⟨r, hr⟩ : ∃ r, j % 11 = r := ⟨_, rfl⟩
            obtain ⟨d, hd⟩ : ∃ d, j / 11 = d := ⟨_, rfl⟩
            rw [hx1, hd] at HT
            rw [hr] at hx1
            have hr2 : (j : Int) % 11 = (r : Int) := by omega
            have hd2 : (j : Int) / 11 = (d : Int) := by omega
            have hr11 : r < 11 := by omega
            have hbz := HZ.out
            have hjn : j ≤ 1000000000 := by omega
            clear hr hd
            go_wp2_with (at_builtin; refine wpList_append_sold rfl (.tmp 84) (.tmp 91) 24 rfl B 37 i0 (.agg #[.int .i64 0, .int .i64 0]) Try.underlying24 hi hz0 hz1 hz2 rfl _ _ (S.take j) rfl HL.out _ rfl rfl hjn hbz ?_; intro g' cap' w8 hown' hgrow hb2 hat)
            rw [← HT.out] at hown'
            have HL8 := Lib.hid hown'
            have HS8 : Hid (Bg1 u v wc w8) := ⟨row_later HS.out.1 hb2 hq, HS.out.2.trans (hb2.mono (by omega))⟩
            have HZ8 : Hid (B ≤ w8.heap.size) := Nat.le_trans hbz hb2.size
            clear hown' hgrow hb2 hat HL HS
            go_wp2_with fail
            go_roundw
            case rel => exact ⟨j + 1, _, by omega, by go_num, rfl, HL8, HS8, HZ8⟩
            case measure => simp [intOf]; omega
          · obtain rfl : j = 60 := by omega
            have hfull : Hid (S.take 60 = S) := List.take_of_length_le (by rw [HLen.out]; exact Nat.le_refl _)
            rw [hfull.out] at HL
            obtain ⟨sa, sc, rfl⟩ := solds_form HL.out
            have HSx := Lib.hid (solds_own HL.out HLen.out)
            have C4 := Lib.hid (CSx.out sa sc 4)
            have C5 := Lib.hid (CSx.out sa sc 5)
            rw [HM4.out] at C4
            rw [HM5.out] at C5
            have HAw := Lib.hid (HA4.out.later HS.out.2)
            have HB9 := Lib.hid (HB4.out.trans (HS.out.2.mono HB4.out.size))
            have L1 : Hid (∀ w, Calls Try.prog 13 #[.int .i64 1] w (GI 2 w)) := fun w => CL.out 1 w
            have L2 : Hid (∀ w, Calls Try.prog 13 #[.int .i64 2] w (GI 4 w)) := fun w => CL.out 2 w
            have L3 : Hid (∀ w, Calls Try.prog 13 #[.int .i64 3] w (GI 8 w)) := fun w => CL.out 3 w
            have L4 : Hid (∀ w, Calls Try.prog 13 #[.int .i64 4] w (GI 19 w)) := fun w => CL.out 4 w
            clear HL CL CSx HM4 HM5 hfull HNX HA4 HB4
            go_wp2_with fail
            refine wp_region_script (by kernel_rfl) (by kernel_rfl) ?_
            refine Script.load (i := 0) (v := ?_) rfl (by kernel_rfl) (by kernel_rfl) (fun _ _ _ h => h) (by kernel_rfl) ?_ ?_
            rotate_left
            · (intro wS hSw; have hB := After.trans (After.drew (After.refl _)) hSw; obtain ⟨k0', k1', f0, f1⟩ := two_facts (HS.out.later hB).1; go_simp; try with_reducible rfl)
            try simp only [Act.put, List.getElem_toArray, List.getElem_cons_succ, List.getElem_cons_zero, List.setIfInBounds_toArray, List.set_cons_zero, List.set_cons_succ]
            refine Script.call (i := 1) (v := ?_) rfl (by kernel_rfl) (by kernel_rfl) (fun _ _ _ h => h) (by kernel_rfl) ?_ ?_
            rotate_left
            · (intro wS hSw K hK; have hB := After.trans (After.drew (After.refl _)) hSw; obtain ⟨k0', k1', f0, f1⟩ := two_facts (HS.out.later hB).1; go_simp; go_at_call 18; refine (COk.out _ (HAw.out.later hB)).mono ?_; rintro e wc' ⟨rfl, hbc⟩; exact hK.out _ hbc)
            try simp only [Act.put, List.getElem_toArray, List.getElem_cons_succ, List.getElem_cons_zero, List.setIfInBounds_toArray, List.set_cons_zero, List.set_cons_succ]
            refine Script.load (i := 2) (v := ?_) rfl (by kernel_rfl) (by kernel_rfl) (fun _ _ _ h => h) (by kernel_rfl) ?_ ?_
            rotate_left
            · (intro wS hSw; have hB := After.trans (After.drew (After.refl _)) hSw; obtain ⟨k0', k1', f0, f1⟩ := two_facts (HS.out.later hB).1; go_simp; try with_reducible rfl)
            try simp only [Act.put, List.getElem_toArray, List.getElem_cons_succ, List.getElem_cons_zero, List.setIfInBounds_toArray, List.set_cons_zero, List.set_cons_succ]
            refine Script.load (i := 3) (v := ?_) rfl (by kernel_rfl) (by kernel_rfl) (fun _ _ _ h => h) (by kernel_rfl) ?_ ?_
            rotate_left
            · (intro wS hSw; have hB := After.trans (After.drew (After.refl _)) hSw; obtain ⟨k0', k1', f0, f1⟩ := two_facts (HS.out.later hB).1; go_simp; try with_reducible rfl)
            try simp only [Act.put, List.getElem_toArray, List.getElem_cons_succ, List.getElem_cons_zero, List.setIfInBounds_toArray, List.set_cons_zero, List.set_cons_succ]
            refine Script.load (i := 4) (v := ?_) rfl (by kernel_rfl) (by kernel_rfl) (fun _ _ _ h => h) (by kernel_rfl) ?_ ?_
            rotate_left
            · (intro wS hSw; have hB := After.trans (After.drew (After.refl _)) hSw; obtain ⟨k0', k1', f0, f1⟩ := two_facts (HS.out.later hB).1; go_simp; try with_reducible rfl)
            try simp only [Act.put, List.getElem_toArray, List.getElem_cons_succ, List.getElem_cons_zero, List.setIfInBounds_toArray, List.set_cons_zero, List.set_cons_succ]
            refine Script.load (i := 5) (v := ?_) rfl (by kernel_rfl) (by kernel_rfl) (fun _ _ _ h => h) (by kernel_rfl) ?_ ?_
            rotate_left
            · (intro wS hSw; have hB := After.trans (After.drew (After.refl _)) hSw; obtain ⟨k0', k1', f0, f1⟩ := two_facts (HS.out.later hB).1; go_simp; try with_reducible rfl)
            try simp only [Act.put, List.getElem_toArray, List.getElem_cons_succ, List.getElem_cons_zero, List.setIfInBounds_toArray, List.set_cons_zero, List.set_cons_succ]
            refine Script.call (i := 6) (v := ?_) rfl (by kernel_rfl) (by kernel_rfl) (fun _ _ _ h => h) (by kernel_rfl) ?_ ?_
            rotate_left
            · (intro wS hSw K hK; have hB := After.trans (After.drew (After.refl _)) hSw; obtain ⟨k0', k1', f0, f1⟩ := two_facts (HS.out.later hB).1; go_simp; go_at_call 15; refine (CSum.out _ (HAw.out.later hB)).mono ?_; rintro e wc' ⟨rfl, hbc⟩; exact hK.out _ hbc)
            try simp only [Act.put, List.getElem_toArray, List.getElem_cons_succ, List.getElem_cons_zero, List.setIfInBounds_toArray, List.set_cons_zero, List.set_cons_succ]
            refine Script.load (i := 7) (v := ?_) rfl (by kernel_rfl) (by kernel_rfl) (fun _ _ _ h => h) (by kernel_rfl) ?_ ?_
            rotate_left
            · (intro wS hSw; have hB := After.trans (After.drew (After.refl _)) hSw; obtain ⟨k0', k1', f0, f1⟩ := two_facts (HS.out.later hB).1; go_simp; try with_reducible rfl)
            try simp only [Act.put, List.getElem_toArray, List.getElem_cons_succ, List.getElem_cons_zero, List.setIfInBounds_toArray, List.set_cons_zero, List.set_cons_succ]
            refine Script.load (i := 8) (v := ?_) rfl (by kernel_rfl) (by kernel_rfl) (fun _ _ _ h => h) (by kernel_rfl) ?_ ?_
            rotate_left
            · (intro wS hSw; have hB := After.trans (After.drew (After.refl _)) hSw; obtain ⟨k0', k1', f0, f1⟩ := two_facts (HS.out.later hB).1; go_simp; try with_reducible rfl)
            try simp only [Act.put, List.getElem_toArray, List.getElem_cons_succ, List.getElem_cons_zero, List.setIfInBounds_toArray, List.set_cons_zero, List.set_cons_succ]
            refine Script.load (i := 9) (v := ?_) rfl (by kernel_rfl) (by kernel_rfl) (fun _ _ _ h => h) (by kernel_rfl) ?_ ?_
            rotate_left
            · (intro wS hSw; have hB := After.trans (After.drew (After.refl _)) hSw; obtain ⟨k0', k1', f0, f1⟩ := two_facts (HS.out.later hB).1; go_simp; try with_reducible rfl)
            try simp only [Act.put, List.getElem_toArray, List.getElem_cons_succ, List.getElem_cons_zero, List.setIfInBounds_toArray, List.set_cons_zero, List.set_cons_succ]
            refine Script.call (i := 10) (v := ?_) rfl (by kernel_rfl) (by kernel_rfl) (fun _ _ _ h => h) (by kernel_rfl) ?_ ?_
            rotate_left
            · (intro wS hSw K hK; have hB := After.trans (After.drew (After.refl _)) hSw; obtain ⟨k0', k1', f0, f1⟩ := two_facts (HS.out.later hB).1; go_simp; go_at_call 13; refine (L1.out _).mono ?_; rintro e wc' ⟨rfl, hbc⟩; exact hK.out _ hbc)
            try simp only [Act.put, List.getElem_toArray, List.getElem_cons_succ, List.getElem_cons_zero, List.setIfInBounds_toArray, List.set_cons_zero, List.set_cons_succ]
            refine Script.load (i := 11) (v := ?_) rfl (by kernel_rfl) (by kernel_rfl) (fun _ _ _ h => h) (by kernel_rfl) ?_ ?_
            rotate_left
            · (intro wS hSw; have hB := After.trans (After.drew (After.refl _)) hSw; obtain ⟨k0', k1', f0, f1⟩ := two_facts (HS.out.later hB).1; go_simp; try with_reducible rfl)
            try simp only [Act.put, List.getElem_toArray, List.getElem_cons_succ, List.getElem_cons_zero, List.setIfInBounds_toArray, List.set_cons_zero, List.set_cons_succ]
            refine Script.load (i := 12) (v := ?_) rfl (by kernel_rfl) (by kernel_rfl) (fun _ _ _ h => h) (by kernel_rfl) ?_ ?_
            rotate_left
            · (intro wS hSw; have hB := After.trans (After.drew (After.refl _)) hSw; obtain ⟨k0', k1', f0, f1⟩ := two_facts (HS.out.later hB).1; go_simp; try with_reducible rfl)
            try simp only [Act.put, List.getElem_toArray, List.getElem_cons_succ, List.getElem_cons_zero, List.setIfInBounds_toArray, List.set_cons_zero, List.set_cons_succ]
            refine Script.load (i := 13) (v := ?_) rfl (by kernel_rfl) (by kernel_rfl) (fun _ _ _ h => h) (by kernel_rfl) ?_ ?_
            rotate_left
            · (intro wS hSw; have hB := After.trans (After.drew (After.refl _)) hSw; obtain ⟨k0', k1', f0, f1⟩ := two_facts (HS.out.later hB).1; go_simp; try with_reducible rfl)
            try simp only [Act.put, List.getElem_toArray, List.getElem_cons_succ, List.getElem_cons_zero, List.setIfInBounds_toArray, List.set_cons_zero, List.set_cons_succ]
            refine Script.call (i := 14) (v := ?_) rfl (by kernel_rfl) (by kernel_rfl) (fun _ _ _ h => h) (by kernel_rfl) ?_ ?_
            rotate_left
            · (intro wS hSw K hK; have hB := After.trans (After.drew (After.refl _)) hSw; obtain ⟨k0', k1', f0, f1⟩ := two_facts (HS.out.later hB).1; go_simp; go_at_call 13; refine (L2.out _).mono ?_; rintro e wc' ⟨rfl, hbc⟩; exact hK.out _ hbc)
            try simp only [Act.put, List.getElem_toArray, List.getElem_cons_succ, List.getElem_cons_zero, List.setIfInBounds_toArray, List.set_cons_zero, List.set_cons_succ]
            refine Script.load (i := 15) (v := ?_) rfl (by kernel_rfl) (by kernel_rfl) (fun _ _ _ h => h) (by kernel_rfl) ?_ ?_
            rotate_left
            · (intro wS hSw; have hB := After.trans (After.drew (After.refl _)) hSw; obtain ⟨k0', k1', f0, f1⟩ := two_facts (HS.out.later hB).1; go_simp; try with_reducible rfl)
            try simp only [Act.put, List.getElem_toArray, List.getElem_cons_succ, List.getElem_cons_zero, List.setIfInBounds_toArray, List.set_cons_zero, List.set_cons_succ]
            refine Script.load (i := 16) (v := ?_) rfl (by kernel_rfl) (by kernel_rfl) (fun _ _ _ h => h) (by kernel_rfl) ?_ ?_
            rotate_left
            · (intro wS hSw; have hB := After.trans (After.drew (After.refl _)) hSw; obtain ⟨k0', k1', f0, f1⟩ := two_facts (HS.out.later hB).1; go_simp; try with_reducible rfl)
            try simp only [Act.put, List.getElem_toArray, List.getElem_cons_succ, List.getElem_cons_zero, List.setIfInBounds_toArray, List.set_cons_zero, List.set_cons_succ]
            refine Script.load (i := 17) (v := ?_) rfl (by kernel_rfl) (by kernel_rfl) (fun _ _ _ h => h) (by kernel_rfl) ?_ ?_
            rotate_left
            · (intro wS hSw; have hB := After.trans (After.drew (After.refl _)) hSw; obtain ⟨k0', k1', f0, f1⟩ := two_facts (HS.out.later hB).1; go_simp; try with_reducible rfl)
            try simp only [Act.put, List.getElem_toArray, List.getElem_cons_succ, List.getElem_cons_zero, List.setIfInBounds_toArray, List.set_cons_zero, List.set_cons_succ]
            refine Script.call (i := 18) (v := ?_) rfl (by kernel_rfl) (by kernel_rfl) (fun _ _ _ h => h) (by kernel_rfl) ?_ ?_
            rotate_left
            · (intro wS hSw K hK; have hB := After.trans (After.drew (After.refl _)) hSw; obtain ⟨k0', k1', f0, f1⟩ := two_facts (HS.out.later hB).1; go_simp; go_at_call 13; refine (L3.out _).mono ?_; rintro e wc' ⟨rfl, hbc⟩; exact hK.out _ hbc)
            try simp only [Act.put, List.getElem_toArray, List.getElem_cons_succ, List.getElem_cons_zero, List.setIfInBounds_toArray, List.set_cons_zero, List.set_cons_succ]
            refine Script.load (i := 19) (v := ?_) rfl (by kernel_rfl) (by kernel_rfl) (fun _ _ _ h => h) (by kernel_rfl) ?_ ?_
            rotate_left
            · (intro wS hSw; have hB := After.trans (After.drew (After.refl _)) hSw; obtain ⟨k0', k1', f0, f1⟩ := two_facts (HS.out.later hB).1; go_simp; try with_reducible rfl)
            try simp only [Act.put, List.getElem_toArray, List.getElem_cons_succ, List.getElem_cons_zero, List.setIfInBounds_toArray, List.set_cons_zero, List.set_cons_succ]
            refine Script.load (i := 20) (v := ?_) rfl (by kernel_rfl) (by kernel_rfl) (fun _ _ _ h => h) (by kernel_rfl) ?_ ?_
            rotate_left
            · (intro wS hSw; have hB := After.trans (After.drew (After.refl _)) hSw; obtain ⟨k0', k1', f0, f1⟩ := two_facts (HS.out.later hB).1; go_simp; try with_reducible rfl)
            try simp only [Act.put, List.getElem_toArray, List.getElem_cons_succ, List.getElem_cons_zero, List.setIfInBounds_toArray, List.set_cons_zero, List.set_cons_succ]
            refine Script.load (i := 21) (v := ?_) rfl (by kernel_rfl) (by kernel_rfl) (fun _ _ _ h => h) (by kernel_rfl) ?_ ?_
            rotate_left
            · (intro wS hSw; have hB := After.trans (After.drew (After.refl _)) hSw; obtain ⟨k0', k1', f0, f1⟩ := two_facts (HS.out.later hB).1; go_simp; try with_reducible rfl)
            try simp only [Act.put, List.getElem_toArray, List.getElem_cons_succ, List.getElem_cons_zero, List.setIfInBounds_toArray, List.set_cons_zero, List.set_cons_succ]
            refine Script.call (i := 22) (v := ?_) rfl (by kernel_rfl) (by kernel_rfl) (fun _ _ _ h => h) (by kernel_rfl) ?_ ?_
            rotate_left
            · (intro wS hSw K hK; have hB := After.trans (After.drew (After.refl _)) hSw; obtain ⟨k0', k1', f0, f1⟩ := two_facts (HS.out.later hB).1; go_simp; go_at_call 13; refine (L4.out _).mono ?_; rintro e wc' ⟨rfl, hbc⟩; exact hK.out _ hbc)
            try simp only [Act.put, List.getElem_toArray, List.getElem_cons_succ, List.getElem_cons_zero, List.setIfInBounds_toArray, List.set_cons_zero, List.set_cons_succ]
            refine Script.load (i := 23) (v := ?_) rfl (by kernel_rfl) (by kernel_rfl) (fun _ _ _ h => h) (by kernel_rfl) ?_ ?_
            rotate_left
            · (intro wS hSw; have hB := After.trans (After.drew (After.refl _)) hSw; obtain ⟨k0', k1', f0, f1⟩ := two_facts (HS.out.later hB).1; go_simp; try with_reducible rfl)
            try simp only [Act.put, List.getElem_toArray, List.getElem_cons_succ, List.getElem_cons_zero, List.setIfInBounds_toArray, List.set_cons_zero, List.set_cons_succ]
            refine Script.load (i := 24) (v := ?_) rfl (by kernel_rfl) (by kernel_rfl) (fun _ _ _ h => h) (by kernel_rfl) ?_ ?_
            rotate_left
            · (intro wS hSw; have hB := After.trans (After.drew (After.refl _)) hSw; obtain ⟨k0', k1', f0, f1⟩ := two_facts (HS.out.later hB).1; go_simp; try with_reducible rfl)
            try simp only [Act.put, List.getElem_toArray, List.getElem_cons_succ, List.getElem_cons_zero, List.setIfInBounds_toArray, List.set_cons_zero, List.set_cons_succ]
            refine Script.load (i := 25) (v := ?_) rfl (by kernel_rfl) (by kernel_rfl) (fun _ _ _ h => h) (by kernel_rfl) ?_ ?_
            rotate_left
            · (intro wS hSw; have hB := After.trans (After.drew (After.refl _)) hSw; obtain ⟨k0', k1', f0, f1⟩ := two_facts (HS.out.later hB).1; go_simp; try with_reducible rfl)
            try simp only [Act.put, List.getElem_toArray, List.getElem_cons_succ, List.getElem_cons_zero, List.setIfInBounds_toArray, List.set_cons_zero, List.set_cons_succ]
            refine Script.load (i := 26) (v := ?_) rfl (by kernel_rfl) (by kernel_rfl) (fun _ _ _ h => h) (by kernel_rfl) ?_ ?_
            rotate_left
            · (intro wS hSw; have hB := After.trans (After.drew (After.refl _)) hSw; obtain ⟨k0', k1', f0, f1⟩ := two_facts (HS.out.later hB).1; go_simp; try with_reducible rfl)
            try simp only [Act.put, List.getElem_toArray, List.getElem_cons_succ, List.getElem_cons_zero, List.setIfInBounds_toArray, List.set_cons_zero, List.set_cons_succ]
            refine Script.call (i := 27) (v := ?_) rfl (by kernel_rfl) (by kernel_rfl) (fun _ _ _ h => h) (by kernel_rfl) ?_ ?_
            rotate_left
            · (intro wS hSw K hK; have hB := After.trans (After.drew (After.refl _)) hSw; obtain ⟨k0', k1', f0, f1⟩ := two_facts (HS.out.later hB).1; go_simp; go_at_call 12; refine (C4.out _ (HSx.out.later hB)).mono ?_; rintro e wc' ⟨rfl, hbc⟩; exact hK.out _ hbc)
            try simp only [Act.put, List.getElem_toArray, List.getElem_cons_succ, List.getElem_cons_zero, List.setIfInBounds_toArray, List.set_cons_zero, List.set_cons_succ]
            refine Script.load (i := 28) (v := ?_) rfl (by kernel_rfl) (by kernel_rfl) (fun _ _ _ h => h) (by kernel_rfl) ?_ ?_
            rotate_left
            · (intro wS hSw; have hB := After.trans (After.drew (After.refl _)) hSw; obtain ⟨k0', k1', f0, f1⟩ := two_facts (HS.out.later hB).1; go_simp; try with_reducible rfl)
            try simp only [Act.put, List.getElem_toArray, List.getElem_cons_succ, List.getElem_cons_zero, List.setIfInBounds_toArray, List.set_cons_zero, List.set_cons_succ]
            refine Script.load (i := 29) (v := ?_) rfl (by kernel_rfl) (by kernel_rfl) (fun _ _ _ h => h) (by kernel_rfl) ?_ ?_
            rotate_left
            · (intro wS hSw; have hB := After.trans (After.drew (After.refl _)) hSw; obtain ⟨k0', k1', f0, f1⟩ := two_facts (HS.out.later hB).1; go_simp; try with_reducible rfl)
            try simp only [Act.put, List.getElem_toArray, List.getElem_cons_succ, List.getElem_cons_zero, List.setIfInBounds_toArray, List.set_cons_zero, List.set_cons_succ]
            refine Script.load (i := 30) (v := ?_) rfl (by kernel_rfl) (by kernel_rfl) (fun _ _ _ h => h) (by kernel_rfl) ?_ ?_
            rotate_left
            · (intro wS hSw; have hB := After.trans (After.drew (After.refl _)) hSw; obtain ⟨k0', k1', f0, f1⟩ := two_facts (HS.out.later hB).1; go_simp; try with_reducible rfl)
            try simp only [Act.put, List.getElem_toArray, List.getElem_cons_succ, List.getElem_cons_zero, List.setIfInBounds_toArray, List.set_cons_zero, List.set_cons_succ]
            refine Script.call (i := 31) (v := ?_) rfl (by kernel_rfl) (by kernel_rfl) (fun _ _ _ h => h) (by kernel_rfl) ?_ ?_
            rotate_left
            · (intro wS hSw K hK; have hB := After.trans (After.drew (After.refl _)) hSw; obtain ⟨k0', k1', f0, f1⟩ := two_facts (HS.out.later hB).1; go_simp; go_at_call 12; refine (C5.out _ (HSx.out.later hB)).mono ?_; rintro e wc' ⟨rfl, hbc⟩; exact hK.out _ hbc)
            try simp only [Act.put, List.getElem_toArray, List.getElem_cons_succ, List.getElem_cons_zero, List.setIfInBounds_toArray, List.set_cons_zero, List.set_cons_succ]
            refine Script.load (i := 32) (v := ?_) rfl (by kernel_rfl) (by kernel_rfl) (fun _ _ _ h => h) (by kernel_rfl) ?_ ?_
            rotate_left
            · (intro wS hSw; have hB := After.trans (After.drew (After.refl _)) hSw; obtain ⟨k0', k1', f0, f1⟩ := two_facts (HS.out.later hB).1; go_simp; try with_reducible rfl)
            try simp only [Act.put, List.getElem_toArray, List.getElem_cons_succ, List.getElem_cons_zero, List.setIfInBounds_toArray, List.set_cons_zero, List.set_cons_succ]
            refine Script.load (i := 33) (v := ?_) rfl (by kernel_rfl) (by kernel_rfl) (fun _ _ _ h => h) (by kernel_rfl) ?_ ?_
            rotate_left
            · (intro wS hSw; have hB := After.trans (After.drew (After.refl _)) hSw; obtain ⟨k0', k1', f0, f1⟩ := two_facts (HS.out.later hB).1; go_simp; try with_reducible rfl)
            try simp only [Act.put, List.getElem_toArray, List.getElem_cons_succ, List.getElem_cons_zero, List.setIfInBounds_toArray, List.set_cons_zero, List.set_cons_succ]
            refine Script.load (i := 34) (v := ?_) rfl (by kernel_rfl) (by kernel_rfl) (fun _ _ _ h => h) (by kernel_rfl) ?_ ?_
            rotate_left
            · (intro wS hSw; have hB := After.trans (After.drew (After.refl _)) hSw; obtain ⟨k0', k1', f0, f1⟩ := two_facts (HS.out.later hB).1; go_simp; try with_reducible rfl)
            try simp only [Act.put, List.getElem_toArray, List.getElem_cons_succ, List.getElem_cons_zero, List.setIfInBounds_toArray, List.set_cons_zero, List.set_cons_succ]
            refine Script.done (by kernel_rfl) ?_
            intro wD hD hG
            have HF := Lib.hid (HB9.out.trans (Below.mono (After.trans (After.drew (After.refl _)) hD) HB9.out.size))
            clear hD hG
            go_wp2_with fail
            go_ret
            exact ⟨rfl, HF.out⟩
set_option maxRecDepth 100000 in
theorem walk_far {a0 : Option Addr} {len cap : Nat} (w : World) (h : 1048576 < len) :
    Calls Try.prog 3 #[.slice a0 len cap] w fun e w' => e = .returned (.bool true) ∧ Below w.heap.size w w' := by
  go_enter Try.func3, Try.ntmps3
  go_wp2_with fail
  refine (big_yes _ h).mono ?_
  rintro e w' ⟨rfl, rfl⟩
  go_wp2_with fail
  go_ret
  exact ⟨rfl, Below.refl _ _⟩
theorem walk (a0 : Option Addr) (len0 cap0 : Nat) (z0 : List Int) (w : World) (w0 : IsRow .u8 w a0 len0 cap0 z0) :
    Calls Try.prog 3 #[.slice a0 len0 cap0] w fun e w' => e = .returned (.bool true) ∧ Below w.heap.size w w' := by
  by_cases h2 : len0 ≤ 1048576
  · exact walk_in w (code_of w0 h2)
  · exact walk_far w (by omega)
set_option maxRecDepth 100000 in
theorem lifted (os : Os) (started : os.Started) (H : Type) (enc : TypeId × Value → H) :
    ReturnsInHanded {} Try.checked os 3 .any (Rows.fnArmiesSpec.pre6 enc Try.prog Try.f3 Rows.fnArmiesRow.domain false) (Rows.fnArmiesSpec.post enc Try.prog Try.f3 false true false false) := by
  refine returnsInHanded_of_change (C := Try.checked) own started (by kernel_rfl) Try.func3
    (ChangeSpec.witness6 (enc := enc) (C := Try.checked) false ⟨#[], #[.slice none 0 0], []⟩ 8 (by kernel_rfl) (by kernel_rfl) (by kernel_rfl) (by kernel_rfl)) ?_
  intro W base args ds gs before hval0 hW hcnd _
  have hval : ∀ (j : Nat) t v, Try.f3.params[j]? = some t → args[j]? = some v → Value.okWide Try.prog W .any base t v := hval0
  have hW' := hW
  obtain ⟨p, q, hA0, hV, rfl, hfz, hnd⟩ := hW
  have hA : DataW.TrodAll enc Try.prog W 0 (fun _ => true) true Try.f3.params.toList args.toList ds p := hA0
  rw [Try.params3] at hA hval
  obtain ⟨v0, vs0, d0, ds0, p0, q0, hargs, rfl, rfl, h0, r0⟩ := trodAll_cons hA
  obtain ⟨rfl, rfl, rfl⟩ := trodAll_nil r0
  obtain rfl : args = #[v0] := by cases args; simp_all
  obtain ⟨rfl, rfl⟩ := trodVars_none hV
  obtain ⟨a0, len0, cap0, rfl⟩ := okWide_slice Try.underlying22 (hval 0 22 v0 rfl rfl)
  have k0 := h0
  have lt0 : ∀ x ∈ p0, x.block < W.heap.size := by obtain ⟨m, hm⟩ := k0; exact DataW.trod_lt m _ _ _ hm
  obtain ⟨z0, w0⟩ : ∃ zs, IsRow .u8 W a0 len0 cap0 zs := by
    obtain ⟨fuel, hf⟩ := h0
    rcases open_ints Try.underlying22 Try.underlying5 (by kernel_rfl) hf with ⟨hcs, _⟩ | ⟨x, l, c, zs, hcs, _, hl, hm, hz, _, hcell, hwz⟩
    · simp [Value.cells] at hcs
      obtain ⟨rfl, rfl, rfl⟩ := hcs
      exact ⟨[], .inl ⟨rfl, rfl, rfl, rfl⟩⟩
    · simp [Value.cells] at hcs
      obtain ⟨rfl, rfl, rfl⟩ := hcs
      exact ⟨zs, .inr ⟨_, rfl, hl, hm, by simpa using hz, hcell, hwz⟩⟩
  clear hA0 hval0
  refine (walk a0 len0 cap0 z0 W w0).mono fun e W' ⟨he, bel⟩ => ?_
  subst he
  exact ⟨_, rfl, _, _, _, [], _, [], hW', trodAll_mk1 (shut_bool Try.underlying4 _), (trodAll_cons_mk (Below.trod laidOut (by kernel_rfl) (of_decide_eq_true (by kernel_rfl)) k0 bel lt0) trodAll_mk0), rfl, bel.frame _, fun h => by cases h⟩

theorem over : Rows.fnArmiesRow.holds Try.pinned (OpenSpec.ofChange Rows.fnArmiesSpec) :=
  OpenClaim.holds_of_wide 3 Try.f3 rfl rfl rfl rfl rfl rfl rfl ⟨rfl, rfl, rfl, rfl, rfl⟩ rfl rfl rfl rfl rfl (by kernel_rfl) Try.func3 (by kernel_rfl)
    (of_decide_eq_true (by kernel_rfl)) (by unfold Func.isWrapper; first | (rw [if_pos (by decide +kernel)]; kernel_rfl) | (rw [if_neg (by decide +kernel)]; exact ⟨rfl, rfl⟩))
    (fun os started H enc _ => lifted os started H enc)

theorem proved : Rows.FnArmiesSaid := over
end Go.Proofs.Ytoginbmflomjeaa.fnArmies
