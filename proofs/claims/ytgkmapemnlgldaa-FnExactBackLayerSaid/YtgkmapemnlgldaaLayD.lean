/- Meetings and the widest layer, of the model, for every three ints and ints up to 2^63 - 1. -/
import Derived.Test.YtgkmapemnlgldaaLayC
namespace Go.Proofs.Ytgkmapemnlgldaa
open Go.RowKit
set_option linter.unusedVariables false
set_option linter.unusedSimpArgs false
theorem ints_il (l : List Nat) : Ints l = iv (il l) := by simp [Ints, iv, il]
theorem ints_at {w : World} {B n c : Nat} {va : Option Addr} {l : List Nat} (h : w.ownsRow B 3 1 (.slice va n c) n (Ints l)) (hn : l.length = n) : IntsAt w va n (il l) := by
  rw [ints_il] at h
  exact ints_own h (by simp [il, hn])
theorem meetL_no {W H Z P G n : Int} (h : (smallB W H Z && posB W H Z P && posB W H Z G && decide (0 ≤ n ∧ n ≤ countB W H Z P - countB W H Z G)) = false) : meetL W H Z P G n = [] := by unfold meetL; rw [h]; rfl
set_option maxHeartbeats 4000000 in
set_option maxRecDepth 100000 in
theorem specMeet (W H Z P G n : Int) (hP : P ≤ 9223372036854775807) (hG : G ≤ 9223372036854775807) (hn : n ≤ 9223372036854775807) (w : World) : Calls Try.prog 28 #[.agg #[.int .i64 W, .int .i64 H, .int .i64 Z], .int .i64 P, .int .i64 G, .int .i64 n] w (OwnIv (meetL W H Z P G n) w) := by
  have CP := Lib.hid (fun w => specPegs W H Z P hP w)
  have CG := Lib.hid (fun w => specPegs W H Z G hG w)
  have CO := Lib.hid (fun w => specL15Ok W H Z P G hP hG w)
  have CI := Lib.hid (fun d w => specIn n 0 d w)
  have hx := count_in W H Z P
  have hy := count_in W H Z G
  have HNew : Hid (∀ (w1 : World), Below w.heap.size w w1 → OwnIv [] w (.returned (.slice (some ⟨w1.heap.size, 0, none⟩) 0 0)) (w1.alloc (.cells #[] 3))) := fun w1 hb => ⟨_, rfl, World.ownsRow_made w1 #[] 0 hb.size (by unfold maxLen; omega) rfl, hb.alloc hb.size _⟩
  have HM : Hid (meetL W H Z P G n = if (smallB W H Z && posB W H Z P && posB W H Z G && decide (0 ≤ n ∧ n ≤ countB W H Z P - countB W H Z G)) = true then commL (il (layL false W H Z P n)) (il (layL true W H Z G (countB W H Z P - countB W H Z G - n))) else []) := rfl
  have C1 := Lib.hid (fun w => specLayerOf W H Z P n hP hn w)
  have C2 := Lib.hid (fun m (hm : m ≤ 9223372036854775807) w => specBackLayer W H Z G m hG hm w)
  have L1 := Lib.hid (layL_len false W H Z P n)
  have L2 := Lib.hid (fun m => layL_len true W H Z G m)
  generalize countB W H Z P = x at *
  generalize countB W H Z G = y at *
  generalize layL false W H Z P n = la at *
  obtain ⟨ok, hok⟩ : ∃ ok, (smallB W H Z && posB W H Z P && posB W H Z G) = ok := ⟨_, rfl⟩
  rw [hok] at HM CO
  have hw : IntKind.i64.wrap (x - y) = x - y := IntWalk.i64_in _ (by omega)
  obtain ⟨d, hd⟩ : ∃ d, x - y = d := ⟨_, rfl⟩
  rw [hd] at HM
  have hw0 : IntKind.i64.wrap (x - y) = d := hw.trans hd
  have hd0 : -50 ≤ d ∧ d ≤ 50 := by omega
  have HD := Lib.hid hd
  clear hP hG hx hy hok hd hw
  go_enter Try.func28, Try.ntmps28
  go_wp2_with fail
  have B0 := Lib.hid (box_new W H Z w)
  generalize w.alloc (.cells #[.int .i64 W, .int .i64 H, .int .i64 Z] 25) = W1 at *
  refine wp_region_script (by kernel_rfl) (by kernel_rfl) ?_
  refine Script.load (i := 0) (v := ?_) rfl (by kernel_rfl) (by kernel_rfl) (fun _ _ _ h => h) (by kernel_rfl) ?_ ?_
  rotate_left
  · (intro wS hSw; obtain ⟨c0, c1, c2, -, -⟩ := B0.out.later (After.trans (After.drew (After.refl _)) hSw); go_simp; try with_reducible rfl)
  try simp only [Act.put, List.getElem_toArray, List.getElem_cons_succ, List.getElem_cons_zero, List.setIfInBounds_toArray, List.set_cons_zero, List.set_cons_succ]
  refine Script.load (i := 1) (v := ?_) rfl (by kernel_rfl) (by kernel_rfl) (fun _ _ _ h => h) (by kernel_rfl) ?_ ?_
  rotate_left
  · (intro wS hSw; obtain ⟨c0, c1, c2, -, -⟩ := B0.out.later (After.trans (After.drew (After.refl _)) hSw); go_simp; try with_reducible rfl)
  try simp only [Act.put, List.getElem_toArray, List.getElem_cons_succ, List.getElem_cons_zero, List.setIfInBounds_toArray, List.set_cons_zero, List.set_cons_succ]
  refine Script.call (i := 2) (v := ?_) rfl (by kernel_rfl) (by kernel_rfl) (fun _ _ _ h => h) (by kernel_rfl) ?_ ?_
  rotate_left
  · (intro wS hSw K hK; obtain ⟨c0, c1, c2, -, -⟩ := B0.out.later (After.trans (After.drew (After.refl _)) hSw); go_simp; go_at_call 11; refine (CP.out _).mono ?_; rintro e wc ⟨rfl, hbc⟩; exact hK.out _ hbc)
  try simp only [Act.put, List.getElem_toArray, List.getElem_cons_succ, List.getElem_cons_zero, List.setIfInBounds_toArray, List.set_cons_zero, List.set_cons_succ]
  refine Script.load (i := 3) (v := ?_) rfl (by kernel_rfl) (by kernel_rfl) (fun _ _ _ h => h) (by kernel_rfl) ?_ ?_
  rotate_left
  · (intro wS hSw; obtain ⟨c0, c1, c2, -, -⟩ := B0.out.later (After.trans (After.drew (After.refl _)) hSw); go_simp; try with_reducible rfl)
  try simp only [Act.put, List.getElem_toArray, List.getElem_cons_succ, List.getElem_cons_zero, List.setIfInBounds_toArray, List.set_cons_zero, List.set_cons_succ]
  refine Script.load (i := 4) (v := ?_) rfl (by kernel_rfl) (by kernel_rfl) (fun _ _ _ h => h) (by kernel_rfl) ?_ ?_
  rotate_left
  · (intro wS hSw; obtain ⟨c0, c1, c2, -, -⟩ := B0.out.later (After.trans (After.drew (After.refl _)) hSw); go_simp; try with_reducible rfl)
  try simp only [Act.put, List.getElem_toArray, List.getElem_cons_succ, List.getElem_cons_zero, List.setIfInBounds_toArray, List.set_cons_zero, List.set_cons_succ]
  refine Script.call (i := 5) (v := ?_) rfl (by kernel_rfl) (by kernel_rfl) (fun _ _ _ h => h) (by kernel_rfl) ?_ ?_
  rotate_left
  · (intro wS hSw K hK; obtain ⟨c0, c1, c2, -, -⟩ := B0.out.later (After.trans (After.drew (After.refl _)) hSw); go_simp; go_at_call 11; refine (CG.out _).mono ?_; rintro e wc ⟨rfl, hbc⟩; exact hK.out _ hbc)
  try simp only [Act.put, List.getElem_toArray, List.getElem_cons_succ, List.getElem_cons_zero, List.setIfInBounds_toArray, List.set_cons_zero, List.set_cons_succ]
  refine Script.load (i := 6) (v := ?_) rfl (by kernel_rfl) (by kernel_rfl) (fun _ _ _ h => h) (by kernel_rfl) ?_ ?_
  rotate_left
  · (intro wS hSw; obtain ⟨c0, c1, c2, -, -⟩ := B0.out.later (After.trans (After.drew (After.refl _)) hSw); go_simp; try with_reducible rfl)
  try simp only [Act.put, List.getElem_toArray, List.getElem_cons_succ, List.getElem_cons_zero, List.setIfInBounds_toArray, List.set_cons_zero, List.set_cons_succ]
  refine Script.load (i := 7) (v := ?_) rfl (by kernel_rfl) (by kernel_rfl) (fun _ _ _ h => h) (by kernel_rfl) ?_ ?_
  rotate_left
  · (intro wS hSw; obtain ⟨c0, c1, c2, -, -⟩ := B0.out.later (After.trans (After.drew (After.refl _)) hSw); go_simp; try with_reducible rfl)
  try simp only [Act.put, List.getElem_toArray, List.getElem_cons_succ, List.getElem_cons_zero, List.setIfInBounds_toArray, List.set_cons_zero, List.set_cons_succ]
  refine Script.done (by kernel_rfl) ?_
  intro wD hD hG
  have B1 := Lib.hid (B0.out.later (After.trans (After.drew (After.refl _)) hD))
  clear hD hG B0
  obtain ⟨c0, c1, c2, hlt, hb1⟩ := B1.out
  go_wp2_with fail
  refine (CO.out _).mono ?_
  rintro e w2 ⟨rfl, hb⟩
  have B2 := Lib.hid (B1.out.later hb)
  clear hb c0 c1 c2 hlt hb1
  cases ok
  · have HF := Lib.hid (HNew.out w2 B2.out.2.2.2.2)
    have HE : Hid (meetL W H Z P G n = []) := by unfold Hid; rw [HM.out]; rfl
    rw [← HE.out] at HF
    clear HM
    go_wp2_with fail
    go_ret
    exact HF.out
  · have CI2 := Lib.hid (CI.out d)
    go_wp2_with fail
    refine (CI2.out _).mono ?_
    rintro e w3 ⟨rfl, rfl⟩
    cases hi : inB n 0 d
    · have HF := Lib.hid (HNew.out w2 B2.out.2.2.2.2)
      have HE : Hid (meetL W H Z P G n = []) := by
        unfold Hid
        rw [HM.out, show decide (0 ≤ n ∧ n ≤ d) = false from by simpa [inB] using hi]
        rfl
      rw [← HE.out] at HF
      clear HM hi
      go_wp2_with fail
      go_ret
      exact HF.out
    · have hi' : 0 ≤ n ∧ n ≤ d := by simpa [inB] using hi
      have HE : Hid (meetL W H Z P G n = commL (il la) (il (layL true W H Z G (d - n)))) := by
        unfold Hid
        rw [HM.out, show decide (0 ≤ n ∧ n ≤ d) = true from decide_eq_true hi']
        rfl
      have hw2 : IntKind.i64.wrap (d - n) = d - n := IntWalk.i64_in _ (by omega)
      have C3 := Lib.hid (C2.out (d - n) (by omega))
      have L3 := Lib.hid (L2.out (d - n))
      generalize layL true W H Z G (d - n) = lb at *
      have CC := Lib.hid (fun (a0 a1 : Option Addr) (n0 c0 n1 c1 : Nat) (w : World) (hx : n0 ≤ 1048576) (hy : n1 ≤ 1048576) (h0 : IntsAt w a0 n0 (il la)) (h1 : IntsAt w a1 n1 (il lb)) (hl0 : (il la).length = n0) (hl1 : (il lb).length = n1) => specCommon (c0 := c0) (c1 := c1) w hx hy h0 h1 hl0 hl1)
      obtain ⟨res, hres⟩ : ∃ r, commL (il la) (il lb) = r := ⟨_, rfl⟩
      rw [hres] at CC
      have HE2 : Hid (meetL W H Z P G n = res) := by unfold Hid; rw [HE.out, hres]
      obtain ⟨na, hna⟩ : ∃ m, la.length = m := ⟨_, rfl⟩
      obtain ⟨nb, hnb⟩ : ∃ m, lb.length = m := ⟨_, rfl⟩
      have hna65 : na ≤ 65536 := by rw [← hna]; exact L1.out
      have hnb65 : nb ≤ 65536 := by rw [← hnb]; exact L3.out
      have HNa := Lib.hid hna
      have HNb := Lib.hid hnb
      have HIa : Hid ((il la).length = na) := by unfold Hid; simp [il, hna]
      have HIb : Hid ((il lb).length = nb) := by unfold Hid; simp [il, hnb]
      clear hi hi' HM HE hna hnb C2 L2 hres
      obtain ⟨dn, hdn⟩ : ∃ e, d - n = e := ⟨_, rfl⟩
      rw [hdn] at C3
      have hw3 : IntKind.i64.wrap (d - n) = dn := hw2.trans hdn
      clear hdn hw2
      go_wp2_with fail
      refine wp_region_script (by kernel_rfl) (by kernel_rfl) ?_
      refine Script.load (i := 0) (v := ?_) rfl (by kernel_rfl) (by kernel_rfl) (fun _ _ _ h => h) (by kernel_rfl) ?_ ?_
      rotate_left
      · (intro wS hSw; obtain ⟨c0, c1, c2, -, -⟩ := B2.out.later (After.trans (After.drew (After.refl _)) hSw); go_simp; try with_reducible rfl)
      try simp only [Act.put, List.getElem_toArray, List.getElem_cons_succ, List.getElem_cons_zero, List.setIfInBounds_toArray, List.set_cons_zero, List.set_cons_succ]
      refine Script.load (i := 1) (v := ?_) rfl (by kernel_rfl) (by kernel_rfl) (fun _ _ _ h => h) (by kernel_rfl) ?_ ?_
      rotate_left
      · (intro wS hSw; obtain ⟨c0, c1, c2, -, -⟩ := B2.out.later (After.trans (After.drew (After.refl _)) hSw); go_simp; try with_reducible rfl)
      try simp only [Act.put, List.getElem_toArray, List.getElem_cons_succ, List.getElem_cons_zero, List.setIfInBounds_toArray, List.set_cons_zero, List.set_cons_succ]
      refine Script.load (i := 2) (v := ?_) rfl (by kernel_rfl) (by kernel_rfl) (fun _ _ _ h => h) (by kernel_rfl) ?_ ?_
      rotate_left
      · (intro wS hSw; obtain ⟨c0, c1, c2, -, -⟩ := B2.out.later (After.trans (After.drew (After.refl _)) hSw); go_simp; try with_reducible rfl)
      try simp only [Act.put, List.getElem_toArray, List.getElem_cons_succ, List.getElem_cons_zero, List.setIfInBounds_toArray, List.set_cons_zero, List.set_cons_succ]
      refine Script.load (i := 4) (v := ?_) rfl (by kernel_rfl) (by kernel_rfl) (fun _ _ _ h => h) (by kernel_rfl) ?_ ?_
      rotate_left
      · (intro wS hSw; obtain ⟨c0, c1, c2, -, -⟩ := B2.out.later (After.trans (After.drew (After.refl _)) hSw); go_simp; try with_reducible rfl)
      try simp only [Act.put, List.getElem_toArray, List.getElem_cons_succ, List.getElem_cons_zero, List.setIfInBounds_toArray, List.set_cons_zero, List.set_cons_succ]
      refine Script.load (i := 5) (v := ?_) rfl (by kernel_rfl) (by kernel_rfl) (fun _ _ _ h => h) (by kernel_rfl) ?_ ?_
      rotate_left
      · (intro wS hSw; obtain ⟨c0, c1, c2, -, -⟩ := B2.out.later (After.trans (After.drew (After.refl _)) hSw); go_simp; try with_reducible rfl)
      try simp only [Act.put, List.getElem_toArray, List.getElem_cons_succ, List.getElem_cons_zero, List.setIfInBounds_toArray, List.set_cons_zero, List.set_cons_succ]
      refine Script.load (i := 6) (v := ?_) rfl (by kernel_rfl) (by kernel_rfl) (fun _ _ _ h => h) (by kernel_rfl) ?_ ?_
      rotate_left
      · (intro wS hSw; obtain ⟨c0, c1, c2, -, -⟩ := B2.out.later (After.trans (After.drew (After.refl _)) hSw); go_simp; try with_reducible rfl)
      try simp only [Act.put, List.getElem_toArray, List.getElem_cons_succ, List.getElem_cons_zero, List.setIfInBounds_toArray, List.set_cons_zero, List.set_cons_succ]
      refine Script.load (i := 7) (v := ?_) rfl (by kernel_rfl) (by kernel_rfl) (fun _ _ _ h => h) (by kernel_rfl) ?_ ?_
      rotate_left
      · (intro wS hSw; obtain ⟨c0, c1, c2, -, -⟩ := B2.out.later (After.trans (After.drew (After.refl _)) hSw); go_simp; try with_reducible rfl)
      try simp only [Act.put, List.getElem_toArray, List.getElem_cons_succ, List.getElem_cons_zero, List.setIfInBounds_toArray, List.set_cons_zero, List.set_cons_succ]
      refine Script.load (i := 8) (v := ?_) rfl (by kernel_rfl) (by kernel_rfl) (fun _ _ _ h => h) (by kernel_rfl) ?_ ?_
      rotate_left
      · (intro wS hSw; obtain ⟨c0, c1, c2, -, -⟩ := B2.out.later (After.trans (After.drew (After.refl _)) hSw); go_simp; try with_reducible rfl)
      try simp only [Act.put, List.getElem_toArray, List.getElem_cons_succ, List.getElem_cons_zero, List.setIfInBounds_toArray, List.set_cons_zero, List.set_cons_succ]
      refine Script.one (i := 3) rfl (by kernel_rfl) (by kernel_rfl) ?_
      intro wO hO K hK; have hSw := hO; obtain ⟨c0, c1, c2, -, -⟩ := B2.out.later (After.trans (After.drew (After.refl _)) hSw); go_simp
      clear hSw
      go_at_call 20; refine (C1.out _).mono ?_; rintro e wc ⟨v1, rfl, ho1, hbc⟩
      refine hK.out _ _ hbc ?_
      clear hK K
      try simp only [Act.put, List.getElem_toArray, List.getElem_cons_succ, List.getElem_cons_zero, List.setIfInBounds_toArray, List.set_cons_zero, List.set_cons_succ]
      have HO3 := Lib.hid (After.trans (After.drew (After.refl _)) (After.trans hO hbc))
      have HR1 := Lib.hid ho1
      have HB3 : Hid (Below w.heap.size w wc) := B2.out.2.2.2.2.trans (Below.mono HO3.out B2.out.2.2.2.2.size)
      clear ho1 c0 c1 c2
      refine Script.one (i := 9) rfl (by kernel_rfl) (by kernel_rfl) ?_
      intro wO hO K hK; have hSw := hO; skip; go_simp
      clear hSw
      go_at_call 25; refine (C3.out _).mono ?_; rintro e wc' ⟨v2, rfl, ho2, hbc⟩
      refine hK.out _ _ hbc ?_
      clear hK K
      try simp only [Act.put, List.getElem_toArray, List.getElem_cons_succ, List.getElem_cons_zero, List.setIfInBounds_toArray, List.set_cons_zero, List.set_cons_succ]
      have HO9 := Lib.hid (After.trans hO hbc)
      have HR2 := Lib.hid ho2
      have HB9 : Hid (Below w.heap.size w wc') := HB3.out.trans (Below.mono HO9.out HB3.out.size)
      clear ho2
      rw [HNa.out] at HR1
      rw [HNb.out] at HR2
      obtain ⟨va1, vc1, rfl⟩ := one_form HR1.out
      obtain ⟨va2, vc2, rfl⟩ := one_form HR2.out
      refine Script.one (i := 10) rfl (by kernel_rfl) (by kernel_rfl) ?_
      intro wO hO K hK; have hSw := hO; skip; go_simp
      clear hSw
      go_at_call 26; refine (CC.out va1 va2 na vc1 nb vc2 _ (by omega) (by omega) (ints_at (own_below HR1.out (After.trans HO9.out hO)) HNa.out) (ints_at (own_below HR2.out hO) HNb.out) HIa.out HIb.out).mono ?_; rintro e wc3 ⟨v3, rfl, ho3, hbc⟩
      refine hK.out _ _ hbc ?_
      clear hK K
      try simp only [Act.put, List.getElem_toArray, List.getElem_cons_succ, List.getElem_cons_zero, List.setIfInBounds_toArray, List.set_cons_zero, List.set_cons_succ]
      have HB10 : Hid (Below w.heap.size w wO) := HB9.out.trans (Below.mono hO HB9.out.size)
      have HR3 := Lib.hid (own_base ho3 HB10.out.size)
      have HB11 : Hid (Below w.heap.size w wc3) := HB10.out.trans (Below.mono hbc HB10.out.size)
      clear ho3
      refine Script.load (i := 11) (v := ?_) rfl (by kernel_rfl) (by kernel_rfl) (fun _ _ _ h => h) (by kernel_rfl) ?_ ?_
      rotate_left
      · (intro wS hSw; skip; go_simp; try with_reducible rfl)
      try simp only [Act.put, List.getElem_toArray, List.getElem_cons_succ, List.getElem_cons_zero, List.setIfInBounds_toArray, List.set_cons_zero, List.set_cons_succ]
      refine Script.done (by kernel_rfl) ?_
      intro wD hD hG
      have HF : Hid (OwnIv res w (.returned v3) wD) := ⟨_, rfl, own_below HR3.out hD, HB11.out.trans (Below.mono hD HB11.out.size)⟩
      clear hD hG
      go_wp2_with fail
      go_ret
      rw [HE2.out]
      exact HF.out
set_option maxHeartbeats 4000000 in
set_option maxRecDepth 100000 in
theorem specWid (W H Z P : Int) (hP : P ≤ 9223372036854775807) (w : World) : Calls Try.prog 29 #[.agg #[.int .i64 W, .int .i64 H, .int .i64 Z], .int .i64 P] w (QI (widB W H Z P) w) := by
  have C1 := Lib.hid (fun w => specLayerOf W H Z P 0 hP (by decide) w)
  cases hok : (smallB W H Z && posB W H Z P)
  · have HE : Hid (widB W H Z P = -1) := by unfold Hid widB; rw [hok]; rfl
    rw [layL_no (by rw [hok]; rfl)] at C1
    clear hok hP
    go_enter Try.func29, Try.ntmps29
    go_wp2_with fail
    have B0 := Lib.hid (box_new W H Z w)
    generalize w.alloc (.cells #[.int .i64 W, .int .i64 H, .int .i64 Z] 25) = W1 at *
    obtain ⟨c0, c1, c2, hlt, hb1⟩ := B0.out
    go_wp2_with fail
    refine (C1.out _).mono ?_
    rintro e w1 ⟨v, rfl, ho, hb⟩
    obtain ⟨va, vc, rfl⟩ := one_form ho
    have B1 := Lib.hid (B0.out.later hb)
    clear ho hb c0 c1 c2 hlt hb1
    go_wp2_with fail
    go_ret
    exact ⟨ret_int HE.out.symm, B1.out.2.2.2.2⟩
  · have hok' := hok
    rw [Bool.and_eq_true] at hok'
    obtain ⟨h1, h2⟩ := hok'
    obtain ⟨a, b, N, z, p, S⟩ := small5 h1 h2
    obtain ⟨rfl, rfl, rfl, rfl, ho, h16, hp⟩ := S
    have hpM := part_lt hp ho.zlt
    have HE : Hid (widB (a : Int) b z (p : Int) = ((widK (fun n => (layK (stepL false (lnsOf (a : Int) b z)) (2 ^ N) p n).length) 50).1 : Int)) := by
      unfold Hid widB
      rw [hok, if_pos rfl]
      congr 2
      rw [show (fun n : Nat => (layL false (a : Int) b z (p : Int) (n : Int)).length) = (fun n => (layK (stepL false (lnsOf (a : Int) b z)) (2 ^ N) p n).length) from funext fun n => by rw [layL_yes ho h16 hp n]]
    have e0 := layL_yes (back := false) ho h16 hp 0
    rw [show ((0 : Nat) : Int) = 0 from rfl] at e0
    rw [e0] at C1
    have HLen : Hid (∀ k, (layK (stepL false (lnsOf (a : Int) b z)) (2 ^ N) p k).length ≤ 65536) := fun k => Nat.le_trans (layK_len hpM k) (Nat.pow_le_pow_right (by decide) h16)
    have CN2 : Hid (∀ (k nn : Nat) (hk : (layK (stepL false (lnsOf (a : Int) b z)) (2 ^ N) p k).length = nn) (Bx vc : Nat) (va : Option Addr) (w : World), w.ownsRow Bx 3 1 (.slice va nn vc) nn (Ints (layK (stepL false (lnsOf (a : Int) b z)) (2 ^ N) p k)) → Calls Try.prog 48 #[.agg #[.int .i64 a, .int .i64 b, .int .i64 z], .slice va nn vc, .bool false] w (OwnInts (layK (stepL false (lnsOf (a : Int) b z)) (2 ^ N) p (k + 1)) w)) := fun k nn hk Bx vc va w hr => specNext (Bx := Bx) (vc := vc) (va := va) false ho h16 hk (by rw [← hk]; exact Nat.le_trans (layK_len hpM k) (Nat.pow_le_pow_right (by decide) h16)) (lay_parts ho hp k) w hr
    have H50 : Hid (∀ k, 50 ≤ k → (layK (stepL false (lnsOf (a : Int) b z)) (2 ^ N) p k).length = 0) := fun k hk => by rw [lay_none ho false k hk]; rfl
    have HStop : Hid (∀ k, k ≤ 50 → (layK (stepL false (lnsOf (a : Int) b z)) (2 ^ N) p k).length = 0 → widK (fun n => (layK (stepL false (lnsOf (a : Int) b z)) (2 ^ N) p n).length) 50 = widK (fun n => (layK (stepL false (lnsOf (a : Int) b z)) (2 ^ N) p n).length) k) := fun k hk h => by
      have := widK_stop (len := fun n => (layK (stepL false (lnsOf (a : Int) b z)) (2 ^ N) p n).length) (n := k) (fun m hm => by
        have := layK_nil (List.eq_nil_of_length_eq_zero h) (m - k)
        rw [show k + (m - k) = m by omega] at this
        show (layK (stepL false (lnsOf (a : Int) b z)) (2 ^ N) p m).length = 0
        rw [this]; rfl) (50 - k)
      rwa [show k + (50 - k) = 50 by omega] at this
    have HW : Hid (∀ k, widK (fun n => (layK (stepL false (lnsOf (a : Int) b z)) (2 ^ N) p n).length) (k + 1) = if (widK (fun n => (layK (stepL false (lnsOf (a : Int) b z)) (2 ^ N) p n).length) k).2 < (layK (stepL false (lnsOf (a : Int) b z)) (2 ^ N) p (k + 1)).length then (k + 1, (layK (stepL false (lnsOf (a : Int) b z)) (2 ^ N) p (k + 1)).length) else widK (fun n => (layK (stepL false (lnsOf (a : Int) b z)) (2 ^ N) p n).length) k) := fun k => rfl
    have HW0 : Hid (widK (fun n => (layK (stepL false (lnsOf (a : Int) b z)) (2 ^ N) p n).length) 0 = (0, (layK (stepL false (lnsOf (a : Int) b z)) (2 ^ N) p 0).length)) := rfl
    have HL0 : Hid (0 < (layK (stepL false (lnsOf (a : Int) b z)) (2 ^ N) p 0).length) := by unfold Hid; simp [layK]
    rw [HE.out]
    generalize widK (fun n => (layK (stepL false (lnsOf (a : Int) b z)) (2 ^ N) p n).length) = wk at *
    generalize layK (stepL false (lnsOf (a : Int) b z)) (2 ^ N) p = lay at *
    clear hok h1 h2 hP ho h16 hp hpM e0 HE
    go_enter Try.func29, Try.ntmps29
    go_wp2_with fail
    have B0 := Lib.hid (box_new a b z w)
    generalize w.alloc (.cells #[.int .i64 (a : Int), .int .i64 (b : Int), .int .i64 (z : Int)] 25) = W1 at *
    obtain ⟨c0, c1, c2, hlt, hb1⟩ := B0.out
    go_wp2_with fail
    refine (C1.out _).mono ?_
    rintro e w1 ⟨v, rfl, hh, hb⟩
    obtain ⟨n0, hn0⟩ : ∃ m, (lay 0).length = m := ⟨_, rfl⟩
    have HN0 := Lib.hid hn0
    have hp0 : 0 < n0 := by rw [← hn0]; exact HL0.out
    have hnb : ((n0 : Int) == 0) = false := by simp; omega
    rw [hn0] at hh
    obtain ⟨va, vc, rfl⟩ := one_form hh
    have HR1 : Hid (w1.ownsRow w.heap.size 3 1 (.slice va n0 vc) (lay 0).length (Ints (lay 0))) := by unfold Hid; rw [HN0.out]; exact own_base hh hb1.size
    have B1 := Lib.hid (B0.out.later hb)
    have HK0 : Hid (wk 0 = (0, n0)) := by unfold Hid; rw [HW0.out, HN0.out]
    clear hh hb c0 c1 c2 hlt hb1 hn0
    go_wp2_with fail
    go_loopw [5, 6, 7, 8] (fun s u q i wr => ∃ (k best most : Nat) (v : Value), k ≤ 50 ∧ i = .int .i64 ((k : Int) + 1) ∧ u = .int .i64 best ∧ q = .int .i64 most ∧ v = s ∧ best ≤ 50 ∧ most ≤ 65536 ∧ Hid (wk k = (best, most)) ∧ Hid (wr.ownsRow w.heap.size 3 1 v (lay k).length (Ints (lay k))) ∧ Hid (Box w.heap.size a b z w wr)) (fun _ _ _ i _ => 60 - (intOf i).toNat)
    case atStart => exact ⟨0, 0, n0, _, by omega, rfl, rfl, rfl, rfl, by omega, by rw [← HN0.out]; exact HLen.out 0, HK0, HR1, B1⟩
    case round =>
      clear HR1 B1 HK0
      obtain ⟨k, best, most, v, hk, rfl, rfl, rfl, rfl, hbe, hmo, HK, HR, HB⟩ := hrel
      obtain ⟨nn, hnn⟩ : ∃ nn, (lay k).length = nn := ⟨_, rfl⟩
      have hl65 := HLen.out k
      rw [hnn] at HR hl65
      obtain ⟨va, vc, rfl⟩ := one_form HR.out
      by_cases hn1 : 0 < nn
      · have n1 : (0 : Int) < (nn : Int) := by omega
        have hk50 : k < 50 := by
          rcases Nat.lt_or_ge k 50 with h | h
          · exact h
          · have := H50.out k h; omega
        have CX := Lib.hid (CN2.out k nn hnn w.heap.size vc va)
        obtain ⟨m2, hm2⟩ : ∃ m, (lay (k + 1)).length = m := ⟨_, rfl⟩
        have HM2 := Lib.hid hm2
        have hm65 := HLen.out (k + 1)
        rw [hm2] at hm65
        have HWk := Lib.hid (HW.out k)
        rw [HK.out, HM2.out] at HWk
        obtain ⟨c0, c1, c2, hlt, hb1⟩ := HB.out
        have hw1 : IntKind.i64.wrap ((k : Int) + 1 + 1) = ((k + 1 : Nat) : Int) + 1 := by rw [IntWalk.i64_in _ (by omega)]; omega
        clear hnn hm2
        go_wp2_with fail
        refine (CX.out _ HR.out).mono ?_
        rintro e w5 ⟨v', rfl, hh, hb⟩
        have HR2 := Lib.hid (own_base hh hb1.size)
        have HR2' := HR2
        rw [HM2.out] at HR2'
        obtain ⟨va', vc', rfl⟩ := one_form HR2'.out
        have HB2 := Lib.hid (HB.out.later hb)
        clear hh hb c0 c1 c2 hlt hb1 HB HR CX HR2'
        by_cases hmm : most < m2
        · have hd : (most : Int) < (m2 : Int) := by omega
          have HK2 : Hid (wk (k + 1) = (k + 1, m2)) := by unfold Hid; rw [HWk.out, if_pos hmm]
          clear HWk hmm
          go_wp2_with fail
          go_roundw
          case rel => exact ⟨k + 1, k + 1, m2, _, by omega, by simp, by go_num, rfl, rfl, by omega, hm65, HK2, HR2, HB2⟩
          case measure => simp [intOf]; omega
        · have hd : ¬ (most : Int) < (m2 : Int) := by omega
          have HK2 : Hid (wk (k + 1) = (best, most)) := by unfold Hid; rw [HWk.out, if_neg hmm]
          clear HWk hmm
          go_wp2_with fail
          go_roundw
          case rel => exact ⟨k + 1, best, most, _, by omega, by simp, rfl, rfl, rfl, hbe, hmo, HK2, HR2, HB2⟩
          case measure => simp [intOf]; omega
      · obtain rfl : nn = 0 := by omega
        have HE : Hid ((wk 50).1 = best) := by unfold Hid; rw [HStop.out k hk hnn, HK.out]
        clear hnn HR
        go_wp2_with fail
        go_ret
        exact ⟨ret_int (by rw [HE.out]), HB.out.2.2.2.2⟩
end Go.Proofs.Ytgkmapemnlgldaa
