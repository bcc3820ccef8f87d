/- Backwards, of the program: CountBack, StartsFor, SolvableHoles, PairsOf, for every three ints and ints up to 2^63 - 1. -/
import Derived.Test.YtkenlighpelhiaaGreatBackS
import Derived.Test.YtkenlighpelhiaaGreatBackA
import Derived.Test.YtkenlighpelhiaaGreatBackP
import Derived.Test.YtkenlighpelhiaaGreatBoards
namespace Go.Proofs.YtkenlighpelhiaaGreat
open Go.RowKit
set_option linter.unusedVariables false
set_option linter.unusedSimpArgs false
set_option maxRecDepth 100000 in
theorem implCountBack (W H Z P : Int) (hP : P ≤ 9223372036854775807) (w : World) : Calls Tryz.prog 9 #[.agg #[.int .i64 W, .int .i64 H, .int .i64 Z], .int .i64 P] w (QI ((reachL true W H Z P).length : Int) w) := by
  have CR := Lib.hid (fun w => implBackOf W H Z P hP w)
  generalize reachL true W H Z P = l at *
  clear hP
  go_enter Tryz.func9, Tryz.ntmps9
  go_wp2_with fail
  have B0 := Lib.hid (box_new W H Z w)
  generalize w.alloc (.cells #[.int .i64 W, .int .i64 H, .int .i64 Z] 25) = W1 at *
  obtain ⟨c0, c1, c2, hlt, hb1⟩ := B0.out
  go_wp2_with fail
  refine (CR.out _).mono ?_
  rintro e w1 ⟨v, rfl, hh, hb⟩
  obtain ⟨va, vc, rfl⟩ := one_form hh
  have B1 := Lib.hid (B0.out.later hb)
  clear hb hh
  go_wp2_with fail
  go_ret
  exact ⟨rfl, B1.out.2.2.2.2⟩
theorem start_is {W H Z G : Int} {k : Nat} (hk : k ∈ holesR W H Z) : inI (reachL true W H Z G) (butB W H Z k) = reachB false W H Z (butB W H Z k) G := by
  rw [inI_reach]
  cases h1 : smallB W H Z
  · simp [reachB, h1]
  cases h3 : posB W H Z G
  · simp [reachB, h3]
  obtain ⟨a, b, N, z, g, S⟩ := small5 h1 h3
  obtain ⟨rfl, rfl, rfl, rfl, ho, h16, hgp⟩ := S
  obtain ⟨N', z', r, e1, ho', hkN, hb', hr, hrp, hbut⟩ := but_hole hk
  obtain rfl : z = z' := by omega
  rw [hbut, ← back_reach ho h16 hgp hrp]
  unfold reachB
  rw [h1, h3, pos_of ho hrp, Int.toNat_natCast]
  rfl
set_option maxHeartbeats 8000000 in
set_option maxRecDepth 100000 in
theorem implStarts (W H Z G : Int) (hG : G ≤ 9223372036854775807) (w : World) : Calls Tryz.prog 10 #[.agg #[.int .i64 W, .int .i64 H, .int .i64 Z], .int .i64 G] w (OwnInts (startL W H Z G) w) := by
  obtain ⟨j0, hj, jz0, jz1, jz2⟩ : ∃ i, Tryz.prog.info? 3 = some i ∧ i.zero = some (.int .i64 0) ∧ i.size = 1 ∧ i.bytes = 8 := ⟨_, by rfl, by rfl, by rfl, by rfl⟩
  have CR := Lib.hid (fun w => implBackOf W H Z G hG w)
  have CH := Lib.hid (fun w => implHolesR W H Z w)
  have CO := Lib.hid (fun (k : Nat) w => implBut W H Z k w)
  have hlen := reach_len true W H Z G
  have HU := Lib.hid (reach_up true W H Z G)
  have hhl := holesR_len W H Z
  have HEq : Hid (∀ k ∈ holesR W H Z, inI (reachL true W H Z G) (butB W H Z k) = reachB false W H Z (butB W H Z k) G) := fun k hk => start_is hk
  have HNx := Lib.hid (fun hs i h hi => start_snoc W H Z G (hs := hs) i (h := h) hi)
  unfold startL
  generalize reachL true W H Z G = l at *
  obtain ⟨F, hF⟩ : ∃ F : Nat → Bool, (fun (k : Nat) => reachB false W H Z (butB W H Z k) G) = F := ⟨_, rfl⟩
  have HNx : Hid (∀ (hs : List Nat) (i h : Nat), hs[i]? = some h → (hs.take (i + 1)).filter F = (hs.take i).filter F ++ (if F h = true then [h] else [])) := fun hs i h hi => by
    have := HNx.out hs i h hi
    rw [hF, show reachB false W H Z (butB W H Z h) G = F h by rw [← hF]] at this
    exact this
  have HEq : Hid (∀ k ∈ holesR W H Z, inI l (butB W H Z k) = F k) := fun k hk => by rw [HEq.out k hk, ← hF]
  rw [hF]
  generalize holesR W H Z = hs at *
  obtain ⟨n, hn⟩ : ∃ n, l.length = n := ⟨_, rfl⟩
  obtain ⟨m, hm⟩ : ∃ m, hs.length = m := ⟨_, rfl⟩
  rw [hn] at hlen
  rw [hm] at hhl
  have HN := Lib.hid hn
  have HM := Lib.hid hm
  clear hG hn hm hF
  go_enter Tryz.func10, Tryz.ntmps10
  go_wp2_with fail
  have B0 := Lib.hid (box_new W H Z w)
  generalize w.alloc (.cells #[.int .i64 W, .int .i64 H, .int .i64 Z] 25) = W1 at *
  obtain ⟨c0, c1, c2, hlt, hb1⟩ := B0.out
  go_wp2_with fail
  refine (CR.out _).mono ?_
  rintro e w2 ⟨v, rfl, hh, hb⟩
  rw [HN.out] at hh
  obtain ⟨va, vc, rfl⟩ := one_form hh
  have B2 := Lib.hid (B0.out.later hb)
  have hba : Below w2.heap.size w2 (w2.alloc (.cells #[] 3)) := (Below.refl _ _).alloc (Nat.le_refl _) _
  have HR3 := Lib.hid (own_below hh hba)
  have B3 := Lib.hid (B2.out.later hba)
  have HL3 : Hid ((w2.alloc (.cells #[] 3)).ownsRow w2.heap.size 3 1 (.slice (some ⟨w2.heap.size, 0, none⟩) 0 0) 0 (Ints [])) := World.ownsRow_made w2 #[] 0 (Nat.le_refl _) (by unfold maxLen; omega) rfl
  have hva : Hid (∀ g0, va = some ⟨g0, 0, none⟩ → g0 < w2.heap.size) := fun g0 hg => by
    have := (hh.lt g0 (by rw [hg]; rfl)).2
    exact this
  have hwC : w.heap.size < w2.heap.size := B2.out.2.2.2.1
  have hCz : w2.heap.size < (w2.alloc (.cells #[] 3)).heap.size := by simp
  clear hb hh c0 c1 c2 hlt hb1 B0 B2 hba
  generalize W1.heap.size = B1 at *
  obtain ⟨C, hC⟩ : ∃ C, w2.heap.size = C := ⟨_, rfl⟩
  have hmade : w2.heap.size = C := hC
  rw [hC] at HL3 hva hwC hCz
  obtain ⟨c0, c1, c2, hlt, hb1⟩ := B3.out
  go_wp2_with fail
  generalize w2.alloc (.cells #[] 3) = w3 at *
  clear hmade hC
  refine (CH.out _).mono ?_
  rintro e w4 ⟨hv, rfl, hh, hb⟩
  rw [HM.out] at hh
  obtain ⟨ha, hc, rfl⟩ := one_form hh
  have HS4 : Hid (TwoSt w W H Z C B1 w3.heap.size va n vc l ha m hc hs (.slice (some ⟨C, 0, none⟩) 0 0) [] w4) := by
    refine ⟨own_below HL3.out hb, own_below HR3.out hb, hh, fun g0 hg e => ?_, B3.out.later hb, hwC, Nat.le_trans (Nat.le_of_lt hCz) hb.size⟩
    have hg' := slice_block e
    subst hg'
    rcases hg with hg | hg
    · have := hva.out g0 hg
      omega
    · have := (hh.lt g0 (by rw [hg]; rfl)).1
      omega
  clear hb hh c0 c1 c2 hlt hb1 B3 HL3 HR3 CR CH hva hCz
  generalize w3.heap.size = B2 at *
  go_wp2_with fail
  go_loopw [6, 16] (fun u i wr => ∃ (k : Nat) (v : Value), k ≤ m ∧ i = .int .i64 k ∧ v = u ∧ Hid (TwoSt w W H Z C B1 B2 va n vc l ha m hc hs v ((hs.take k).filter F) wr)) (fun _ i _ => m - (intOf i).toNat)
  case atStart => exact ⟨0, _, Nat.zero_le _, rfl, rfl, HS4⟩
  case round =>
    clear HS4
    obtain ⟨i, v, hi, rfl, rfl, HS⟩ := hrel
    by_cases him : i < m
    · have i0 : (0 : Int) ≤ (i : Int) := by omega
      have i1 : (i : Int) < (m : Int) := by omega
      obtain ⟨h, hh⟩ : ∃ h, hs[i]? = some h := ⟨_, List.getElem?_eq_getElem (by rw [HM.out]; exact him)⟩
      have CK := Lib.hid (CO.out h)
      have heq := HEq.out h (List.mem_of_getElem? hh)
      have HNX := Lib.hid (HNx.out hs i h hh)
      obtain ⟨q1, hq1⟩ : ∃ q, butB W H Z h = q := ⟨_, rfl⟩
      rw [hq1] at CK heq
      obtain ⟨c, hc'⟩ : ∃ c, F h = c := ⟨_, rfl⟩
      rw [hc'] at HNX heq
      have HQ := Lib.hid heq
      obtain ⟨out0, hout⟩ : ∃ o, (hs.take i).filter F = o := ⟨_, rfl⟩
      rw [hout] at HNX HS
      have hol : out0.length ≤ 49 := by
        rw [← hout]
        refine Nat.le_trans (List.length_filter_le ..) (Nat.le_trans (List.length_take_le' ..) (by rw [HM.out]; exact hhl))
      obtain ⟨gh, hha⟩ := one_block HS.out.hs (by omega)
      subst hha
      have hcl : wr.cell? ⟨gh, i, none⟩ = some (.int .i64 (h : Int)) := own_cell HS.out.hs i him _ (by simp [Ints, hh])
      obtain ⟨c0, c1, c2, hlt, hb1⟩ := HS.out.box
      clear hh hout hq1 hc' heq
      go_wp2_with fail
      refine (CK.out _).mono ?_
      rintro e wa ⟨rfl, hb⟩
      have HSa := Lib.hid (HS.out.later hb)
      clear hb HS hcl c0 c1 c2 hlt hb1 CK
      have CX := Lib.hid (implListed HN.out hlen HU.out HSa.out.l q1)
      rw [HQ.out] at CX
      go_wp2_with fail
      refine CX.out.mono ?_
      rintro e wb ⟨rfl, hb⟩
      have HSb := Lib.hid (HSa.out.later hb)
      clear hb HSa CX HQ
      cases c
      · have HO : Hid ((hs.take (i + 1)).filter F = out0) := by unfold Hid; rw [HNX.out]; simp
        rw [← HO.out] at HSb
        clear HNX hol
        go_wp2_with fail
        go_roundw
        case rel => exact ⟨i + 1, _, by omega, by go_num, rfl, HSb⟩
        case measure => simp [intOf]; omega
      · have HO : Hid ((hs.take (i + 1)).filter F = out0 ++ [h]) := by unfold Hid; rw [HNX.out]; simp
        have hbz := HSb.out.size
        have hon : out0.length ≤ 1000000000 := by omega
        obtain ⟨ol, holn⟩ : ∃ ol, out0.length = ol := ⟨_, rfl⟩
        have hown0 := HSb.out.out
        rw [holn] at hown0 hon
        have HPush := Lib.hid (fun w' g cap ho hg hb hat => HSb.out.push (w' := w') (g := g) (cap := cap) (x := h) (e := 3) ho hg hb hat)
        rw [holn] at HPush
        clear HNX HSb holn hol
        go_wp2_with (at_builtin; refine wpList_append_at rfl (.tmp 25) (.tmp 27) 28 rfl C 3 j0 (.int .i64 0) Tryz.underlying28 hj jz0 jz1 jz2 rfl _ _ out0 rfl hown0 _ rfl rfl hon hbz ?_; intro g' cap' w7 hown' hgrow hb2 hat)
        have HS7 := Lib.hid (HPush.out w7 g' cap' hown' hgrow hb2 hat)
        rw [← HO.out] at HS7
        clear hown' hgrow hb2 hat HPush hown0
        go_wp2_with fail
        go_roundw
        case rel => exact ⟨i + 1, _, by omega, by go_num, rfl, HS7⟩
        case measure => simp [intOf]; omega
    · obtain rfl : i = m := by omega
      have hfull : Hid (hs.take i = hs) := List.take_of_length_le (by rw [HM.out]; exact Nat.le_refl _)
      rw [hfull.out] at HS
      have hp : Hid (OwnInts (hs.filter F) w (.returned v) wr) := ⟨v, rfl, own_base HS.out.out (by omega), HS.out.box.2.2.2.2⟩
      clear HS
      go_wp2_with fail
      go_ret
      exact hp.out
set_option maxHeartbeats 8000000 in
set_option maxRecDepth 100000 in
theorem implSolv (W H Z : Int) (w : World) : Calls Tryz.prog 17 #[.agg #[.int .i64 W, .int .i64 H, .int .i64 Z]] w (OwnInts (solvL W H Z) w) := by
  obtain ⟨j0, hj, jz0, jz1, jz2⟩ : ∃ i, Tryz.prog.info? 3 = some i ∧ i.zero = some (.int .i64 0) ∧ i.size = 1 ∧ i.bytes = 8 := ⟨_, by rfl, by rfl, by rfl, by rfl⟩
  have C1 := Lib.hid (fun w => implSmall W H Z w)
  have CH := Lib.hid (fun w => implHolesR W H Z w)
  have CO := Lib.hid (fun (k : Nat) w => implBut W H Z k w)
  have hhl := holesR_len W H Z
  have HBd : Hid (∀ k ∈ holesR W H Z, butB W H Z k ≤ 9223372036854775807) := fun k hk => by
    obtain ⟨N', z, r, rfl, ho', hkN, hb', hr, hrp, hbut⟩ := but_hole hk
    have h49 := ho'.zbig
    rw [hbut]
    have := Nat.two_pow_pos k
    omega
  have HNx := Lib.hid (fun hs i h hi => solv_snoc W H Z (hs := hs) i (h := h) hi)
  have HFl := Lib.hid (fun (r : Int) (h : r ≤ 9223372036854775807) w => implFinals W H Z r h w)
  obtain ⟨res, hres⟩ : ∃ r, solvL W H Z = r := ⟨_, rfl⟩
  rw [hres]
  unfold solvL at hres
  cases hsm : smallB W H Z
  · rw [hsm] at C1 hres
    simp only [Bool.false_eq_true, if_false] at hres
    subst hres
    clear hsm HBd HNx HFl
    go_enter Tryz.func17, Tryz.ntmps17
    go_wp2_with fail
    have B0 := Lib.hid (box_new W H Z w)
    generalize w.alloc (.cells #[.int .i64 W, .int .i64 H, .int .i64 Z] 25) = W1 at *
    obtain ⟨c0, c1, c2, hlt, hb1⟩ := B0.out
    go_wp2_with fail
    refine (C1.out _).mono ?_
    rintro e w1 ⟨rfl, hb⟩
    have B1 := Lib.hid (B0.out.later hb)
    have hp : Hid (OwnInts [] w (.returned (.slice none 0 0)) w1) := ⟨_, rfl, ⟨rfl, .inl ⟨rfl, rfl⟩⟩, B1.out.2.2.2.2⟩
    clear hb
    go_wp2_with fail
    go_ret
    exact hp.out
  · rw [hsm] at C1 hres
    simp only [if_true] at hres
    have HRes := Lib.hid hres
    generalize holesR W H Z = hs at *
    obtain ⟨m, hm⟩ : ∃ m, hs.length = m := ⟨_, rfl⟩
    rw [hm] at hhl
    have HM := Lib.hid hm
    clear hm hsm hres
    go_enter Tryz.func17, Tryz.ntmps17
    go_wp2_with fail
    have B0 := Lib.hid (box_new W H Z w)
    generalize w.alloc (.cells #[.int .i64 W, .int .i64 H, .int .i64 Z] 25) = W1 at *
    obtain ⟨c0, c1, c2, hlt, hb1⟩ := B0.out
    go_wp2_with fail
    refine (C1.out _).mono ?_
    rintro e w2 ⟨rfl, hb⟩
    have B2 := Lib.hid (B0.out.later hb)
    have hba : Below w2.heap.size w2 (w2.alloc (.cells #[] 3)) := (Below.refl _ _).alloc (Nat.le_refl _) _
    have B3 := Lib.hid (B2.out.later hba)
    have HL3 : Hid ((w2.alloc (.cells #[] 3)).ownsRow w2.heap.size 3 1 (.slice (some ⟨w2.heap.size, 0, none⟩) 0 0) 0 (Ints [])) := World.ownsRow_made w2 #[] 0 (Nat.le_refl _) (by unfold maxLen; omega) rfl
    have hwC : w.heap.size < w2.heap.size := B2.out.2.2.2.1
    have hCz : w2.heap.size < (w2.alloc (.cells #[] 3)).heap.size := by simp
    clear hb c0 c1 c2 hlt hb1 B0 B2 hba
    obtain ⟨C, hC⟩ : ∃ C, w2.heap.size = C := ⟨_, rfl⟩
    have hmade : w2.heap.size = C := hC
    rw [hC] at HL3 hwC hCz
    obtain ⟨c0, c1, c2, hlt, hb1⟩ := B3.out
    go_wp2_with fail
    generalize w2.alloc (.cells #[] 3) = w3 at *
    clear hmade hC
    refine (CH.out _).mono ?_
    rintro e w4 ⟨hv, rfl, hh, hb⟩
    rw [HM.out] at hh
    obtain ⟨ha, hc, rfl⟩ := one_form hh
    have HS4 : Hid (TwoSt w W H Z C w.heap.size w3.heap.size none 0 0 [] ha m hc hs (.slice (some ⟨C, 0, none⟩) 0 0) [] w4) := by
      refine ⟨own_below HL3.out hb, World.ownsRow_nil _ _ _ _, hh, fun g0 hg e => ?_, B3.out.later hb, hwC, Nat.le_trans (Nat.le_of_lt hCz) hb.size⟩
      have hg' := slice_block e
      subst hg'
      rcases hg with hg | hg
      · cases hg
      · have := (hh.lt g0 (by rw [hg]; rfl)).1
        omega
    clear hb hh c0 c1 c2 hlt hb1 B3 HL3 CH hCz C1
    generalize w3.heap.size = B2 at *
    go_wp2_with fail
    go_loopw [3, 13] (fun u i wr => ∃ (k : Nat) (v : Value), k ≤ m ∧ i = .int .i64 k ∧ v = u ∧ Hid (TwoSt w W H Z C w.heap.size B2 none 0 0 [] ha m hc hs v ((hs.take k).filter (fun (k : Nat) => decide (0 < (finL W H Z (butB W H Z k)).length))) wr)) (fun _ i _ => m - (intOf i).toNat)
    case atStart => exact ⟨0, _, Nat.zero_le _, rfl, rfl, HS4⟩
    case round =>
      clear HS4
      obtain ⟨k, v, hk, rfl, rfl, HS⟩ := hrel
      by_cases hkn : k < m
      · have k0 : (0 : Int) ≤ (k : Int) := by omega
        have k1 : (k : Int) < (m : Int) := by omega
        obtain ⟨h, hh⟩ : ∃ h, hs[k]? = some h := ⟨_, List.getElem?_eq_getElem (by rw [HM.out]; exact hkn)⟩
        have HNX := Lib.hid (HNx.out hs k h hh)
        have CF := Lib.hid (HFl.out _ (HBd.out h (List.mem_of_getElem? hh)))
        have CK := Lib.hid (CO.out h)
        obtain ⟨q1, hq1⟩ : ∃ q, butB W H Z h = q := ⟨_, rfl⟩
        rw [hq1] at HNX CF CK
        obtain ⟨fl, hfl⟩ : ∃ fl, finL W H Z q1 = fl := ⟨_, rfl⟩
        rw [hfl] at HNX CF
        obtain ⟨nf, hnf⟩ : ∃ nf, fl.length = nf := ⟨_, rfl⟩
        rw [hnf] at HNX
        have HNF := Lib.hid hnf
        obtain ⟨out0, hout⟩ : ∃ o, (hs.take k).filter (fun (k : Nat) => decide (0 < (finL W H Z (butB W H Z k)).length)) = o := ⟨_, rfl⟩
        rw [hout] at HNX HS
        have hol : out0.length ≤ 49 := by
          rw [← hout]
          refine Nat.le_trans (List.length_filter_le ..) (Nat.le_trans (List.length_take_le' ..) (by rw [HM.out]; exact hhl))
        obtain ⟨gh, hha⟩ := one_block HS.out.hs (by omega)
        subst hha
        have hcl : wr.cell? ⟨gh, k, none⟩ = some (.int .i64 (h : Int)) := own_cell HS.out.hs k hkn _ (by simp [Ints, hh])
        clear hh hout hq1 hfl hnf HFl
        go_wp2_with fail
        clear hcl
        refine wp_region_script (by kernel_rfl) (by kernel_rfl) ?_
        refine Script.load (i := 0) (v := ?_) rfl (by kernel_rfl) (by kernel_rfl) (fun _ _ _ h => h) (by kernel_rfl) ?_ ?_
        rotate_left
        · (intro wS hSw; have hRS := HS.out.later (After.trans (After.drew (After.refl _)) hSw); obtain ⟨c0, c1, c2, -, -⟩ := hRS.box; go_simp; try with_reducible rfl)
        try simp only [Act.put, List.getElem_toArray, List.getElem_cons_succ, List.getElem_cons_zero, List.setIfInBounds_toArray, List.set_cons_zero, List.set_cons_succ]
        refine Script.load (i := 1) (v := ?_) rfl (by kernel_rfl) (by kernel_rfl) (fun _ _ _ h => h) (by kernel_rfl) ?_ ?_
        rotate_left
        · (intro wS hSw; have hRS := HS.out.later (After.trans (After.drew (After.refl _)) hSw); obtain ⟨c0, c1, c2, -, -⟩ := hRS.box; go_simp; try with_reducible rfl)
        try simp only [Act.put, List.getElem_toArray, List.getElem_cons_succ, List.getElem_cons_zero, List.setIfInBounds_toArray, List.set_cons_zero, List.set_cons_succ]
        refine Script.load (i := 2) (v := ?_) rfl (by kernel_rfl) (by kernel_rfl) (fun _ _ _ h => h) (by kernel_rfl) ?_ ?_
        rotate_left
        · (intro wS hSw; have hRS := HS.out.later (After.trans (After.drew (After.refl _)) hSw); obtain ⟨c0, c1, c2, -, -⟩ := hRS.box; go_simp; try with_reducible rfl)
        try simp only [Act.put, List.getElem_toArray, List.getElem_cons_succ, List.getElem_cons_zero, List.setIfInBounds_toArray, List.set_cons_zero, List.set_cons_succ]
        refine Script.call (i := 3) (v := ?_) rfl (by kernel_rfl) (by kernel_rfl) (fun _ _ _ h => h) (by kernel_rfl) ?_ ?_
        rotate_left
        · (intro wS hSw K hK; have hRS := HS.out.later (After.trans (After.drew (After.refl _)) hSw); obtain ⟨c0, c1, c2, -, -⟩ := hRS.box; go_simp; go_at_call 31; refine (CK.out _).mono ?_; rintro e wc ⟨rfl, hbc⟩; exact hK.out _ hbc)
        try simp only [Act.put, List.getElem_toArray, List.getElem_cons_succ, List.getElem_cons_zero, List.setIfInBounds_toArray, List.set_cons_zero, List.set_cons_succ]
        refine Script.one (i := 4) rfl (by kernel_rfl) (by kernel_rfl) ?_
        intro wO hO K hK; have hSw := hO; have hRS := HS.out.later (After.trans (After.drew (After.refl _)) hSw); obtain ⟨c0, c1, c2, -, -⟩ := hRS.box; go_simp
        clear hSw
        go_at_call 39; refine (CF.out _).mono ?_; rintro e wv ⟨vf, rfl, hhf, hbc⟩; rw [HNF.out] at hhf; obtain ⟨fa, fc, rfl⟩ := one_form hhf
        refine hK.out _ _ hbc ?_
        clear hK K
        try simp only [Act.put, List.getElem_toArray, List.getElem_cons_succ, List.getElem_cons_zero, List.setIfInBounds_toArray, List.set_cons_zero, List.set_cons_succ]
        have HSv := Lib.hid (HS.out.later (After.trans (After.drew (After.refl _)) (After.trans hO hbc)))
        clear c0 c1 c2 hRS
        refine Script.load (i := 5) (v := ?_) rfl (by kernel_rfl) (by kernel_rfl) (fun _ _ _ h => h) (by kernel_rfl) ?_ ?_
        rotate_left
        · (intro wS hSw; skip; go_simp; try with_reducible rfl)
        try simp only [Act.put, List.getElem_toArray, List.getElem_cons_succ, List.getElem_cons_zero, List.setIfInBounds_toArray, List.set_cons_zero, List.set_cons_succ]
        refine Script.load (i := 6) (v := ?_) rfl (by kernel_rfl) (by kernel_rfl) (fun _ _ _ h => h) (by kernel_rfl) ?_ ?_
        rotate_left
        · (intro wS hSw; skip; go_simp; try with_reducible rfl)
        try simp only [Act.put, List.getElem_toArray, List.getElem_cons_succ, List.getElem_cons_zero, List.setIfInBounds_toArray, List.set_cons_zero, List.set_cons_succ]
        refine Script.done (by kernel_rfl) ?_
        intro wD hD hG
        have HS2 := Lib.hid (HSv.out.later hD)
        clear hD hG HS HSv CK CF
        by_cases hn0 : 0 < nf
        · have HO : Hid ((hs.take (k + 1)).filter (fun (k : Nat) => decide (0 < (finL W H Z (butB W H Z k)).length)) = out0 ++ [h]) := by unfold Hid; rw [HNX.out, if_pos hn0]
          have hbz := HS2.out.size
          have hon : out0.length ≤ 1000000000 := by omega
          obtain ⟨ol, holn⟩ : ∃ ol, out0.length = ol := ⟨_, rfl⟩
          have hown0 := HS2.out.out
          rw [holn] at hown0 hon
          have HPush := Lib.hid (fun w' g' cap ho hg hb hat => HS2.out.push (w' := w') (g := g') (cap := cap) (x := h) (e := 3) ho hg hb hat)
          rw [holn] at HPush
          clear HNX HS2 holn hol
          go_wp2_with (at_builtin; refine wpList_append_at rfl (.tmp 24) (.tmp 26) 28 rfl C 3 j0 (.int .i64 0) Tryz.underlying28 hj jz0 jz1 jz2 rfl _ _ out0 rfl hown0 _ rfl rfl hon hbz ?_; intro g' cap' w7 hown' hgrow hb2 hat)
          have HS7 := Lib.hid (HPush.out w7 g' cap' hown' hgrow hb2 hat)
          rw [← HO.out] at HS7
          clear hown' hgrow hb2 hat HPush hown0
          go_wp2_with fail
          go_roundw
          case rel => exact ⟨k + 1, _, by omega, by go_num, rfl, HS7⟩
          case measure => simp [intOf]; omega
        · have HO : Hid ((hs.take (k + 1)).filter (fun (k : Nat) => decide (0 < (finL W H Z (butB W H Z k)).length)) = out0) := by unfold Hid; rw [HNX.out, if_neg hn0, List.append_nil]
          rw [← HO.out] at HS2
          clear HNX hol
          go_wp2_with fail
          go_roundw
          case rel => exact ⟨k + 1, v, by omega, by go_num, rfl, HS2⟩
          case measure => simp [intOf]; omega
      · obtain rfl : k = m := by omega
        have hfull : Hid (hs.take k = hs) := List.take_of_length_le (by rw [HM.out]; exact Nat.le_refl _)
        rw [hfull.out, HRes.out] at HS
        have hp : Hid (OwnInts res w (.returned v) wr) := ⟨v, rfl, own_base HS.out.out (by omega), HS.out.box.2.2.2.2⟩
        clear HS
        go_wp2_with fail
        go_ret
        exact hp.out
theorem row_fin (W H Z : Int) (k : Nat) : pairRow W H Z k (holesR W H Z) = (finL W H Z (butB W H Z k)).map (fun (m : Nat) => [(k : Int), (m : Int)]) := by
  unfold pairRow finL
  congr 1
  refine List.filter_congr fun m _ => ?_
  rw [Bool.eq_iff_iff, decide_eq_true_eq]
  exact reach_mem.symm
theorem map_snoc {fl : List Nat} (k : Nat) (j : Nat) {m : Nat} (hj : fl[j]? = some m) : (fl.take (j + 1)).map (fun (m : Nat) => [(k : Int), (m : Int)]) = (fl.take j).map (fun (m : Nat) => [(k : Int), (m : Int)]) ++ [[(k : Int), (m : Int)]] := by
  rw [take_one hj, List.map_append]
  rfl
theorem fin_len (W H Z P : Int) : (finL W H Z P).length ≤ (holesR W H Z).length := List.length_filter_le ..
/-- The board, the holes, the holes of last pegs. -/
def PiS (w0 : World) (W H Z : Int) (ha : Option Addr) (m hc : Nat) (hs : List Nat) (fa : Option Addr) (nf fc : Nat) (fl : List Nat) (w : World) : Prop :=
  Box w0.heap.size W H Z w0 w ∧ w.ownsRow w0.heap.size 3 1 (.slice ha m hc) m (Ints hs) ∧ w.ownsRow w0.heap.size 3 1 (.slice fa nf fc) nf (Ints fl)
theorem PiS.later {w0 w w' : World} {W H Z : Int} {ha fa : Option Addr} {m hc nf fc : Nat} {hs fl : List Nat} (h : PiS w0 W H Z ha m hc hs fa nf fc fl w) (k : Below w.heap.size w w') : PiS w0 W H Z ha m hc hs fa nf fc fl w' := ⟨h.1.later k, own_below h.2.1 k, own_below h.2.2 k⟩
theorem PiS.grown {w0 w w' : World} {W H Z : Int} {ha fa : Option Addr} {m hc nf fc n b : Nat} {hs fl : List Nat} {v : Value} {vs : List Value} (h : PiS w0 W H Z ha m hc hs fa nf fc fl w) (ho : w.ownsRow b 28 1 v n vs) (hg : w.grownBy w' v.ownBlock) (hb : Below (w0.heap.size + 1) w w') : PiS w0 W H Z ha m hc hs fa nf fc fl w' :=
  ⟨h.1.kept hb (Nat.lt_succ_self _) (Nat.le_succ _), h.2.1.kept hg (own_ne h.2.1 ho (by decide)), h.2.2.kept hg (own_ne h.2.2 ho (by decide))⟩
theorem pair_push {w0 wr w9 : World} {W H Z : Int} {ha fa : Option Addr} {m hc nf fc n g cap : Nat} {hs fl : List Nat} {v : Value} {vs : List Value} {out : List (List Int)} {h m2 : Nat}
    (HN : NestI (w0.heap.size + 1) wr.heap.size 28 3 v n vs out wr) (HP : PiS w0 W H Z ha m hc hs fa nf fc fl wr)
    (hown : w9.ownsRow (w0.heap.size + 1) 28 1 (.slice (some ⟨g, 0, none⟩) (n + 1) cap) (n + 1) (vs ++ [.slice (some ⟨wr.heap.size, 0, none⟩) 2 2]))
    (hgrow : ((wr.alloc (.cells #[.int .i64 (h : Int), .int .i64 (m2 : Int)] 3)).alloc (.cells #[.slice (some ⟨wr.heap.size, 0, none⟩) 2 2] 28)).grownBy w9 v.ownBlock) :
    NestI (w0.heap.size + 1) w9.heap.size 28 3 (.slice (some ⟨g, 0, none⟩) (n + 1) cap) (n + 1) (vs ++ [.slice (some ⟨wr.heap.size, 0, none⟩) 2 2]) (out ++ [[(h : Int), (m2 : Int)]]) w9 ∧ PiS w0 W H Z ha m hc hs fa nf fc fl w9 := by
  have h1 : Below wr.heap.size wr (wr.alloc (.cells #[.int .i64 (h : Int), .int .i64 (m2 : Int)] 3)) := (Below.refl _ _).alloc (Nat.le_refl _) _
  have hr := heap_alloc_new wr (.cells #[.int .i64 (h : Int), .int .i64 (m2 : Int)] 3)
  have hs1 : wr.heap.size < (wr.alloc (.cells #[.int .i64 (h : Int), .int .i64 (m2 : Int)] 3)).heap.size := by simp
  generalize wr.alloc (.cells #[.int .i64 (h : Int), .int .i64 (m2 : Int)] 3) = wq at *
  have h2 : Below wq.heap.size wq (wq.alloc (.cells #[.slice (some ⟨wr.heap.size, 0, none⟩) 2 2] 28)) := (Below.refl _ _).alloc (Nat.le_refl _) _
  have hr2 := (h2.block _ hs1).trans hr
  generalize wq.alloc (.cells #[.slice (some ⟨wr.heap.size, 0, none⟩) 2 2] 28) = wt at *
  have HN2 := (HN.later h1).later h2
  have HP2 := (HP.later h1).later h2
  have hb := HP.1.2.2.2.1
  exact ⟨HN2.push (by decide) (ys := [(h : Int), (m2 : Int)]) (m := 2) (Nat.le_refl _) hb rfl (by unfold maxLen; omega) hr2 hown hgrow, HP2.grown HN2.outer hgrow ((Below.refl _ _).grown hgrow (by have := h1.size; have := h2.size; omega) (fun k hk => (HN2.outer.lt k hk).1))⟩
theorem implCountR {W H Z : Int} (h : smallB W H Z = true) (w : World) : Calls Tryz.prog 38 #[.agg #[.int .i64 W, .int .i64 H, .int .i64 Z]] w fun e w' => e = .returned (.int .i64 ((holesR W H Z).length : Nat)) ∧ Below w.heap.size w w' := by
  simp only [smallB, Bool.and_eq_true] at h
  obtain ⟨N, z, rfl, ho⟩ := ok_of h.1
  have e : holesR W H z = bitsOf N z := by unfold holesR; rw [h.1, if_pos rfl, Int.toNat_natCast, ho.list]
  rw [e]
  exact implCount ho w
set_option maxHeartbeats 8000000 in
set_option maxRecDepth 100000 in
theorem implPairs (W H Z : Int) (w : World) : Calls Tryz.prog 16 #[.agg #[.int .i64 W, .int .i64 H, .int .i64 Z]] w (OwnSS (pairL W H Z) w) := by
  obtain ⟨i1, hi1, iz0, iz1, iz2⟩ : ∃ i, Tryz.prog.info? 28 = some i ∧ i.zero = some (.slice none 0 0) ∧ i.size = 1 ∧ i.bytes = 24 := ⟨_, by rfl, by rfl, by rfl, by rfl⟩
  have C1 := Lib.hid (fun w => implSmall W H Z w)
  have CH := Lib.hid (fun w => implHolesR W H Z w)
  have CO := Lib.hid (fun (k : Nat) w => implBut W H Z k w)
  have hhl := holesR_len W H Z
  obtain ⟨res, hres⟩ : ∃ r, pairL W H Z = r := ⟨_, rfl⟩
  rw [hres]
  unfold pairL at hres
  have hnil : ∀ w1, Below w.heap.size w w1 → OwnSS [] w (.returned (.slice none 0 0)) w1 := fun w1 hb => ⟨_, 0, [], rfl, nest_nil hb.size (g := 0) (World.ownsRow_nil _ _ _ _), hb⟩
  have HNil := Lib.hid hnil
  clear hnil
  cases hsm : smallB W H Z
  · rw [hsm] at C1 hres
    simp only [Bool.false_and, Bool.false_eq_true, if_false] at hres
    subst hres
    clear hsm
    go_enter Tryz.func16, Tryz.ntmps16
    go_wp2_with fail
    have B0 := Lib.hid (box_new W H Z w)
    generalize w.alloc (.cells #[.int .i64 W, .int .i64 H, .int .i64 Z] 25) = W1 at *
    obtain ⟨c0, c1, c2, hlt, hb1⟩ := B0.out
    go_wp2_with fail
    refine (C1.out _).mono ?_
    rintro e w1 ⟨rfl, hb⟩
    have hp := Lib.hid (HNil.out w1 (B0.out.later hb).2.2.2.2)
    clear hb HNil
    go_wp2_with fail
    go_ret
    exact hp.out
  have CC := Lib.hid (fun w => implCountR hsm w)
  have HBd : Hid (∀ k ∈ holesR W H Z, butB W H Z k ≤ 9223372036854775807) := fun k hk => by
    obtain ⟨N', z, r, rfl, ho', hkN, hb', hr, hrp, hbut⟩ := but_hole hk
    have h49 := ho'.zbig
    rw [hbut]
    have := Nat.two_pow_pos k
    omega
  have HFl := Lib.hid (fun (r : Int) (h : r ≤ 9223372036854775807) w => implFinals W H Z r h w)
  have HFn := Lib.hid (fun r => fin_len W H Z r)
  have HPl := Lib.hid (fun all hs => pairs_len W H Z all hs)
  have HPair := Lib.hid (fun all hs i k hi => pairs_snoc W H Z all (hs := hs) i (k := k) hi)
  have HRow := Lib.hid (fun k => row_fin W H Z k)
  rw [hsm] at C1 hres
  simp only [Bool.true_and, decide_eq_true_eq] at hres
  generalize holesR W H Z = hs at *
  obtain ⟨m, hm⟩ : ∃ m, hs.length = m := ⟨_, rfl⟩
  rw [hm] at hhl hres CC HFn
  have HM := Lib.hid hm
  clear hm hsm
  by_cases h12 : m ≤ 12
  · rw [if_pos h12] at hres
    have HRes := Lib.hid hres
    have hm12 : ¬ ((12 : Int) < (m : Int)) := by omega
    have hm12' : ¬ (12 < m) := by omega
    clear hres HNil
    go_enter Tryz.func16, Tryz.ntmps16
    go_wp2_with fail
    have B0 := Lib.hid (box_new W H Z w)
    generalize w.alloc (.cells #[.int .i64 W, .int .i64 H, .int .i64 Z] 25) = W1 at *
    obtain ⟨c0, c1, c2, hlt, hb1⟩ := B0.out
    go_wp2_with fail
    refine (C1.out _).mono ?_
    rintro e w1 ⟨rfl, hb⟩
    have B1 := Lib.hid (B0.out.later hb)
    clear hb c0 c1 c2 hlt hb1 B0
    obtain ⟨c0, c1, c2, hlt, hb1⟩ := B1.out
    go_wp2_with fail
    refine (CC.out _).mono ?_
    rintro e w2 ⟨rfl, hb⟩
    have B2 := Lib.hid (B1.out.later hb)
    have hba : Below w2.heap.size w2 (w2.alloc (.cells #[] 28)) := (Below.refl _ _).alloc (Nat.le_refl _) _
    have B3 := Lib.hid (B2.out.later hba)
    have HL3 : Hid ((w2.alloc (.cells #[] 28)).ownsRow (w.heap.size + 1) 28 1 (.slice (some ⟨w2.heap.size, 0, none⟩) 0 0) 0 []) := own_base (World.ownsRow_made w2 #[] 0 (Nat.le_refl _) (by unfold maxLen; omega) rfl) B2.out.2.2.2.1
    clear hb c0 c1 c2 hlt hb1 B1 B2 hba
    obtain ⟨C, hC⟩ : ∃ C, w2.heap.size = C := ⟨_, rfl⟩
    have hmade : w2.heap.size = C := hC
    rw [hC] at HL3
    obtain ⟨c0, c1, c2, hlt, hb1⟩ := B3.out
    go_wp2_with fail
    generalize w2.alloc (.cells #[] 28) = w3 at *
    clear hmade hC
    refine (CH.out _).mono ?_
    rintro e w4 ⟨hv, rfl, hh, hb⟩
    rw [HM.out] at hh
    obtain ⟨ha, hc, rfl⟩ := one_form hh
    have B4 := Lib.hid (B3.out.later hb)
    have R4 : Hid (w4.ownsRow w.heap.size 3 1 (.slice ha m hc) m (Ints hs)) := own_base hh B3.out.2.2.2.2.size
    have N4 : Hid (NestI (w.heap.size + 1) w4.heap.size 28 3 (.slice (some ⟨C, 0, none⟩) 0 0) 0 [] [] w4) := nest_nil B4.out.2.2.2.1 (g := 0) (own_below HL3.out hb)
    clear hb hh c0 c1 c2 hlt hb1 B3 HL3 CH C1 CC
    go_wp2_with fail
    go_loopw [3, 20] (fun u i wr => ∃ (k : Nat) (v : Value) (n : Nat) (vs : List Value), k ≤ m ∧ i = .int .i64 k ∧ v = u ∧ Hid (NestI (w.heap.size + 1) wr.heap.size 28 3 v n vs ((hs.take k).flatMap (fun k => pairRow W H Z k hs)) wr) ∧ Hid (Box w.heap.size W H Z w wr) ∧ Hid (wr.ownsRow w.heap.size 3 1 (.slice ha m hc) m (Ints hs))) (fun _ i _ => m - (intOf i).toNat)
    case atStart => exact ⟨0, _, 0, [], Nat.zero_le _, rfl, rfl, N4, B4, R4⟩
    case round =>
      clear N4 B4 R4
      obtain ⟨k, v, n, vs, hk, rfl, rfl, HN, HB, HR⟩ := hrel
      by_cases hkm : k < m
      · have k0 : (0 : Int) ≤ (k : Int) := by omega
        have k1 : (k : Int) < (m : Int) := by omega
        obtain ⟨h, hh⟩ : ∃ h, hs[k]? = some h := ⟨_, List.getElem?_eq_getElem (by rw [HM.out]; exact hkm)⟩
        have CF := Lib.hid (HFl.out _ (HBd.out h (List.mem_of_getElem? hh)))
        have CK := Lib.hid (CO.out h)
        have HPX := Lib.hid (HPair.out hs hs k h hh)
        rw [HRow.out h] at HPX
        have hpl := HPl.out hs (hs.take k)
        have htk : (hs.take k).length = k := by rw [List.length_take, HM.out]; omega
        rw [htk, HM.out] at hpl
        have hkk : k * m ≤ 144 := Nat.le_trans (Nat.mul_le_mul (show k ≤ 12 by omega) h12) (by decide)
        obtain ⟨q1, hq1⟩ : ∃ q, butB W H Z h = q := ⟨_, rfl⟩
        rw [hq1] at HPX CF CK
        have hfn := HFn.out q1
        obtain ⟨fl, hfl⟩ : ∃ fl, finL W H Z q1 = fl := ⟨_, rfl⟩
        rw [hfl] at HPX CF hfn
        obtain ⟨nf, hnf⟩ : ∃ nf, fl.length = nf := ⟨_, rfl⟩
        rw [hnf] at hfn
        have HNF := Lib.hid hnf
        obtain ⟨out0, hout⟩ : ∃ o, (hs.take k).flatMap (fun k => pairRow W H Z k hs) = o := ⟨_, rfl⟩
        rw [hout] at HPX HN hpl
        have hol : out0.length ≤ 144 := by omega
        obtain ⟨gh, hha⟩ := one_block HR.out (by omega)
        subst hha
        have hcl : wr.cell? ⟨gh, k, none⟩ = some (.int .i64 (h : Int)) := own_cell HR.out k hkm _ (by simp [Ints, hh])
        clear hh hout hq1 hfl hnf hpl htk hkk
        go_wp2_with fail
        clear hcl
        refine wp_region_script (by kernel_rfl) (by kernel_rfl) ?_
        refine Script.load (i := 0) (v := ?_) rfl (by kernel_rfl) (by kernel_rfl) (fun _ _ _ h => h) (by kernel_rfl) ?_ ?_
        rotate_left
        · (intro wS hSw; have hAf := After.trans (After.drew (After.refl _)) hSw; obtain ⟨c0, c1, c2, -, -⟩ := HB.out.later hAf; go_simp; try with_reducible rfl)
        try simp only [Act.put, List.getElem_toArray, List.getElem_cons_succ, List.getElem_cons_zero, List.setIfInBounds_toArray, List.set_cons_zero, List.set_cons_succ]
        refine Script.load (i := 1) (v := ?_) rfl (by kernel_rfl) (by kernel_rfl) (fun _ _ _ h => h) (by kernel_rfl) ?_ ?_
        rotate_left
        · (intro wS hSw; have hAf := After.trans (After.drew (After.refl _)) hSw; obtain ⟨c0, c1, c2, -, -⟩ := HB.out.later hAf; go_simp; try with_reducible rfl)
        try simp only [Act.put, List.getElem_toArray, List.getElem_cons_succ, List.getElem_cons_zero, List.setIfInBounds_toArray, List.set_cons_zero, List.set_cons_succ]
        refine Script.load (i := 2) (v := ?_) rfl (by kernel_rfl) (by kernel_rfl) (fun _ _ _ h => h) (by kernel_rfl) ?_ ?_
        rotate_left
        · (intro wS hSw; have hAf := After.trans (After.drew (After.refl _)) hSw; obtain ⟨c0, c1, c2, -, -⟩ := HB.out.later hAf; go_simp; try with_reducible rfl)
        try simp only [Act.put, List.getElem_toArray, List.getElem_cons_succ, List.getElem_cons_zero, List.setIfInBounds_toArray, List.set_cons_zero, List.set_cons_succ]
        refine Script.call (i := 3) (v := ?_) rfl (by kernel_rfl) (by kernel_rfl) (fun _ _ _ h => h) (by kernel_rfl) ?_ ?_
        rotate_left
        · (intro wS hSw K hK; have hAf := After.trans (After.drew (After.refl _)) hSw; obtain ⟨c0, c1, c2, -, -⟩ := HB.out.later hAf; go_simp; go_at_call 31; refine (CK.out _).mono ?_; rintro e wc ⟨rfl, hbc⟩; exact hK.out _ hbc)
        try simp only [Act.put, List.getElem_toArray, List.getElem_cons_succ, List.getElem_cons_zero, List.setIfInBounds_toArray, List.set_cons_zero, List.set_cons_succ]
        refine Script.load (i := 6) (v := ?_) rfl (by kernel_rfl) (by kernel_rfl) (fun _ _ _ h => h) (by kernel_rfl) ?_ ?_
        rotate_left
        · (intro wS hSw; have hAf := After.trans (After.drew (After.refl _)) hSw; obtain ⟨c0, c1, c2, -, -⟩ := HB.out.later hAf; go_simp; try with_reducible rfl)
        try simp only [Act.put, List.getElem_toArray, List.getElem_cons_succ, List.getElem_cons_zero, List.setIfInBounds_toArray, List.set_cons_zero, List.set_cons_succ]
        refine Script.one (i := 4) rfl (by kernel_rfl) (by kernel_rfl) ?_
        intro wO hO K hK; have hSw := hO; have hAf := After.trans (After.drew (After.refl _)) hSw; obtain ⟨c0, c1, c2, -, -⟩ := HB.out.later hAf; go_simp
        clear hSw
        go_at_call 39; refine (CF.out _).mono ?_; rintro e wv ⟨vf, rfl, hhf, hbc⟩; rw [HNF.out] at hhf; obtain ⟨fa, fc, rfl⟩ := one_form hhf
        refine hK.out _ _ hbc ?_
        clear hK K
        try simp only [Act.put, List.getElem_toArray, List.getElem_cons_succ, List.getElem_cons_zero, List.setIfInBounds_toArray, List.set_cons_zero, List.set_cons_succ]
        have HAv := Lib.hid (After.trans (After.drew (After.refl _)) (After.trans hO hbc))
        have hOs := hO.size
        clear c0 c1 c2 hAf
        refine Script.load (i := 5) (v := ?_) rfl (by kernel_rfl) (by kernel_rfl) (fun _ _ _ h => h) (by kernel_rfl) ?_ ?_
        rotate_left
        · (intro wS hSw; skip; go_simp; try with_reducible rfl)
        try simp only [Act.put, List.getElem_toArray, List.getElem_cons_succ, List.getElem_cons_zero, List.setIfInBounds_toArray, List.set_cons_zero, List.set_cons_succ]
        refine Script.done (by kernel_rfl) ?_
        intro wD hD hG
        have hAD := Lib.hid (After.trans HAv.out hD)
        have hszz := (After.trans (After.drew (After.refl _)) hO : After wr wO).size
        have HN2 := Lib.hid ((HN.out.later hAD.out).raise hAD.out.size (Nat.le_refl _))
        have HP2 : Hid (PiS w W H Z (some ⟨gh, 0, none⟩) m hc hs fa nf fc fl wD) := ⟨HB.out.later hAD.out, own_below HR.out hAD.out, own_base (own_below hhf hD) (by have := HB.out.2.2.2.2.size; omega)⟩
        clear hD hG HN HB HR HAv hhf hAD hszz hOs hO hbc CK CF
        go_wp2_with fail
        go_loopw [3, 30] (fun u i wr => ∃ (j : Nat) (v : Value) (n : Nat) (vs : List Value), j ≤ nf ∧ i = .int .i64 j ∧ v = u ∧ Hid (NestI (w.heap.size + 1) wr.heap.size 28 3 v n vs (out0 ++ (fl.take j).map (fun (m : Nat) => [(h : Int), (m : Int)])) wr) ∧ Hid (PiS w W H Z (some ⟨gh, 0, none⟩) m hc hs fa nf fc fl wr)) (fun _ i _ => nf - (intOf i).toNat)
        case atStart => exact ⟨0, v, n, vs, Nat.zero_le _, rfl, rfl, by unfold Hid; rw [List.take_zero]; simpa using HN2.out, HP2⟩
        case round =>
          clear HN2 HP2
          obtain ⟨j, v, n, vs, hj, rfl, rfl, HN, HP⟩ := hrel
          by_cases hjm : j < nf
          · have j0 : (0 : Int) ≤ (j : Int) := by omega
            have j1 : (j : Int) < (nf : Int) := by omega
            obtain ⟨m2, hm2⟩ : ∃ m, fl[j]? = some m := ⟨_, List.getElem?_eq_getElem (by rw [HNF.out]; exact hjm)⟩
            have HO : Hid (out0 ++ (fl.take (j + 1)).map (fun (m : Nat) => [(h : Int), (m : Int)]) = (out0 ++ (fl.take j).map (fun (m : Nat) => [(h : Int), (m : Int)])) ++ [[(h : Int), (m2 : Int)]]) := by unfold Hid; rw [map_snoc h j hm2, List.append_assoc]
            have hnl := HN.out.len
            rw [List.length_append, List.length_map] at hnl
            have htj : (fl.take j).length ≤ j := List.length_take_le ..
            have hn1 : n ≤ 1000000000 := by omega
            obtain ⟨outj, houtj⟩ : ∃ o, out0 ++ (fl.take j).map (fun (m : Nat) => [(h : Int), (m : Int)]) = o := ⟨_, rfl⟩
            rw [houtj] at HO HN
            obtain ⟨gf, hfa⟩ := one_block HP.out.2.2 (by omega)
            subst hfa
            have x1 : wr.cell? ⟨gf, j, none⟩ = some (.int .i64 (m2 : Int)) := own_cell HP.out.2.2 j hjm _ (by simp [Ints, hm2])
            have hba : Below wr.heap.size wr (wr.alloc (.cells #[.int .i64 (h : Int), .int .i64 (m2 : Int)] 3)) := (Below.refl _ _).alloc (Nat.le_refl _) _
            have HO1 := Lib.hid (HN.out.later hba).outer
            have hbz : w.heap.size + 1 ≤ (wr.alloc (.cells #[.int .i64 (h : Int), .int .i64 (m2 : Int)] 3)).heap.size := Nat.le_trans HP.out.1.2.2.2.1 hba.size
            have HPush := Lib.hid (fun w9 g cap ho hg => pair_push (w9 := w9) (g := g) (cap := cap) (h := h) (m2 := m2) HN.out HP.out ho hg)
            clear houtj hm2 hnl htj hba
            go_wp2_with (at_builtin; refine wpList_append_one rfl (.tmp 34) (.tmp 38) 37 rfl (w.heap.size + 1) 28 i1 (.slice none 0 0) 24 Tryz.underlying37 hi1 iz0 iz1 iz2 rfl (by decide) v n vs rfl HO1.out (by rw [World.size_alloc]; rfl) rfl hn1 hbz ?_; intro g9 cap9 w9 hown hgrow hb9)
            obtain ⟨HN9, HP9⟩ := HPush.out w9 g9 cap9 hown hgrow
            rw [← HO.out] at HN9
            have HN9 := Lib.hid HN9
            have HP9 := Lib.hid HP9
            clear hown hgrow hb9 HPush x1 HO1 hbz HN HP
            go_wp2_with fail
            go_roundw
            case rel => exact ⟨j + 1, _, _, _, by omega, by go_num, rfl, HN9, HP9⟩
            case measure => simp [intOf]; omega
          · obtain rfl : j = nf := by omega
            have hfull : Hid (fl.take j = fl) := List.take_of_length_le (by rw [HNF.out]; exact Nat.le_refl _)
            rw [hfull.out, ← HPX.out] at HN
            go_wp2_with fail
            go_roundw
            case rel => exact ⟨k + 1, v, n, vs, by omega, by go_num, rfl, HN, HP.out.1, HP.out.2.1⟩
            case measure => simp [intOf]; omega
      · obtain rfl : k = m := by omega
        have hfull : Hid (hs.take k = hs) := List.take_of_length_le (by rw [HM.out]; exact Nat.le_refl _)
        rw [hfull.out, HRes.out] at HN
        have hp : Hid (OwnSS res w (.returned v) wr) := ⟨v, n, vs, rfl, HN.out.mono (Nat.le_succ _), HB.out.2.2.2.2⟩
        clear HN HB HR
        go_wp2_with fail
        go_ret
        exact hp.out
  · rw [if_neg h12] at hres
    subst hres
    have hm12 : (12 : Int) < (m : Int) := by omega
    have hm12' : 12 < m := by omega
    go_enter Tryz.func16, Tryz.ntmps16
    go_wp2_with fail
    have B0 := Lib.hid (box_new W H Z w)
    generalize w.alloc (.cells #[.int .i64 W, .int .i64 H, .int .i64 Z] 25) = W1 at *
    obtain ⟨c0, c1, c2, hlt, hb1⟩ := B0.out
    go_wp2_with fail
    refine (C1.out _).mono ?_
    rintro e w1 ⟨rfl, hb⟩
    have B1 := Lib.hid (B0.out.later hb)
    clear hb c0 c1 c2 hlt hb1
    obtain ⟨c0, c1, c2, hlt, hb1⟩ := B1.out
    go_wp2_with fail
    refine (CC.out _).mono ?_
    rintro e w2 ⟨rfl, hb⟩
    have hp := Lib.hid (HNil.out w2 (B1.out.later hb).2.2.2.2)
    clear hb HNil c0 c1 c2 hlt hb1
    go_wp2_with fail
    go_ret
    exact hp.out
end Go.Proofs.YtkenlighpelhiaaGreat
