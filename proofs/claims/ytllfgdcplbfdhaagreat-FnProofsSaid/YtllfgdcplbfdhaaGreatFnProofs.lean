/- The law FnProofs returns true for every code: of a drawn board (any three ints), position and goal: if the board is not small or one of the two is no position, no proof by weights to the goal -1 is found; else a proof that is found is one and the goal is not reached, the weights by classes, columns and rows are falling, whether the goal is reached is what the model says, and a goal that is reached has the position's key. No condition. -/
import Derived.Test.YtllfgdcplbfdhaaGreatRows
import Derived.WalkKit
import Derived.WalkSpells
import Derived.ProofKit
import Derived.OpenShut
import Derived.ShutString
import Derived.ChangeOld
import Derived.Below
import Derived.Lib.Hide
import Derived.Lib.SmallJoins
import Derived.ChangeArms
import Derived.Test.YtllfgdcplbfdhaaGreatDrawAny
import Derived.Test.YtllfgdcplbfdhaaGreatReachC
import Derived.Test.YtllfgdcplbfdhaaGreatReachI
import Derived.Test.YtllfgdcplbfdhaaGreatReachFacts
import Derived.Test.YtllfgdcplbfdhaaGreatProofFacts
import Derived.Test.YtllfgdcplbfdhaaGreatProofs
import Derived.Test.YtllfgdcplbfdhaaGreatWeights
import Derived.Test.YtllfgdcplbfdhaaGreatClasses
import Derived.Deep.DeepCutAuto
namespace Go.Proofs.YtllfgdcplbfdhaaGreat.fnProofs
open Go.ChangeShapes Go.WideShapes Go.ChangeAt Go.RowKit
open Go.ChangeMaps (open_string shut_string)
set_option linter.unusedVariables false
set_option linter.unusedSimpArgs false
theorem own : ownKnob Tryz.prog.godebug = none := by kernel_rfl
theorem laidOut : laidOutB Tryz.prog = true := by kernel_rfl
/-- What the walk is told of a slice of integers that came in. -/
def IsRow (k : IntKind) (w : World) (a : Option Addr) (len cap : Nat) (zs : List Int) : Prop :=
  (a = none ∧ len = 0 ∧ cap = 0 ∧ zs = []) ∨
  ∃ x, a = some x ∧ len ≤ cap ∧ cap ≤ maxLen ∧ zs.length = cap ∧ (∀ i, i < zs.length → w.cell? (x.add i) = some (.int k (zs.getD i 0))) ∧ ∀ n ∈ zs, (Lit.int k n).wf = true
theorem byteAt0 {a : Option Addr} {len cap : Nat} (w : World) (hcode : CodeAt w a len) : Calls Tryz.prog 14 #[.slice a len cap, .int .i64 0] w (AtPost w) := byteAt 0 (by omega) w hcode
/-- The board's block. -/
structure PSt (w0 : World) (q : Nat) (W H Z : Int) (w : World) : Prop where
  board : w.heap[q]? = some (.cells #[.int .i64 W, .int .i64 H, .int .i64 Z] 25 (0, 0))
  below : Below w0.heap.size w0 w
theorem PSt.later {w0 w w' : World} {q : Nat} {W H Z : Int} (h : PSt w0 q W H Z w) (hb : Below w.heap.size w w') : PSt w0 q W H Z w' :=
  ⟨closed_row _ _ _ _ h.board hb, h.below.trans (hb.mono h.below.size)⟩
theorem find_minus (W H Z P : Int) : findB W H Z P (-1) = ([], false) := find_none (by
  cases h : posB W H Z (-1)
  · rfl
  · obtain ⟨N, z, p, -, e, -⟩ := pos_yes h
    omega)
theorem iv_at {w : World} {B : Nat} {v : Value} {xs : List Int} (h : w.ownsRow B 3 1 v xs.length (iv xs)) : ∃ a c, v = .slice a xs.length c ∧ IntsAt w a xs.length xs := by
  obtain ⟨a, c, rfl⟩ := int_form h
  exact ⟨a, c, rfl, ints_own h rfl⟩
set_option maxHeartbeats 8000000 in
set_option maxRecDepth 100000 in
theorem walk_in {a0 : Option Addr} {len cap : Nat} (w : World) (hcode : CodeAt w a0 len) :
    Calls Tryz.prog 3 #[.slice a0 len cap] w fun e w' => e = .returned (.bool true) ∧ Below w.heap.size w w' := by
  have HCO := Lib.hid hcode
  clear hcode
  go_enter Tryz.func3, Tryz.ntmps3
  go_wp2_with fail
  refine (big_no _ HCO.out.1).mono ?_
  rintro e w' ⟨rfl, rfl⟩
  go_wp2_with fail
  refine (drawCanReach w HCO.out).mono ?_
  rintro e w1 ⟨W, H, Z, P, G, hP, hG, rfl, hb1⟩
  have C1 := Lib.hid (fun b (h : smallB W H Z = b) w => specSmall_is h w)
  have C2 := Lib.hid (fun b (h : posB W H Z P = b) w => specPos_is hP h w)
  have C3 := Lib.hid (fun b (h : posB W H Z G = b) w => specPos_is hG h w)
  have CN := Lib.hid (fun w => implFind W H Z P (-1) hP (by omega) w)
  rw [find_minus] at CN
  have HS2 : Hid (PSt w w1.heap.size W H Z (w1.alloc (.cells #[.int .i64 W, .int .i64 H, .int .i64 Z] 25))) := ⟨heap_alloc_new w1 _, hb1.alloc hb1.size _⟩
  obtain ⟨c0, c1, c2, -, -, -⟩ := row_facts HS2.out.board
  have HP := Lib.hid hP
  have HG := Lib.hid hG
  clear hb1 hP hG
  go_wp2_with fail
  clear c0 c1 c2
  generalize w1.alloc (.cells #[.int .i64 W, .int .i64 H, .int .i64 Z] 25) = w2 at *
  generalize w1.heap.size = q at *
  cases h1 : smallB W H Z
  · have K1 := Lib.hid (C1.out _ h1)
    clear h1
    refine (K1.out _).mono ?_
    rintro e w3 ⟨rfl, hb⟩
    have HS3 := Lib.hid (HS2.out.later hb)
    obtain ⟨c0, c1, c2, -, -, -⟩ := row_facts HS3.out.board
    clear hb HS2
    go_wp2_with fail
    clear c0 c1 c2
    refine (CN.out _).mono ?_
    rintro e w4 ⟨v, rfl, -, hb⟩
    have HS4 := Lib.hid (HS3.out.later hb)
    clear hb HS3
    go_wp2_with fail
    go_ret
    exact ⟨rfl, HS4.out.below⟩
  have K1 := Lib.hid (C1.out _ h1)
  refine (K1.out _).mono ?_
  rintro e w3 ⟨rfl, hb⟩
  have HS3 := Lib.hid (HS2.out.later hb)
  have HSM := Lib.hid h1
  clear hb HS2 h1
  obtain ⟨c0, c1, c2, -, -, -⟩ := row_facts HS3.out.board
  go_wp2_with fail
  clear c0 c1 c2
  cases h2 : posB W H Z P
  · have K2 := Lib.hid (C2.out _ h2)
    clear h2
    refine (K2.out _).mono ?_
    rintro e w4 ⟨rfl, hb⟩
    have HS4 := Lib.hid (HS3.out.later hb)
    obtain ⟨c0, c1, c2, -, -, -⟩ := row_facts HS4.out.board
    clear hb HS3
    go_wp2_with fail
    clear c0 c1 c2
    refine (CN.out _).mono ?_
    rintro e w5 ⟨v, rfl, -, hb⟩
    have HS5 := Lib.hid (HS4.out.later hb)
    clear hb HS4
    go_wp2_with fail
    go_ret
    exact ⟨rfl, HS5.out.below⟩
  have K2 := Lib.hid (C2.out _ h2)
  refine (K2.out _).mono ?_
  rintro e w4 ⟨rfl, hb⟩
  have HS4 := Lib.hid (HS3.out.later hb)
  have HPO := Lib.hid h2
  clear hb HS3 h2
  obtain ⟨c0, c1, c2, -, -, -⟩ := row_facts HS4.out.board
  go_wp2_with fail
  clear c0 c1 c2
  cases h3 : posB W H Z G
  · have K3 := Lib.hid (C3.out _ h3)
    clear h3
    refine (K3.out _).mono ?_
    rintro e w5 ⟨rfl, hb⟩
    have HS5 := Lib.hid (HS4.out.later hb)
    obtain ⟨c0, c1, c2, -, -, -⟩ := row_facts HS5.out.board
    clear hb HS4
    go_wp2_with fail
    clear c0 c1 c2
    refine (CN.out _).mono ?_
    rintro e w6 ⟨v, rfl, -, hb⟩
    have HS6 := Lib.hid (HS5.out.later hb)
    clear hb HS5
    go_wp2_with fail
    go_ret
    exact ⟨rfl, HS6.out.below⟩
  have K3 := Lib.hid (C3.out _ h3)
  refine (K3.out _).mono ?_
  rintro e w5 ⟨rfl, hb⟩
  have HS5 := Lib.hid (HS4.out.later hb)
  have HGO := Lib.hid h3
  clear hb HS4 h3 K1 K2 K3 C1 C2 C3 CN
  obtain ⟨a, b, N, z, p, S⟩ := small5 HSM.out HPO.out
  have HSm := Lib.hid S
  obtain ⟨rfl, rfl, rfl, rfl, ho, hN, hp⟩ := S
  have HOk := Lib.hid ho
  obtain ⟨N', z', g, e1, rfl, -, -⟩ := pos_yes HGO.out
  clear e1 N' z' ho hN hp
  have CF := Lib.hid (fun w => implFind (a : Int) b z p g HP.out HG.out w)
  have CR := Lib.hid (fun w => implCanRch (a : Int) b z p g HP.out HG.out w)
  have CR2 := Lib.hid (fun w => specCanRch (a : Int) b z p g HP.out HG.out w)
  obtain ⟨can, hcan⟩ : ∃ can, reachB false (a : Int) b z p g = can := ⟨_, rfl⟩
  rw [hcan] at CR CR2
  have HMem : Hid (can = true → g ∈ reachL false (a : Int) b z p) := fun h => reach_mem.2 (by rw [hcan, h])
  have HPr := Lib.hid (fun h => find_proof (W := (a : Int)) (H := b) (Z := z) (P := p) (G := g) h)
  have hle := first_le (a : Int) b z p g
  obtain ⟨⟨xs, ok⟩, hr⟩ : ∃ r, findB (a : Int) b z p g = r := ⟨_, rfl⟩
  rw [hr] at CF HPr hle
  simp only at hle
  have HPr : Hid (ok = true → proofB (a : Int) b z xs p g = true) := HPr.out
  have HNC : Hid (ok = true → can = false) := fun h => by
    cases hc : can
    · rfl
    · have := HSm.out.proof (xs := xs) (HMem.out hc)
      rw [HPr.out h] at this
      cases this
  have HKey : Hid (can = true → sameB (a : Int) b z p g = true) := fun h => by
    have hm := HMem.out h
    exact same_of HPO.out HGO.out (HSm.out.key hm).symm
  clear hcan hr HMem
  obtain ⟨c0, c1, c2, -, -, -⟩ := row_facts HS5.out.board
  go_wp2_with fail
  clear c0 c1 c2
  refine (CF.out _).mono ?_
  rintro e w6 ⟨v, rfl, hh, hb⟩
  obtain ⟨va, vc, rfl, hxs⟩ := iv_at hh
  simp only at hxs
  have HX6 := Lib.hid hxs
  have HS6 := Lib.hid (HS5.out.later hb)
  clear hb hh hxs HS5 CF
  obtain ⟨n, hn⟩ : ∃ n, xs.length = n := ⟨_, rfl⟩
  simp only [hn] at HX6 hle ⊢
  clear hn
  obtain ⟨c0, c1, c2, -, -, -⟩ := row_facts HS6.out.board
  go_wp2_with fail
  clear c0 c1 c2
  refine (CR.out _).mono ?_
  rintro e w7 ⟨rfl, hb⟩
  have HX7 := Lib.hid (HX6.out.later hb)
  have HS7 := Lib.hid (HS6.out.later hb)
  clear hb HS6 HX6 CR
  go_upto_region 9 with fail
  go_cut [66] (fun cc wx => cc = .bool false ∧ Hid (PSt w q a b z wx))
  case first =>
    cases ok
    · go_wp2_with fail
      go_meet
      exact ⟨rfl, HS7⟩
    · have hc := HNC.out rfl
      subst hc
      have CP := Lib.hid (implProof (a : Int) b z p g HP.out HG.out (c := vc) w7 (by omega) HX7.out)
      rw [HPr.out rfl] at CP
      obtain ⟨c0, c1, c2, -, -, -⟩ := row_facts HS7.out.board
      go_wp2_with fail
      clear c0 c1 c2
      refine CP.out.mono ?_
      rintro e w8 ⟨rfl, hb⟩
      have HS8 := Lib.hid (HS7.out.later hb)
      clear hb
      go_wp2_with fail
      go_meet
      exact ⟨rfl, HS8⟩
  case rest =>
    clear HS7 HX7 HPr HNC
    obtain ⟨rfl, HS8⟩ := hcut
    go_wp2_with fail
    go_loopw [11] (fun i wr => ∃ r : Nat, r ≤ 3 ∧ i = .int .i64 r ∧ Hid (PSt w q a b z wr)) (fun i _ => 3 - (intOf i).toNat)
    case atStart => exact ⟨0, by omega, rfl, HS8⟩
    case round =>
      clear HS8
      obtain ⟨r, hr3, rfl, HS⟩ := hrel
      by_cases hrl : r < 3
      · have r1 : (r : Int) < 3 := by omega
        have CW := Lib.hid (fun w => implClassW (a : Int) b z r w)
        have HF := cls_falls HOk.out (show r ≤ 2 by omega)
        have HL := overL_le (a : Int) b z r 2 clsW
        generalize overL (a : Int) b z r 2 clsW = ys at *
        have CFl := Lib.hid (fun va vc w (h : IntsAt w va ys.length ys) => specFalling (a : Int) b z (c := vc) w (by omega) h)
        rw [HF] at CFl
        clear HF HL
        go_wp2_with fail
        refine wp_region_script (by kernel_rfl) (by kernel_rfl) ?_
        refine Script.load (i := 0) (v := ?_) rfl (by kernel_rfl) (by kernel_rfl) (fun _ _ _ h => h) (by kernel_rfl) ?_ ?_
        rotate_left
        · (intro wS hSw; have hRS := HS.out.later (After.trans (After.drew (After.refl _)) hSw); obtain ⟨c0, c1, c2, -, -, -⟩ := row_facts hRS.board; go_simp; try with_reducible rfl)
        try simp only [Act.put, List.getElem_toArray, List.getElem_cons_succ, List.getElem_cons_zero, List.setIfInBounds_toArray, List.set_cons_zero, List.set_cons_succ]
        refine Script.load (i := 1) (v := ?_) rfl (by kernel_rfl) (by kernel_rfl) (fun _ _ _ h => h) (by kernel_rfl) ?_ ?_
        rotate_left
        · (intro wS hSw; have hRS := HS.out.later (After.trans (After.drew (After.refl _)) hSw); obtain ⟨c0, c1, c2, -, -, -⟩ := row_facts hRS.board; go_simp; try with_reducible rfl)
        try simp only [Act.put, List.getElem_toArray, List.getElem_cons_succ, List.getElem_cons_zero, List.setIfInBounds_toArray, List.set_cons_zero, List.set_cons_succ]
        refine Script.load (i := 2) (v := ?_) rfl (by kernel_rfl) (by kernel_rfl) (fun _ _ _ h => h) (by kernel_rfl) ?_ ?_
        rotate_left
        · (intro wS hSw; have hRS := HS.out.later (After.trans (After.drew (After.refl _)) hSw); obtain ⟨c0, c1, c2, -, -, -⟩ := row_facts hRS.board; go_simp; try with_reducible rfl)
        try simp only [Act.put, List.getElem_toArray, List.getElem_cons_succ, List.getElem_cons_zero, List.setIfInBounds_toArray, List.set_cons_zero, List.set_cons_succ]
        refine Script.one (i := 3) rfl (by kernel_rfl) (by kernel_rfl) ?_
        intro wO hO K hK; have hSw := hO; have hRS := HS.out.later (After.trans (After.drew (After.refl _)) hSw); obtain ⟨c0, c1, c2, -, -, -⟩ := row_facts hRS.board; go_simp
        clear hSw
        go_at_call 13; refine (CW.out _).mono ?_; rintro e wc ⟨v, rfl, hh, hbc⟩; obtain ⟨xa, xc, rfl, hI⟩ := iv_at hh
        refine hK.out _ _ hbc ?_
        clear hK K
        try simp only [Act.put, List.getElem_toArray, List.getElem_cons_succ, List.getElem_cons_zero, List.setIfInBounds_toArray, List.set_cons_zero, List.set_cons_succ]
        have HSc := Lib.hid (HS.out.later (After.trans (After.drew (After.refl _)) (After.trans hO hbc)))
        clear c0 c1 c2 hRS
        refine Script.call (i := 4) (v := ?_) rfl (by kernel_rfl) (by kernel_rfl) (fun _ _ _ h => h) (by kernel_rfl) ?_ ?_
        rotate_left
        · (intro wS hSw K hK; skip; go_simp; go_at_call 12; refine (CFl.out _ _ _ (hI.later hSw)).mono ?_; rintro e wd ⟨rfl, hbc⟩; exact hK.out _ hbc)
        try simp only [Act.put, List.getElem_toArray, List.getElem_cons_succ, List.getElem_cons_zero, List.setIfInBounds_toArray, List.set_cons_zero, List.set_cons_succ]
        refine Script.load (i := 5) (v := ?_) rfl (by kernel_rfl) (by kernel_rfl) (fun _ _ _ h => h) (by kernel_rfl) ?_ ?_
        rotate_left
        · (intro wS hSw; skip; go_simp; try with_reducible rfl)
        try simp only [Act.put, List.getElem_toArray, List.getElem_cons_succ, List.getElem_cons_zero, List.setIfInBounds_toArray, List.set_cons_zero, List.set_cons_succ]
        refine Script.done (by kernel_rfl) ?_
        intro wD hD hG
        have HS2 := Lib.hid (HSc.out.later hD)
        clear hD hG HS
        go_wp2_with fail
        go_roundw
        case rel => exact ⟨r + 1, by omega, by go_num, HS2⟩
        case measure => simp [intOf]; omega
      · obtain rfl : r = 3 := by omega
        have HCO9 := Lib.hid (HCO.out.below HS.out.below)
        go_wp2_with fail
        refine (byteAt0 _ HCO9.out).mono ?_
        rintro e w' ⟨x, hx, rfl, rfl⟩
        have hm0 : 0 ≤ (x : Int) % 7 := Int.emod_nonneg _ (by omega)
        have hm1 : (x : Int) % 7 < 7 := Int.emod_lt_of_pos _ (by omega)
        obtain ⟨k, hk⟩ := Int.eq_ofNat_of_zero_le hm0
        rw [hk] at hm0 hm1
        have hk6 : k ≤ 6 := by omega
        have CW := Lib.hid (fun w => implColumnW (a : Int) b z ((x : Int) % 7) w)
        have CV := Lib.hid (fun w => implRowW (a : Int) b z ((x : Int) % 7) w)
        rw [show overL (a : Int) b z ((x : Int) % 7) 6 colW = overL (a : Int) b z k 6 colW by rw [hk]] at CW
        rw [show overL (a : Int) b z ((x : Int) % 7) 6 rowW = overL (a : Int) b z k 6 rowW by rw [hk]] at CV
        have HF := col_falls HOk.out hk6
        have HF2 := row_falls HOk.out hk6
        have HL := overL_le (a : Int) b z k 6 colW
        have HL2 := overL_le (a : Int) b z k 6 rowW
        generalize overL (a : Int) b z k 6 colW = ys at *
        generalize overL (a : Int) b z k 6 rowW = zs at *
        have CFl := Lib.hid (fun va vc w (h : IntsAt w va ys.length ys) => specFalling (a : Int) b z (c := vc) w (by omega) h)
        have CFl2 := Lib.hid (fun va vc w (h : IntsAt w va zs.length zs) => specFalling (a : Int) b z (c := vc) w (by omega) h)
        rw [HF] at CFl
        rw [HF2] at CFl2
        have CK := Lib.hid (fun w => specSame (a : Int) b z p g HP.out HG.out w)
        clear HF HL HF2 HL2 hm0 hm1 hk6 hx hk
        cases can
        · clear HKey CK
          go_wp2_with fail
          refine wp_region_script (by kernel_rfl) (by kernel_rfl) ?_
          refine Script.load (i := 0) (v := ?_) rfl (by kernel_rfl) (by kernel_rfl) (fun _ _ _ h => h) (by kernel_rfl) ?_ ?_
          rotate_left
          · (intro wS hSw; have hRS := HS.out.later (After.trans (After.drew (After.refl _)) hSw); obtain ⟨c0, c1, c2, -, -, -⟩ := row_facts hRS.board; go_simp; try with_reducible rfl)
          try simp only [Act.put, List.getElem_toArray, List.getElem_cons_succ, List.getElem_cons_zero, List.setIfInBounds_toArray, List.set_cons_zero, List.set_cons_succ]
          refine Script.load (i := 1) (v := ?_) rfl (by kernel_rfl) (by kernel_rfl) (fun _ _ _ h => h) (by kernel_rfl) ?_ ?_
          rotate_left
          · (intro wS hSw; have hRS := HS.out.later (After.trans (After.drew (After.refl _)) hSw); obtain ⟨c0, c1, c2, -, -, -⟩ := row_facts hRS.board; go_simp; try with_reducible rfl)
          try simp only [Act.put, List.getElem_toArray, List.getElem_cons_succ, List.getElem_cons_zero, List.setIfInBounds_toArray, List.set_cons_zero, List.set_cons_succ]
          refine Script.load (i := 2) (v := ?_) rfl (by kernel_rfl) (by kernel_rfl) (fun _ _ _ h => h) (by kernel_rfl) ?_ ?_
          rotate_left
          · (intro wS hSw; have hRS := HS.out.later (After.trans (After.drew (After.refl _)) hSw); obtain ⟨c0, c1, c2, -, -, -⟩ := row_facts hRS.board; go_simp; try with_reducible rfl)
          try simp only [Act.put, List.getElem_toArray, List.getElem_cons_succ, List.getElem_cons_zero, List.setIfInBounds_toArray, List.set_cons_zero, List.set_cons_succ]
          refine Script.one (i := 3) rfl (by kernel_rfl) (by kernel_rfl) ?_
          intro wO hO K hK; have hSw := hO; have hRS := HS.out.later (After.trans (After.drew (After.refl _)) hSw); obtain ⟨c0, c1, c2, -, -, -⟩ := row_facts hRS.board; go_simp
          clear hSw
          go_at_call 15; refine (CW.out _).mono ?_; rintro e wc ⟨v, rfl, hh, hbc⟩; obtain ⟨xa, xc, rfl, hI⟩ := iv_at hh
          refine hK.out _ _ hbc ?_
          clear hK K
          try simp only [Act.put, List.getElem_toArray, List.getElem_cons_succ, List.getElem_cons_zero, List.setIfInBounds_toArray, List.set_cons_zero, List.set_cons_succ]
          have HSc := Lib.hid (HS.out.later (After.trans (After.drew (After.refl _)) (After.trans hO hbc)))
          clear c0 c1 c2 hRS hbc hO
          refine Script.call (i := 4) (v := ?_) rfl (by kernel_rfl) (by kernel_rfl) (fun _ _ _ h => h) (by kernel_rfl) ?_ ?_
          rotate_left
          · (intro wS hSw K hK; have hRS := HSc.out.later hSw; obtain ⟨c0, c1, c2, -, -, -⟩ := row_facts hRS.board; go_simp; go_at_call 12; refine (CFl.out _ _ _ (hI.later hSw)).mono ?_; rintro e wd ⟨rfl, hbc⟩; exact hK.out _ hbc)
          try simp only [Act.put, List.getElem_toArray, List.getElem_cons_succ, List.getElem_cons_zero, List.setIfInBounds_toArray, List.set_cons_zero, List.set_cons_succ]
          refine Script.load (i := 5) (v := ?_) rfl (by kernel_rfl) (by kernel_rfl) (fun _ _ _ h => h) (by kernel_rfl) ?_ ?_
          rotate_left
          · (intro wS hSw; have hRS := HSc.out.later hSw; obtain ⟨c0, c1, c2, -, -, -⟩ := row_facts hRS.board; go_simp; try with_reducible rfl)
          try simp only [Act.put, List.getElem_toArray, List.getElem_cons_succ, List.getElem_cons_zero, List.setIfInBounds_toArray, List.set_cons_zero, List.set_cons_succ]
          refine Script.load (i := 6) (v := ?_) rfl (by kernel_rfl) (by kernel_rfl) (fun _ _ _ h => h) (by kernel_rfl) ?_ ?_
          rotate_left
          · (intro wS hSw; have hRS := HSc.out.later hSw; obtain ⟨c0, c1, c2, -, -, -⟩ := row_facts hRS.board; go_simp; try with_reducible rfl)
          try simp only [Act.put, List.getElem_toArray, List.getElem_cons_succ, List.getElem_cons_zero, List.setIfInBounds_toArray, List.set_cons_zero, List.set_cons_succ]
          refine Script.load (i := 7) (v := ?_) rfl (by kernel_rfl) (by kernel_rfl) (fun _ _ _ h => h) (by kernel_rfl) ?_ ?_
          rotate_left
          · (intro wS hSw; have hRS := HSc.out.later hSw; obtain ⟨c0, c1, c2, -, -, -⟩ := row_facts hRS.board; go_simp; try with_reducible rfl)
          try simp only [Act.put, List.getElem_toArray, List.getElem_cons_succ, List.getElem_cons_zero, List.setIfInBounds_toArray, List.set_cons_zero, List.set_cons_succ]
          refine Script.load (i := 8) (v := ?_) rfl (by kernel_rfl) (by kernel_rfl) (fun _ _ _ h => h) (by kernel_rfl) ?_ ?_
          rotate_left
          · (intro wS hSw; have hRS := HSc.out.later hSw; obtain ⟨c0, c1, c2, -, -, -⟩ := row_facts hRS.board; go_simp; try with_reducible rfl)
          try simp only [Act.put, List.getElem_toArray, List.getElem_cons_succ, List.getElem_cons_zero, List.setIfInBounds_toArray, List.set_cons_zero, List.set_cons_succ]
          refine Script.one (i := 9) rfl (by kernel_rfl) (by kernel_rfl) ?_
          intro wO hO K hK; have hSw := hO; have hRS := HSc.out.later hSw; obtain ⟨c0, c1, c2, -, -, -⟩ := row_facts hRS.board; go_simp
          clear hSw
          go_at_call 16; refine (CV.out _).mono ?_; rintro e wc2 ⟨v, rfl, hh2, hbc⟩; obtain ⟨xa2, xc2, rfl, hI2⟩ := iv_at hh2
          refine hK.out _ _ hbc ?_
          clear hK K
          try simp only [Act.put, List.getElem_toArray, List.getElem_cons_succ, List.getElem_cons_zero, List.setIfInBounds_toArray, List.set_cons_zero, List.set_cons_succ]
          have HSd := Lib.hid (HSc.out.later (After.trans hO hbc))
          clear c0 c1 c2 hRS hbc hO
          refine Script.call (i := 10) (v := ?_) rfl (by kernel_rfl) (by kernel_rfl) (fun _ _ _ h => h) (by kernel_rfl) ?_ ?_
          rotate_left
          · (intro wS hSw K hK; have hRS := HSd.out.later hSw; obtain ⟨c0, c1, c2, -, -, -⟩ := row_facts hRS.board; go_simp; go_at_call 12; refine (CFl2.out _ _ _ (hI2.later hSw)).mono ?_; rintro e wd ⟨rfl, hbc⟩; exact hK.out _ hbc)
          try simp only [Act.put, List.getElem_toArray, List.getElem_cons_succ, List.getElem_cons_zero, List.setIfInBounds_toArray, List.set_cons_zero, List.set_cons_succ]
          refine Script.load (i := 11) (v := ?_) rfl (by kernel_rfl) (by kernel_rfl) (fun _ _ _ h => h) (by kernel_rfl) ?_ ?_
          rotate_left
          · (intro wS hSw; have hRS := HSd.out.later hSw; obtain ⟨c0, c1, c2, -, -, -⟩ := row_facts hRS.board; go_simp; try with_reducible rfl)
          try simp only [Act.put, List.getElem_toArray, List.getElem_cons_succ, List.getElem_cons_zero, List.setIfInBounds_toArray, List.set_cons_zero, List.set_cons_succ]
          refine Script.load (i := 12) (v := ?_) rfl (by kernel_rfl) (by kernel_rfl) (fun _ _ _ h => h) (by kernel_rfl) ?_ ?_
          rotate_left
          · (intro wS hSw; have hRS := HSd.out.later hSw; obtain ⟨c0, c1, c2, -, -, -⟩ := row_facts hRS.board; go_simp; try with_reducible rfl)
          try simp only [Act.put, List.getElem_toArray, List.getElem_cons_succ, List.getElem_cons_zero, List.setIfInBounds_toArray, List.set_cons_zero, List.set_cons_succ]
          refine Script.load (i := 13) (v := ?_) rfl (by kernel_rfl) (by kernel_rfl) (fun _ _ _ h => h) (by kernel_rfl) ?_ ?_
          rotate_left
          · (intro wS hSw; have hRS := HSd.out.later hSw; obtain ⟨c0, c1, c2, -, -, -⟩ := row_facts hRS.board; go_simp; try with_reducible rfl)
          try simp only [Act.put, List.getElem_toArray, List.getElem_cons_succ, List.getElem_cons_zero, List.setIfInBounds_toArray, List.set_cons_zero, List.set_cons_succ]
          refine Script.load (i := 14) (v := ?_) rfl (by kernel_rfl) (by kernel_rfl) (fun _ _ _ h => h) (by kernel_rfl) ?_ ?_
          rotate_left
          · (intro wS hSw; have hRS := HSd.out.later hSw; obtain ⟨c0, c1, c2, -, -, -⟩ := row_facts hRS.board; go_simp; try with_reducible rfl)
          try simp only [Act.put, List.getElem_toArray, List.getElem_cons_succ, List.getElem_cons_zero, List.setIfInBounds_toArray, List.set_cons_zero, List.set_cons_succ]
          refine Script.load (i := 15) (v := ?_) rfl (by kernel_rfl) (by kernel_rfl) (fun _ _ _ h => h) (by kernel_rfl) ?_ ?_
          rotate_left
          · (intro wS hSw; have hRS := HSd.out.later hSw; obtain ⟨c0, c1, c2, -, -, -⟩ := row_facts hRS.board; go_simp; try with_reducible rfl)
          try simp only [Act.put, List.getElem_toArray, List.getElem_cons_succ, List.getElem_cons_zero, List.setIfInBounds_toArray, List.set_cons_zero, List.set_cons_succ]
          refine Script.load (i := 16) (v := ?_) rfl (by kernel_rfl) (by kernel_rfl) (fun _ _ _ h => h) (by kernel_rfl) ?_ ?_
          rotate_left
          · (intro wS hSw; have hRS := HSd.out.later hSw; obtain ⟨c0, c1, c2, -, -, -⟩ := row_facts hRS.board; go_simp; try with_reducible rfl)
          try simp only [Act.put, List.getElem_toArray, List.getElem_cons_succ, List.getElem_cons_zero, List.setIfInBounds_toArray, List.set_cons_zero, List.set_cons_succ]
          refine Script.call (i := 17) (v := ?_) rfl (by kernel_rfl) (by kernel_rfl) (fun _ _ _ h => h) (by kernel_rfl) ?_ ?_
          rotate_left
          · (intro wS hSw K hK; have hRS := HSd.out.later hSw; obtain ⟨c0, c1, c2, -, -, -⟩ := row_facts hRS.board; go_simp; go_at_call 17; refine (CR2.out _).mono ?_; rintro e wd ⟨rfl, hbc⟩; exact hK.out _ hbc)
          try simp only [Act.put, List.getElem_toArray, List.getElem_cons_succ, List.getElem_cons_zero, List.setIfInBounds_toArray, List.set_cons_zero, List.set_cons_succ]
          refine Script.load (i := 18) (v := ?_) rfl (by kernel_rfl) (by kernel_rfl) (fun _ _ _ h => h) (by kernel_rfl) ?_ ?_
          rotate_left
          · (intro wS hSw; have hRS := HSd.out.later hSw; obtain ⟨c0, c1, c2, -, -, -⟩ := row_facts hRS.board; go_simp; try with_reducible rfl)
          try simp only [Act.put, List.getElem_toArray, List.getElem_cons_succ, List.getElem_cons_zero, List.setIfInBounds_toArray, List.set_cons_zero, List.set_cons_succ]
          refine Script.load (i := 19) (v := ?_) rfl (by kernel_rfl) (by kernel_rfl) (fun _ _ _ h => h) (by kernel_rfl) ?_ ?_
          rotate_left
          · (intro wS hSw; have hRS := HSd.out.later hSw; obtain ⟨c0, c1, c2, -, -, -⟩ := row_facts hRS.board; go_simp; try with_reducible rfl)
          try simp only [Act.put, List.getElem_toArray, List.getElem_cons_succ, List.getElem_cons_zero, List.setIfInBounds_toArray, List.set_cons_zero, List.set_cons_succ]
          refine Script.load (i := 20) (v := ?_) rfl (by kernel_rfl) (by kernel_rfl) (fun _ _ _ h => h) (by kernel_rfl) ?_ ?_
          rotate_left
          · (intro wS hSw; have hRS := HSd.out.later hSw; obtain ⟨c0, c1, c2, -, -, -⟩ := row_facts hRS.board; go_simp; try with_reducible rfl)
          try simp only [Act.put, List.getElem_toArray, List.getElem_cons_succ, List.getElem_cons_zero, List.setIfInBounds_toArray, List.set_cons_zero, List.set_cons_succ]
          refine Script.load (i := 21) (v := ?_) rfl (by kernel_rfl) (by kernel_rfl) (fun _ _ _ h => h) (by kernel_rfl) ?_ ?_
          rotate_left
          · (intro wS hSw; have hRS := HSd.out.later hSw; obtain ⟨c0, c1, c2, -, -, -⟩ := row_facts hRS.board; go_simp; try with_reducible rfl)
          try simp only [Act.put, List.getElem_toArray, List.getElem_cons_succ, List.getElem_cons_zero, List.setIfInBounds_toArray, List.set_cons_zero, List.set_cons_succ]
          refine Script.load (i := 22) (v := ?_) rfl (by kernel_rfl) (by kernel_rfl) (fun _ _ _ h => h) (by kernel_rfl) ?_ ?_
          rotate_left
          · (intro wS hSw; have hRS := HSd.out.later hSw; obtain ⟨c0, c1, c2, -, -, -⟩ := row_facts hRS.board; go_simp; try with_reducible rfl)
          try simp only [Act.put, List.getElem_toArray, List.getElem_cons_succ, List.getElem_cons_zero, List.setIfInBounds_toArray, List.set_cons_zero, List.set_cons_succ]
          refine Script.load (i := 23) (v := ?_) rfl (by kernel_rfl) (by kernel_rfl) (fun _ _ _ h => h) (by kernel_rfl) ?_ ?_
          rotate_left
          · (intro wS hSw; have hRS := HSd.out.later hSw; obtain ⟨c0, c1, c2, -, -, -⟩ := row_facts hRS.board; go_simp; try with_reducible rfl)
          try simp only [Act.put, List.getElem_toArray, List.getElem_cons_succ, List.getElem_cons_zero, List.setIfInBounds_toArray, List.set_cons_zero, List.set_cons_succ]
          refine Script.skip (i := 24) rfl (by kernel_rfl) (by kernel_rfl) (fun _ _ _ h => h) (by kernel_rfl) ?_
          try simp only [Act.put, List.getElem_toArray, List.getElem_cons_succ, List.getElem_cons_zero, List.setIfInBounds_toArray, List.set_cons_zero, List.set_cons_succ]
          refine Script.skip (i := 25) rfl (by kernel_rfl) (by kernel_rfl) (fun _ _ _ h => h) (by kernel_rfl) ?_
          try simp only [Act.put, List.getElem_toArray, List.getElem_cons_succ, List.getElem_cons_zero, List.setIfInBounds_toArray, List.set_cons_zero, List.set_cons_succ]
          refine Script.skip (i := 26) rfl (by kernel_rfl) (by kernel_rfl) (fun _ _ _ h => h) (by kernel_rfl) ?_
          try simp only [Act.put, List.getElem_toArray, List.getElem_cons_succ, List.getElem_cons_zero, List.setIfInBounds_toArray, List.set_cons_zero, List.set_cons_succ]
          refine Script.skip (i := 27) rfl (by kernel_rfl) (by kernel_rfl) (fun _ _ _ h => h) (by kernel_rfl) ?_
          try simp only [Act.put, List.getElem_toArray, List.getElem_cons_succ, List.getElem_cons_zero, List.setIfInBounds_toArray, List.set_cons_zero, List.set_cons_succ]
          refine Script.load (i := 28) (v := ?_) rfl (by kernel_rfl) (by kernel_rfl) (fun _ _ _ h => h) (by kernel_rfl) ?_ ?_
          rotate_left
          · (intro wS hSw; have hRS := HSd.out.later hSw; obtain ⟨c0, c1, c2, -, -, -⟩ := row_facts hRS.board; go_simp; try with_reducible rfl)
          try simp only [Act.put, List.getElem_toArray, List.getElem_cons_succ, List.getElem_cons_zero, List.setIfInBounds_toArray, List.set_cons_zero, List.set_cons_succ]
          refine Script.load (i := 29) (v := ?_) rfl (by kernel_rfl) (by kernel_rfl) (fun _ _ _ h => h) (by kernel_rfl) ?_ ?_
          rotate_left
          · (intro wS hSw; have hRS := HSd.out.later hSw; obtain ⟨c0, c1, c2, -, -, -⟩ := row_facts hRS.board; go_simp; try with_reducible rfl)
          try simp only [Act.put, List.getElem_toArray, List.getElem_cons_succ, List.getElem_cons_zero, List.setIfInBounds_toArray, List.set_cons_zero, List.set_cons_succ]
          refine Script.load (i := 30) (v := ?_) rfl (by kernel_rfl) (by kernel_rfl) (fun _ _ _ h => h) (by kernel_rfl) ?_ ?_
          rotate_left
          · (intro wS hSw; have hRS := HSd.out.later hSw; obtain ⟨c0, c1, c2, -, -, -⟩ := row_facts hRS.board; go_simp; try with_reducible rfl)
          try simp only [Act.put, List.getElem_toArray, List.getElem_cons_succ, List.getElem_cons_zero, List.setIfInBounds_toArray, List.set_cons_zero, List.set_cons_succ]
          refine Script.done (by kernel_rfl) ?_
          intro wD hD hG
          have HS2 := Lib.hid (HSd.out.later hD)
          clear hD hG
          go_wp2_with fail
          go_ret
          exact ⟨rfl, HS2.out.below⟩
        · rw [HKey.out rfl] at CK
          go_wp2_with fail
          refine wp_region_script (by kernel_rfl) (by kernel_rfl) ?_
          refine Script.load (i := 0) (v := ?_) rfl (by kernel_rfl) (by kernel_rfl) (fun _ _ _ h => h) (by kernel_rfl) ?_ ?_
          rotate_left
          · (intro wS hSw; have hRS := HS.out.later (After.trans (After.drew (After.refl _)) hSw); obtain ⟨c0, c1, c2, -, -, -⟩ := row_facts hRS.board; go_simp; try with_reducible rfl)
          try simp only [Act.put, List.getElem_toArray, List.getElem_cons_succ, List.getElem_cons_zero, List.setIfInBounds_toArray, List.set_cons_zero, List.set_cons_succ]
          refine Script.load (i := 1) (v := ?_) rfl (by kernel_rfl) (by kernel_rfl) (fun _ _ _ h => h) (by kernel_rfl) ?_ ?_
          rotate_left
          · (intro wS hSw; have hRS := HS.out.later (After.trans (After.drew (After.refl _)) hSw); obtain ⟨c0, c1, c2, -, -, -⟩ := row_facts hRS.board; go_simp; try with_reducible rfl)
          try simp only [Act.put, List.getElem_toArray, List.getElem_cons_succ, List.getElem_cons_zero, List.setIfInBounds_toArray, List.set_cons_zero, List.set_cons_succ]
          refine Script.load (i := 2) (v := ?_) rfl (by kernel_rfl) (by kernel_rfl) (fun _ _ _ h => h) (by kernel_rfl) ?_ ?_
          rotate_left
          · (intro wS hSw; have hRS := HS.out.later (After.trans (After.drew (After.refl _)) hSw); obtain ⟨c0, c1, c2, -, -, -⟩ := row_facts hRS.board; go_simp; try with_reducible rfl)
          try simp only [Act.put, List.getElem_toArray, List.getElem_cons_succ, List.getElem_cons_zero, List.setIfInBounds_toArray, List.set_cons_zero, List.set_cons_succ]
          refine Script.one (i := 3) rfl (by kernel_rfl) (by kernel_rfl) ?_
          intro wO hO K hK; have hSw := hO; have hRS := HS.out.later (After.trans (After.drew (After.refl _)) hSw); obtain ⟨c0, c1, c2, -, -, -⟩ := row_facts hRS.board; go_simp
          clear hSw
          go_at_call 15; refine (CW.out _).mono ?_; rintro e wc ⟨v, rfl, hh, hbc⟩; obtain ⟨xa, xc, rfl, hI⟩ := iv_at hh
          refine hK.out _ _ hbc ?_
          clear hK K
          try simp only [Act.put, List.getElem_toArray, List.getElem_cons_succ, List.getElem_cons_zero, List.setIfInBounds_toArray, List.set_cons_zero, List.set_cons_succ]
          have HSc := Lib.hid (HS.out.later (After.trans (After.drew (After.refl _)) (After.trans hO hbc)))
          clear c0 c1 c2 hRS hbc hO
          refine Script.call (i := 4) (v := ?_) rfl (by kernel_rfl) (by kernel_rfl) (fun _ _ _ h => h) (by kernel_rfl) ?_ ?_
          rotate_left
          · (intro wS hSw K hK; have hRS := HSc.out.later hSw; obtain ⟨c0, c1, c2, -, -, -⟩ := row_facts hRS.board; go_simp; go_at_call 12; refine (CFl.out _ _ _ (hI.later hSw)).mono ?_; rintro e wd ⟨rfl, hbc⟩; exact hK.out _ hbc)
          try simp only [Act.put, List.getElem_toArray, List.getElem_cons_succ, List.getElem_cons_zero, List.setIfInBounds_toArray, List.set_cons_zero, List.set_cons_succ]
          refine Script.load (i := 5) (v := ?_) rfl (by kernel_rfl) (by kernel_rfl) (fun _ _ _ h => h) (by kernel_rfl) ?_ ?_
          rotate_left
          · (intro wS hSw; have hRS := HSc.out.later hSw; obtain ⟨c0, c1, c2, -, -, -⟩ := row_facts hRS.board; go_simp; try with_reducible rfl)
          try simp only [Act.put, List.getElem_toArray, List.getElem_cons_succ, List.getElem_cons_zero, List.setIfInBounds_toArray, List.set_cons_zero, List.set_cons_succ]
          refine Script.load (i := 6) (v := ?_) rfl (by kernel_rfl) (by kernel_rfl) (fun _ _ _ h => h) (by kernel_rfl) ?_ ?_
          rotate_left
          · (intro wS hSw; have hRS := HSc.out.later hSw; obtain ⟨c0, c1, c2, -, -, -⟩ := row_facts hRS.board; go_simp; try with_reducible rfl)
          try simp only [Act.put, List.getElem_toArray, List.getElem_cons_succ, List.getElem_cons_zero, List.setIfInBounds_toArray, List.set_cons_zero, List.set_cons_succ]
          refine Script.load (i := 7) (v := ?_) rfl (by kernel_rfl) (by kernel_rfl) (fun _ _ _ h => h) (by kernel_rfl) ?_ ?_
          rotate_left
          · (intro wS hSw; have hRS := HSc.out.later hSw; obtain ⟨c0, c1, c2, -, -, -⟩ := row_facts hRS.board; go_simp; try with_reducible rfl)
          try simp only [Act.put, List.getElem_toArray, List.getElem_cons_succ, List.getElem_cons_zero, List.setIfInBounds_toArray, List.set_cons_zero, List.set_cons_succ]
          refine Script.load (i := 8) (v := ?_) rfl (by kernel_rfl) (by kernel_rfl) (fun _ _ _ h => h) (by kernel_rfl) ?_ ?_
          rotate_left
          · (intro wS hSw; have hRS := HSc.out.later hSw; obtain ⟨c0, c1, c2, -, -, -⟩ := row_facts hRS.board; go_simp; try with_reducible rfl)
          try simp only [Act.put, List.getElem_toArray, List.getElem_cons_succ, List.getElem_cons_zero, List.setIfInBounds_toArray, List.set_cons_zero, List.set_cons_succ]
          refine Script.one (i := 9) rfl (by kernel_rfl) (by kernel_rfl) ?_
          intro wO hO K hK; have hSw := hO; have hRS := HSc.out.later hSw; obtain ⟨c0, c1, c2, -, -, -⟩ := row_facts hRS.board; go_simp
          clear hSw
          go_at_call 16; refine (CV.out _).mono ?_; rintro e wc2 ⟨v, rfl, hh2, hbc⟩; obtain ⟨xa2, xc2, rfl, hI2⟩ := iv_at hh2
          refine hK.out _ _ hbc ?_
          clear hK K
          try simp only [Act.put, List.getElem_toArray, List.getElem_cons_succ, List.getElem_cons_zero, List.setIfInBounds_toArray, List.set_cons_zero, List.set_cons_succ]
          have HSd := Lib.hid (HSc.out.later (After.trans hO hbc))
          clear c0 c1 c2 hRS hbc hO
          refine Script.call (i := 10) (v := ?_) rfl (by kernel_rfl) (by kernel_rfl) (fun _ _ _ h => h) (by kernel_rfl) ?_ ?_
          rotate_left
          · (intro wS hSw K hK; have hRS := HSd.out.later hSw; obtain ⟨c0, c1, c2, -, -, -⟩ := row_facts hRS.board; go_simp; go_at_call 12; refine (CFl2.out _ _ _ (hI2.later hSw)).mono ?_; rintro e wd ⟨rfl, hbc⟩; exact hK.out _ hbc)
          try simp only [Act.put, List.getElem_toArray, List.getElem_cons_succ, List.getElem_cons_zero, List.setIfInBounds_toArray, List.set_cons_zero, List.set_cons_succ]
          refine Script.load (i := 11) (v := ?_) rfl (by kernel_rfl) (by kernel_rfl) (fun _ _ _ h => h) (by kernel_rfl) ?_ ?_
          rotate_left
          · (intro wS hSw; have hRS := HSd.out.later hSw; obtain ⟨c0, c1, c2, -, -, -⟩ := row_facts hRS.board; go_simp; try with_reducible rfl)
          try simp only [Act.put, List.getElem_toArray, List.getElem_cons_succ, List.getElem_cons_zero, List.setIfInBounds_toArray, List.set_cons_zero, List.set_cons_succ]
          refine Script.load (i := 12) (v := ?_) rfl (by kernel_rfl) (by kernel_rfl) (fun _ _ _ h => h) (by kernel_rfl) ?_ ?_
          rotate_left
          · (intro wS hSw; have hRS := HSd.out.later hSw; obtain ⟨c0, c1, c2, -, -, -⟩ := row_facts hRS.board; go_simp; try with_reducible rfl)
          try simp only [Act.put, List.getElem_toArray, List.getElem_cons_succ, List.getElem_cons_zero, List.setIfInBounds_toArray, List.set_cons_zero, List.set_cons_succ]
          refine Script.load (i := 13) (v := ?_) rfl (by kernel_rfl) (by kernel_rfl) (fun _ _ _ h => h) (by kernel_rfl) ?_ ?_
          rotate_left
          · (intro wS hSw; have hRS := HSd.out.later hSw; obtain ⟨c0, c1, c2, -, -, -⟩ := row_facts hRS.board; go_simp; try with_reducible rfl)
          try simp only [Act.put, List.getElem_toArray, List.getElem_cons_succ, List.getElem_cons_zero, List.setIfInBounds_toArray, List.set_cons_zero, List.set_cons_succ]
          refine Script.load (i := 14) (v := ?_) rfl (by kernel_rfl) (by kernel_rfl) (fun _ _ _ h => h) (by kernel_rfl) ?_ ?_
          rotate_left
          · (intro wS hSw; have hRS := HSd.out.later hSw; obtain ⟨c0, c1, c2, -, -, -⟩ := row_facts hRS.board; go_simp; try with_reducible rfl)
          try simp only [Act.put, List.getElem_toArray, List.getElem_cons_succ, List.getElem_cons_zero, List.setIfInBounds_toArray, List.set_cons_zero, List.set_cons_succ]
          refine Script.load (i := 15) (v := ?_) rfl (by kernel_rfl) (by kernel_rfl) (fun _ _ _ h => h) (by kernel_rfl) ?_ ?_
          rotate_left
          · (intro wS hSw; have hRS := HSd.out.later hSw; obtain ⟨c0, c1, c2, -, -, -⟩ := row_facts hRS.board; go_simp; try with_reducible rfl)
          try simp only [Act.put, List.getElem_toArray, List.getElem_cons_succ, List.getElem_cons_zero, List.setIfInBounds_toArray, List.set_cons_zero, List.set_cons_succ]
          refine Script.load (i := 16) (v := ?_) rfl (by kernel_rfl) (by kernel_rfl) (fun _ _ _ h => h) (by kernel_rfl) ?_ ?_
          rotate_left
          · (intro wS hSw; have hRS := HSd.out.later hSw; obtain ⟨c0, c1, c2, -, -, -⟩ := row_facts hRS.board; go_simp; try with_reducible rfl)
          try simp only [Act.put, List.getElem_toArray, List.getElem_cons_succ, List.getElem_cons_zero, List.setIfInBounds_toArray, List.set_cons_zero, List.set_cons_succ]
          refine Script.call (i := 17) (v := ?_) rfl (by kernel_rfl) (by kernel_rfl) (fun _ _ _ h => h) (by kernel_rfl) ?_ ?_
          rotate_left
          · (intro wS hSw K hK; have hRS := HSd.out.later hSw; obtain ⟨c0, c1, c2, -, -, -⟩ := row_facts hRS.board; go_simp; go_at_call 17; refine (CR2.out _).mono ?_; rintro e wd ⟨rfl, hbc⟩; exact hK.out _ hbc)
          try simp only [Act.put, List.getElem_toArray, List.getElem_cons_succ, List.getElem_cons_zero, List.setIfInBounds_toArray, List.set_cons_zero, List.set_cons_succ]
          refine Script.load (i := 18) (v := ?_) rfl (by kernel_rfl) (by kernel_rfl) (fun _ _ _ h => h) (by kernel_rfl) ?_ ?_
          rotate_left
          · (intro wS hSw; have hRS := HSd.out.later hSw; obtain ⟨c0, c1, c2, -, -, -⟩ := row_facts hRS.board; go_simp; try with_reducible rfl)
          try simp only [Act.put, List.getElem_toArray, List.getElem_cons_succ, List.getElem_cons_zero, List.setIfInBounds_toArray, List.set_cons_zero, List.set_cons_succ]
          refine Script.load (i := 19) (v := ?_) rfl (by kernel_rfl) (by kernel_rfl) (fun _ _ _ h => h) (by kernel_rfl) ?_ ?_
          rotate_left
          · (intro wS hSw; have hRS := HSd.out.later hSw; obtain ⟨c0, c1, c2, -, -, -⟩ := row_facts hRS.board; go_simp; try with_reducible rfl)
          try simp only [Act.put, List.getElem_toArray, List.getElem_cons_succ, List.getElem_cons_zero, List.setIfInBounds_toArray, List.set_cons_zero, List.set_cons_succ]
          refine Script.load (i := 20) (v := ?_) rfl (by kernel_rfl) (by kernel_rfl) (fun _ _ _ h => h) (by kernel_rfl) ?_ ?_
          rotate_left
          · (intro wS hSw; have hRS := HSd.out.later hSw; obtain ⟨c0, c1, c2, -, -, -⟩ := row_facts hRS.board; go_simp; try with_reducible rfl)
          try simp only [Act.put, List.getElem_toArray, List.getElem_cons_succ, List.getElem_cons_zero, List.setIfInBounds_toArray, List.set_cons_zero, List.set_cons_succ]
          refine Script.load (i := 21) (v := ?_) rfl (by kernel_rfl) (by kernel_rfl) (fun _ _ _ h => h) (by kernel_rfl) ?_ ?_
          rotate_left
          · (intro wS hSw; have hRS := HSd.out.later hSw; obtain ⟨c0, c1, c2, -, -, -⟩ := row_facts hRS.board; go_simp; try with_reducible rfl)
          try simp only [Act.put, List.getElem_toArray, List.getElem_cons_succ, List.getElem_cons_zero, List.setIfInBounds_toArray, List.set_cons_zero, List.set_cons_succ]
          refine Script.load (i := 22) (v := ?_) rfl (by kernel_rfl) (by kernel_rfl) (fun _ _ _ h => h) (by kernel_rfl) ?_ ?_
          rotate_left
          · (intro wS hSw; have hRS := HSd.out.later hSw; obtain ⟨c0, c1, c2, -, -, -⟩ := row_facts hRS.board; go_simp; try with_reducible rfl)
          try simp only [Act.put, List.getElem_toArray, List.getElem_cons_succ, List.getElem_cons_zero, List.setIfInBounds_toArray, List.set_cons_zero, List.set_cons_succ]
          refine Script.load (i := 23) (v := ?_) rfl (by kernel_rfl) (by kernel_rfl) (fun _ _ _ h => h) (by kernel_rfl) ?_ ?_
          rotate_left
          · (intro wS hSw; have hRS := HSd.out.later hSw; obtain ⟨c0, c1, c2, -, -, -⟩ := row_facts hRS.board; go_simp; try with_reducible rfl)
          try simp only [Act.put, List.getElem_toArray, List.getElem_cons_succ, List.getElem_cons_zero, List.setIfInBounds_toArray, List.set_cons_zero, List.set_cons_succ]
          refine Script.load (i := 24) (v := ?_) rfl (by kernel_rfl) (by kernel_rfl) (fun _ _ _ h => h) (by kernel_rfl) ?_ ?_
          rotate_left
          · (intro wS hSw; have hRS := HSd.out.later hSw; obtain ⟨c0, c1, c2, -, -, -⟩ := row_facts hRS.board; go_simp; try with_reducible rfl)
          try simp only [Act.put, List.getElem_toArray, List.getElem_cons_succ, List.getElem_cons_zero, List.setIfInBounds_toArray, List.set_cons_zero, List.set_cons_succ]
          refine Script.load (i := 25) (v := ?_) rfl (by kernel_rfl) (by kernel_rfl) (fun _ _ _ h => h) (by kernel_rfl) ?_ ?_
          rotate_left
          · (intro wS hSw; have hRS := HSd.out.later hSw; obtain ⟨c0, c1, c2, -, -, -⟩ := row_facts hRS.board; go_simp; try with_reducible rfl)
          try simp only [Act.put, List.getElem_toArray, List.getElem_cons_succ, List.getElem_cons_zero, List.setIfInBounds_toArray, List.set_cons_zero, List.set_cons_succ]
          refine Script.load (i := 26) (v := ?_) rfl (by kernel_rfl) (by kernel_rfl) (fun _ _ _ h => h) (by kernel_rfl) ?_ ?_
          rotate_left
          · (intro wS hSw; have hRS := HSd.out.later hSw; obtain ⟨c0, c1, c2, -, -, -⟩ := row_facts hRS.board; go_simp; try with_reducible rfl)
          try simp only [Act.put, List.getElem_toArray, List.getElem_cons_succ, List.getElem_cons_zero, List.setIfInBounds_toArray, List.set_cons_zero, List.set_cons_succ]
          refine Script.call (i := 27) (v := ?_) rfl (by kernel_rfl) (by kernel_rfl) (fun _ _ _ h => h) (by kernel_rfl) ?_ ?_
          rotate_left
          · (intro wS hSw K hK; have hRS := HSd.out.later hSw; obtain ⟨c0, c1, c2, -, -, -⟩ := row_facts hRS.board; go_simp; go_at_call 18; refine (CK.out _).mono ?_; rintro e wd ⟨rfl, hbc⟩; exact hK.out _ hbc)
          try simp only [Act.put, List.getElem_toArray, List.getElem_cons_succ, List.getElem_cons_zero, List.setIfInBounds_toArray, List.set_cons_zero, List.set_cons_succ]
          refine Script.load (i := 28) (v := ?_) rfl (by kernel_rfl) (by kernel_rfl) (fun _ _ _ h => h) (by kernel_rfl) ?_ ?_
          rotate_left
          · (intro wS hSw; have hRS := HSd.out.later hSw; obtain ⟨c0, c1, c2, -, -, -⟩ := row_facts hRS.board; go_simp; try with_reducible rfl)
          try simp only [Act.put, List.getElem_toArray, List.getElem_cons_succ, List.getElem_cons_zero, List.setIfInBounds_toArray, List.set_cons_zero, List.set_cons_succ]
          refine Script.load (i := 29) (v := ?_) rfl (by kernel_rfl) (by kernel_rfl) (fun _ _ _ h => h) (by kernel_rfl) ?_ ?_
          rotate_left
          · (intro wS hSw; have hRS := HSd.out.later hSw; obtain ⟨c0, c1, c2, -, -, -⟩ := row_facts hRS.board; go_simp; try with_reducible rfl)
          try simp only [Act.put, List.getElem_toArray, List.getElem_cons_succ, List.getElem_cons_zero, List.setIfInBounds_toArray, List.set_cons_zero, List.set_cons_succ]
          refine Script.load (i := 30) (v := ?_) rfl (by kernel_rfl) (by kernel_rfl) (fun _ _ _ h => h) (by kernel_rfl) ?_ ?_
          rotate_left
          · (intro wS hSw; have hRS := HSd.out.later hSw; obtain ⟨c0, c1, c2, -, -, -⟩ := row_facts hRS.board; go_simp; try with_reducible rfl)
          try simp only [Act.put, List.getElem_toArray, List.getElem_cons_succ, List.getElem_cons_zero, List.setIfInBounds_toArray, List.set_cons_zero, List.set_cons_succ]
          refine Script.done (by kernel_rfl) ?_
          intro wD hD hG
          have HS2 := Lib.hid (HSd.out.later hD)
          clear hD hG
          go_wp2_with fail
          go_ret
          exact ⟨rfl, HS2.out.below⟩
set_option maxRecDepth 100000 in
theorem walk_far {a0 : Option Addr} {len cap : Nat} (w : World) (h : 1048576 < len) :
    Calls Tryz.prog 3 #[.slice a0 len cap] w fun e w' => e = .returned (.bool true) ∧ Below w.heap.size w w' := by
  go_enter Tryz.func3, Tryz.ntmps3
  go_wp2_with fail
  refine (big_yes _ h).mono ?_
  rintro e w' ⟨rfl, rfl⟩
  go_wp2_with fail
  go_ret
  exact ⟨rfl, Below.refl _ _⟩
theorem walk (a0 : Option Addr) (len0 cap0 : Nat) (z0 : List Int) (w : World) (w0 : IsRow .u8 w a0 len0 cap0 z0) :
    Calls Tryz.prog 3 #[.slice a0 len0 cap0] w fun e w' => e = .returned (.bool true) ∧ Below w.heap.size w w' := by
  by_cases h2 : len0 ≤ 1048576
  · exact walk_in w (code_of w0 h2)
  · exact walk_far w (by omega)
set_option maxRecDepth 100000 in
theorem lifted (os : Os) (started : os.Started) (H : Type) (enc : TypeId × Value → H) :
    ReturnsInHanded {} Tryz.checked os 3 .any (Rows.fnProofsSpec.pre6 enc Tryz.prog Tryz.f3 Rows.fnProofsRow.domain false) (Rows.fnProofsSpec.post enc Tryz.prog Tryz.f3 false true false false) := by
  refine returnsInHanded_of_change (C := Tryz.checked) own started (by kernel_rfl) Tryz.func3
    (ChangeSpec.witness6 (enc := enc) (C := Tryz.checked) false ⟨#[], #[.slice none 0 0], []⟩ 8 (by kernel_rfl) (by kernel_rfl) (by kernel_rfl) (by kernel_rfl)) ?_
  intro W base args ds gs before hval0 hW hcnd _
  have hval : ∀ (j : Nat) t v, Tryz.f3.params[j]? = some t → args[j]? = some v → Value.okWide Tryz.prog W .any base t v := hval0
  have hW' := hW
  obtain ⟨p, q, hA0, hV, rfl, hfz, hnd⟩ := hW
  have hA : DataW.TrodAll enc Tryz.prog W 0 (fun _ => true) true Tryz.f3.params.toList args.toList ds p := hA0
  rw [Tryz.params3] at hA hval
  obtain ⟨v0, vs0, d0, ds0, p0, q0, hargs, rfl, rfl, h0, r0⟩ := trodAll_cons hA
  obtain ⟨rfl, rfl, rfl⟩ := trodAll_nil r0
  obtain rfl : args = #[v0] := by cases args; simp_all
  obtain ⟨rfl, rfl⟩ := trodVars_none hV
  obtain ⟨a0, len0, cap0, rfl⟩ := okWide_slice Tryz.underlying22 (hval 0 22 v0 rfl rfl)
  have k0 := h0
  have lt0 : ∀ x ∈ p0, x.block < W.heap.size := by obtain ⟨m, hm⟩ := k0; exact DataW.trod_lt m _ _ _ hm
  obtain ⟨z0, w0⟩ : ∃ zs, IsRow .u8 W a0 len0 cap0 zs := by
    obtain ⟨fuel, hf⟩ := h0
    rcases open_ints Tryz.underlying22 Tryz.underlying5 (by kernel_rfl) hf with ⟨hcs, _⟩ | ⟨x, l, c, zs, hcs, _, hl, hm, hz, _, hcell, hwz⟩
    · simp [Value.cells] at hcs
      obtain ⟨rfl, rfl, rfl⟩ := hcs
      exact ⟨[], .inl ⟨rfl, rfl, rfl, rfl⟩⟩
    · simp [Value.cells] at hcs
      obtain ⟨rfl, rfl, rfl⟩ := hcs
      exact ⟨zs, .inr ⟨_, rfl, hl, hm, by simpa using hz, hcell, hwz⟩⟩
  clear hA0 hval0
  refine (walk a0 len0 cap0 z0 W w0).mono fun e W' ⟨he, bel⟩ => ?_
  subst he
  exact ⟨_, rfl, _, _, _, [], _, [], hW', trodAll_mk1 (shut_bool Tryz.underlying4 _), (trodAll_cons_mk (Below.trod laidOut (by kernel_rfl) (of_decide_eq_true (by kernel_rfl)) k0 bel lt0) trodAll_mk0), rfl, bel.frame _, fun h => by cases h⟩

theorem over : Rows.fnProofsRow.holds Tryz.pinned (OpenSpec.ofChange Rows.fnProofsSpec) :=
  OpenClaim.holds_of_wide 3 Tryz.f3 rfl rfl rfl rfl rfl rfl rfl ⟨rfl, rfl, rfl, rfl, rfl⟩ rfl rfl rfl rfl rfl (by kernel_rfl) Tryz.func3 (by kernel_rfl)
    (of_decide_eq_true (by kernel_rfl)) (by unfold Func.isWrapper; first | (rw [if_pos (by decide +kernel)]; kernel_rfl) | (rw [if_neg (by decide +kernel)]; exact ⟨rfl, rfl⟩))
    (fun os started H enc _ => lifted os started H enc)

theorem proved : Rows.FnProofsSaid := over
end Go.Proofs.YtllfgdcplbfdhaaGreat.fnProofs
