/- Games: performAll, PlayAll of the program and PlayAll, UndoAll of the model over a list of lines. Of lists of at most 1048576 lines. -/
import Derived.Test.YtdlpfpeblaapdaaGameMath
import Derived.Test.YtdlpfpeblaapdaaLineArgs
import Derived.Test.YtdlpfpeblaapdaaJumpsE
import Derived.Test.YtdlpfpeblaapdaaUndosE
namespace Go.Proofs.Ytdlpfpeblaapdaa
open Go.RowKit
set_option linter.unusedVariables false
set_option linter.unusedSimpArgs false
/-- A list's cell values at an index. -/
theorem lines_at {w : World} {B n gc : Nat} {ga : Option Addr} {xs : List Ln} (h : w.ownsRow B 58 3 (.slice ga n gc) n (lv xs)) (hn : xs.length = n) (h0 : 0 < n) : ∃ g, ga = some ⟨g, 0, none⟩ := by
  rcases Go.Joins.ownsRow_forms h with ⟨h1, h2⟩ | ⟨g, cap, h1⟩
  · omega
  · injection h1 with h1 h2 h3; exact ⟨g, h1⟩
set_option maxHeartbeats 2000000 in
set_option maxRecDepth 100000 in
theorem implPerform (N : Nat) (st : Int → Ln → Int × Bool) (W H Z P : Int) (hP : P ≤ 9223372036854775807) (xs : List Ln)
    (CS : ∀ (Q f o t : Int), Q ≤ 9223372036854775807 → ∀ w, Calls Try.prog N #[.agg #[.int .i64 W, .int .i64 H, .int .i64 Z], .int .i64 Q, .agg #[.int .i64 f, .int .i64 o, .int .i64 t]] w (QP (st Q (f, o, t)) w))
    (hbig : ∀ Q l, (st Q l).2 = true → (st Q l).1 ≤ 9223372036854775807)
    (hN : N = 36 ∨ N = 39) {n B gc : Nat} {ga : Option Addr} (hn : xs.length = n) (hx : n ≤ 1048576) (w : World) (ho : w.ownsRow B 58 3 (.slice ga n gc) n (lv xs)) :
    Calls Try.prog 35 #[.agg #[.int .i64 W, .int .i64 H, .int .i64 Z], .int .i64 P, .slice ga n gc, .func (.func N) #[] #[]] w (QP (allB st W H Z P xs) w) := by
  cases hp : posB W H Z P
  · have C1 := Lib.hid (implPos_is hP hp)
    rw [allB_pos hp]
    clear hp hP CS hbig ho hn hx hN
    go_enter Try.func35, Try.ntmps35
    go_wp2_with fail
    have B0 := Lib.hid (box_newT 25 W H Z w)
    generalize w.alloc (.cells #[.int .i64 W, .int .i64 H, .int .i64 Z] 25) = W1 at *
    obtain ⟨c0, c1, c2, hlt, hb1⟩ := B0.out
    go_step3
    go_wp2_with fail
    refine (C1.out _).mono ?_
    rintro e w1 ⟨rfl, hb⟩
    have B1 := Lib.hid (B0.out.later hb)
    clear c0 c1 c2 hlt hb1 hb B0
    go_wp2_with fail
    try go_step3
    try go_wp2_with fail
    try rw [Exit.noGoto_ret]
    go_ret2
    exact ⟨rfl, B1.out.2.2.2.2⟩
  · by_cases h60 : 60 < n
    · have C1 := Lib.hid (implPos_is hP hp)
      rw [allB_long (by rw [hn]; exact h60)]
      have hd : decide ((60 : Int) < (n : Int)) = true := decide_eq_true (by omega)
      clear hp hP CS hbig ho hn hx hN
      go_enter Try.func35, Try.ntmps35
      go_wp2_with fail
      have B0 := Lib.hid (box_newT 25 W H Z w)
      generalize w.alloc (.cells #[.int .i64 W, .int .i64 H, .int .i64 Z] 25) = W1 at *
      obtain ⟨c0, c1, c2, hlt, hb1⟩ := B0.out
      go_step3
      go_wp2_with fail
      refine (C1.out _).mono ?_
      rintro e w1 ⟨rfl, hb⟩
      have B1 := Lib.hid (B0.out.later hb)
      clear c0 c1 c2 hlt hb1 hb B0
      go_wp2_with fail
      try go_step3
      try go_wp2_with fail
      try rw [Exit.noGoto_ret]
      go_ret2
      exact ⟨rfl, B1.out.2.2.2.2⟩
    · have C1 := Lib.hid (implPos_is hP hp)
      have hd : decide ((60 : Int) < (n : Int)) = false := decide_eq_false (by omega)
      have EY := Lib.hid (fun q (hr : runO st P xs = some q) => allB_yes (st := st) hp (by rw [hn]; omega) hr)
      have EN := Lib.hid (fun (hr : runO st P xs = none) => allB_no (W := W) (H := H) (Z := Z) hr)
      have HC := Lib.hid CS
      have HB := Lib.hid hbig
      have HN := Lib.hid hn
      have HP := Lib.hid hP
      have HF := Lib.hid hN
      have HO := Lib.hid ho
      generalize allB st W H Z P xs = R at *
      have hn60 : n ≤ 60 := by omega
      clear hp hP CS hbig ho hn h60 hx hN
      go_enter Try.func35, Try.ntmps35
      go_wp2_with fail
      have B0 := Lib.hid (box_newT 25 W H Z w)
      have HO0 := Lib.hid (own_below HO.out ((Below.refl _ _).alloc (Nat.le_refl _) (.cells #[.int .i64 W, .int .i64 H, .int .i64 Z] 25)))
      generalize w.alloc (.cells #[.int .i64 W, .int .i64 H, .int .i64 Z] 25) = W1 at *
      obtain ⟨c0, c1, c2, hlt, hb1⟩ := B0.out
      go_step3
      go_wp2_with fail
      refine (C1.out _).mono ?_
      rintro e w1 ⟨rfl, hb⟩
      have B1 := Lib.hid (B0.out.later hb)
      have HO1 := Lib.hid (own_below HO0.out hb)
      clear c0 c1 c2 hlt hb1 hb B0 HO HO0
      go_wp2_with fail
      try go_step3
      try go_wp2_with fail
      go_loopw [10, 11, 27] (fun s b i wr => ∃ (k : Nat) (q : Int), k ≤ n ∧ i = .int .i64 k ∧ s = .int .i64 q ∧ b = .bool true ∧ q ≤ 9223372036854775807 ∧ Hid (runO st P (xs.take k) = some q) ∧ Hid (wr.ownsRow B 58 3 (.slice ga n gc) n (lv xs)) ∧ Hid (Box w.heap.size W H Z w wr)) (fun _ _ i _ => n - (intOf i).toNat)
      case atStart => exact ⟨0, P, by omega, rfl, rfl, rfl, HP.out, rfl, HO1, B1⟩
      case round =>
        clear HO1 B1
        obtain ⟨k, q, hk, rfl, rfl, rfl, hq, hrun, HX, B2⟩ := hrel
        by_cases hkn : k < n
        · obtain ⟨⟨f, o, t⟩, hl⟩ : ∃ l, xs[k]? = some l := ⟨_, List.getElem?_eq_getElem (by rw [HN.out]; exact hkn)⟩
          have k0 : (0 : Int) ≤ (k : Int) := by omega
          have k1 : (k : Int) < (n : Int) := by omega
          obtain ⟨g, rfl⟩ := lines_at HX.out HN.out (by omega)
          obtain ⟨l0, l1, l2⟩ := line_cells HX.out HN.out hl
          have CX := Lib.hid (HC.out q f o t hq)
          rcases HF.out with rfl | rfl
          all_goals
            have hbl : Below wr.heap.size wr (wr.alloc (.cells #[.int .i64 f, .int .i64 o, .int .i64 t] 58)) := (Below.refl _ _).alloc (Nat.le_refl _) _
            have HXa := Lib.hid (own_below HX.out hbl)
            have Ba := Lib.hid (B2.out.later hbl)
            have hrow := heap_alloc_new wr (.cells #[.int .i64 f, .int .i64 o, .int .i64 t] 58)
            clear hbl HX B2
            obtain ⟨c0, c1, c2, hlt, hb1⟩ := Ba.out
            obtain ⟨r0, r1, r2, -, -, -⟩ := row_facts hrow
            go_wp2_with fail
            clear l0 l1 l2
            generalize wr.alloc (.cells #[.int .i64 f, .int .i64 o, .int .i64 t] 58) = wa at *
            refine (CX.out _).mono ?_
            rintro e wb ⟨rfl, hb⟩
            have HXb := Lib.hid (own_below HXa.out hb)
            have Bb := Lib.hid (Ba.out.later hb)
            clear HXa Ba hb c0 c1 c2 hlt hb1 hrow r0 r1 r2
            have HY := Lib.hid (runO_yes hl hrun.out)
            have HNo := Lib.hid (runO_no hl hrun.out)
            have HBg := Lib.hid (HB.out q (f, o, t))
            clear hl hrun
            obtain ⟨⟨x, y⟩, hxy⟩ : ∃ r, st q (f, o, t) = r := ⟨_, rfl⟩
            rw [hxy] at HY HNo HBg ⊢
            clear hxy CX
            cases y
            · have HE := Lib.hid (EN.out (HNo.out rfl))
              clear HY HNo HBg
              go_wp2_with fail
              try rw [Exit.noGoto_ret]
              go_ret2
              rw [HE.out]
              exact ⟨rfl, Bb.out.2.2.2.2⟩
            · have HY' := Lib.hid (HY.out rfl)
              have hx63 := HBg.out rfl
              clear HY HNo HBg
              go_wp2_with fail
              go_roundw
              case rel => exact ⟨k + 1, x, by omega, by go_num, rfl, rfl, hx63, HY', HXb, Bb⟩
              case measure => simp [intOf]; omega
        · obtain rfl : k = n := by omega
          have HE := Lib.hid (EY.out q (by have := hrun.out; rwa [List.take_of_length_le (by rw [HN.out]; exact Nat.le_refl _)] at this))
          clear HX
          go_wp2_with fail
          try rw [Exit.noGoto_ret]
          go_ret2
          rw [HE.out]
          exact ⟨rfl, B2.out.2.2.2.2⟩
set_option maxHeartbeats 1000000 in
set_option maxRecDepth 100000 in
theorem implPlay (W H Z P : Int) (hP : P ≤ 9223372036854775807) (xs : List Ln) {n B gc : Nat} {ga : Option Addr} (hn : xs.length = n) (hx : n ≤ 1048576) (w : World) (ho : w.ownsRow B 58 3 (.slice ga n gc) n (lv xs)) :
    Calls Try.prog 11 #[.agg #[.int .i64 W, .int .i64 H, .int .i64 Z], .int .i64 P, .slice ga n gc] w (QP (playB W H Z P xs) w) := by
  have C1 : Hid (∀ w, w.ownsRow B 58 3 (.slice ga n gc) n (lv xs) → Calls Try.prog 35 #[.agg #[.int .i64 W, .int .i64 H, .int .i64 Z], .int .i64 P, .slice ga n gc, .func (.func 36) #[] #[]] w (QP (playB W H Z P xs) w)) := fun w ho =>
    implPerform _ (doB W H Z) W H Z P hP xs (fun Q f o t hQ w => implDo W H Z Q f o t hQ w) (fun Q l h => by obtain ⟨x, hx, hb⟩ := do_big h; rw [hx]; omega) (.inl rfl) hn hx w ho
  have HO := Lib.hid ho
  generalize playB W H Z P xs = R at *
  clear hP hn hx ho
  go_enter Try.func11, Try.ntmps11
  go_wp2_with fail
  have B0 := Lib.hid (box_newT 25 W H Z w)
  have HO0 := Lib.hid (own_below HO.out ((Below.refl _ _).alloc (Nat.le_refl _) (.cells #[.int .i64 W, .int .i64 H, .int .i64 Z] 25)))
  generalize w.alloc (.cells #[.int .i64 W, .int .i64 H, .int .i64 Z] 25) = W1 at *
  obtain ⟨c0, c1, c2, hlt, hb1⟩ := B0.out
  go_wp2_with fail
  refine (C1.out _ HO0.out).mono ?_
  rintro e w1 ⟨rfl, hb⟩
  have B1 := Lib.hid (B0.out.later hb)
  clear c0 c1 c2 hlt hb1 hb B0
  go_wp2_with fail
  go_ret2
  exact ⟨rfl, B1.out.2.2.2.2⟩
set_option maxHeartbeats 2000000 in
set_option maxRecDepth 100000 in
theorem specPlay (W H Z P : Int) (hP : P ≤ 9223372036854775807) (xs : List Ln) {n B gc : Nat} {ga : Option Addr} (hn : xs.length = n) (hx : n ≤ 1048576) (w : World) (ho : w.ownsRow B 58 3 (.slice ga n gc) n (lv xs)) :
    Calls Try.prog 18 #[.agg #[.int .i64 W, .int .i64 H, .int .i64 Z], .int .i64 P, .slice ga n gc] w (QP (playB W H Z P xs) w) := by
  have EP := Lib.hid (fun (h : posB W H Z P = false) => allB_pos (st := doB W H Z) (xs := xs) h)
  have EY := Lib.hid (fun q (h : posB W H Z P = true) (h1 : n ≤ 60) (hr : runO (doB W H Z) P xs = some q) => allB_yes (st := doB W H Z) h (by rw [hn]; exact h1) hr)
  have EL := Lib.hid (fun (h : 60 < n) => allB_long (st := doB W H Z) (W := W) (H := H) (Z := Z) (P := P) (xs := xs) (by rw [hn]; exact h))
  have EN := Lib.hid (fun (hr : runO (doB W H Z) P xs = none) => allB_no (W := W) (H := H) (Z := Z) hr)
  have HC := Lib.hid (fun (Q f o t : Int) (hQ : Q ≤ 9223372036854775807) w => specDo W H Z Q f o t hQ w)
  have C2 := Lib.hid (fun w => specPos W H Z P hP w)
  have HN := Lib.hid hn
  have HP := Lib.hid hP
  have HO := Lib.hid ho
  unfold playB
  generalize allB (doB W H Z) W H Z P xs = R at *
  obtain ⟨pb, hpb⟩ : ∃ b, posB W H Z P = b := ⟨_, rfl⟩
  rw [hpb] at C2 EP EY
  clear hP hn ho hpb
  go_enter Try.func18, Try.ntmps18
  go_wp2_with fail
  have B0 := Lib.hid (box_newT 25 W H Z w)
  have HO0 := Lib.hid (own_below HO.out ((Below.refl _ _).alloc (Nat.le_refl _) (.cells #[.int .i64 W, .int .i64 H, .int .i64 Z] 25)))
  generalize w.alloc (.cells #[.int .i64 W, .int .i64 H, .int .i64 Z] 25) = W1 at *
  clear HO
  go_wp2_with fail
  go_loopw [8, 9] (fun s i wr => ∃ (k : Nat) (q : Int), k ≤ n ∧ i = .int .i64 k ∧ s = .int .i64 q ∧ q ≤ 9223372036854775807 ∧ (k = 0 ∨ n ≤ 60) ∧ Hid (runO (doB W H Z) P (xs.take k) = some q) ∧ Hid (wr.ownsRow B 58 3 (.slice ga n gc) n (lv xs)) ∧ Hid (Box w.heap.size W H Z w wr)) (fun _ i _ => n - (intOf i).toNat)
  case atStart => exact ⟨0, P, by omega, rfl, rfl, HP.out, .inl rfl, rfl, HO0, B0⟩
  case round =>
    clear HO0 B0
    obtain ⟨k, q, hk, rfl, rfl, hq, hk60, hrun, HX, B2⟩ := hrel
    by_cases hkn : k < n
    · obtain ⟨⟨f, o, t⟩, hl⟩ : ∃ l, xs[k]? = some l := ⟨_, List.getElem?_eq_getElem (by rw [HN.out]; exact hkn)⟩
      have k0 : (0 : Int) ≤ (k : Int) := by omega
      have k1 : (k : Int) < (n : Int) := by omega
      obtain ⟨g, rfl⟩ := lines_at HX.out HN.out (by omega)
      have CX := Lib.hid (HC.out q f o t hq)
      have CE : Hid (∀ w' : World, w'.ownsRow B 58 3 (.slice (some ⟨g, 0, none⟩) n gc) n (lv xs) → w'.cell? ⟨g, k * 3, none⟩ = some (.int .i64 f) ∧ w'.cell? ⟨g, k * 3 + 1, none⟩ = some (.int .i64 o) ∧ w'.cell? ⟨g, k * 3 + 2, none⟩ = some (.int .i64 t)) := fun w' hh => line_cells hh HN.out hl
      have HY := Lib.hid (runO_yes hl hrun.out)
      have HNo := Lib.hid (runO_no hl hrun.out)
      have HBg := Lib.hid (do_big (W := W) (H := H) (Z := Z) (P := q) (l := (f, o, t)))
      clear hl hrun
      obtain ⟨⟨x, y⟩, hxy⟩ : ∃ r, doB W H Z q (f, o, t) = r := ⟨_, rfl⟩
      rw [hxy] at HY HNo HBg CX
      clear hxy
      go_wp2_with fail
      refine wp_region_script (by kernel_rfl) (by kernel_rfl) ?_
      refine Script.load (i := 0) (v := ?_) rfl (by kernel_rfl) (by kernel_rfl) (fun _ _ _ h => h) (by kernel_rfl) ?_ ?_
      rotate_left
      · (intro wS hSw; obtain ⟨c0, c1, c2, -, -⟩ := B2.out.later (After.trans (After.drew (After.refl _)) hSw); obtain ⟨l0, l1, l2⟩ := CE.out _ (own_below HX.out (After.trans (After.drew (After.refl _)) hSw)); go_simp; try with_reducible rfl)
      try simp only [Act.put, List.getElem_toArray, List.getElem_cons_succ, List.getElem_cons_zero, List.setIfInBounds_toArray, List.set_cons_zero, List.set_cons_succ]
      refine Script.load (i := 1) (v := ?_) rfl (by kernel_rfl) (by kernel_rfl) (fun _ _ _ h => h) (by kernel_rfl) ?_ ?_
      rotate_left
      · (intro wS hSw; obtain ⟨c0, c1, c2, -, -⟩ := B2.out.later (After.trans (After.drew (After.refl _)) hSw); obtain ⟨l0, l1, l2⟩ := CE.out _ (own_below HX.out (After.trans (After.drew (After.refl _)) hSw)); go_simp; try with_reducible rfl)
      try simp only [Act.put, List.getElem_toArray, List.getElem_cons_succ, List.getElem_cons_zero, List.setIfInBounds_toArray, List.set_cons_zero, List.set_cons_succ]
      refine Script.load (i := 2) (v := ?_) rfl (by kernel_rfl) (by kernel_rfl) (fun _ _ _ h => h) (by kernel_rfl) ?_ ?_
      rotate_left
      · (intro wS hSw; obtain ⟨c0, c1, c2, -, -⟩ := B2.out.later (After.trans (After.drew (After.refl _)) hSw); obtain ⟨l0, l1, l2⟩ := CE.out _ (own_below HX.out (After.trans (After.drew (After.refl _)) hSw)); go_simp; try with_reducible rfl)
      try simp only [Act.put, List.getElem_toArray, List.getElem_cons_succ, List.getElem_cons_zero, List.setIfInBounds_toArray, List.set_cons_zero, List.set_cons_succ]
      refine Script.load (i := 3) (v := ?_) rfl (by kernel_rfl) (by kernel_rfl) (fun _ _ _ h => h) (by kernel_rfl) ?_ ?_
      rotate_left
      · (intro wS hSw; obtain ⟨c0, c1, c2, -, -⟩ := B2.out.later (After.trans (After.drew (After.refl _)) hSw); obtain ⟨l0, l1, l2⟩ := CE.out _ (own_below HX.out (After.trans (After.drew (After.refl _)) hSw)); go_simp; try with_reducible rfl)
      try simp only [Act.put, List.getElem_toArray, List.getElem_cons_succ, List.getElem_cons_zero, List.setIfInBounds_toArray, List.set_cons_zero, List.set_cons_succ]
      refine Script.load (i := 4) (v := ?_) rfl (by kernel_rfl) (by kernel_rfl) (fun _ _ _ h => h) (by kernel_rfl) ?_ ?_
      rotate_left
      · (intro wS hSw; obtain ⟨c0, c1, c2, -, -⟩ := B2.out.later (After.trans (After.drew (After.refl _)) hSw); obtain ⟨l0, l1, l2⟩ := CE.out _ (own_below HX.out (After.trans (After.drew (After.refl _)) hSw)); go_simp; try with_reducible rfl)
      try simp only [Act.put, List.getElem_toArray, List.getElem_cons_succ, List.getElem_cons_zero, List.setIfInBounds_toArray, List.set_cons_zero, List.set_cons_succ]
      refine Script.load (i := 5) (v := ?_) rfl (by kernel_rfl) (by kernel_rfl) (fun _ _ _ h => h) (by kernel_rfl) ?_ ?_
      rotate_left
      · (intro wS hSw; obtain ⟨c0, c1, c2, -, -⟩ := B2.out.later (After.trans (After.drew (After.refl _)) hSw); obtain ⟨l0, l1, l2⟩ := CE.out _ (own_below HX.out (After.trans (After.drew (After.refl _)) hSw)); go_simp; try with_reducible rfl)
      try simp only [Act.put, List.getElem_toArray, List.getElem_cons_succ, List.getElem_cons_zero, List.setIfInBounds_toArray, List.set_cons_zero, List.set_cons_succ]
      refine Script.call (i := 6) (v := ?_) rfl (by kernel_rfl) (by kernel_rfl) (fun _ _ _ h => h) (by kernel_rfl) ?_ ?_
      rotate_left
      · (intro wS hSw K hK; obtain ⟨c0, c1, c2, -, -⟩ := B2.out.later (After.trans (After.drew (After.refl _)) hSw); obtain ⟨l0, l1, l2⟩ := CE.out _ (own_below HX.out (After.trans (After.drew (After.refl _)) hSw)); go_simp; go_at_call 44; refine (CX.out _).mono ?_; rintro e wc ⟨rfl, hbc⟩; exact hK.out _ hbc)
      try simp only [Act.put, List.getElem_toArray, List.getElem_cons_succ, List.getElem_cons_zero, List.setIfInBounds_toArray, List.set_cons_zero, List.set_cons_succ]
      refine Script.load (i := 7) (v := ?_) rfl (by kernel_rfl) (by kernel_rfl) (fun _ _ _ h => h) (by kernel_rfl) ?_ ?_
      rotate_left
      · (intro wS hSw; obtain ⟨c0, c1, c2, -, -⟩ := B2.out.later (After.trans (After.drew (After.refl _)) hSw); obtain ⟨l0, l1, l2⟩ := CE.out _ (own_below HX.out (After.trans (After.drew (After.refl _)) hSw)); go_simp; try with_reducible rfl)
      try simp only [Act.put, List.getElem_toArray, List.getElem_cons_succ, List.getElem_cons_zero, List.setIfInBounds_toArray, List.set_cons_zero, List.set_cons_succ]
      refine Script.load (i := 8) (v := ?_) rfl (by kernel_rfl) (by kernel_rfl) (fun _ _ _ h => h) (by kernel_rfl) ?_ ?_
      rotate_left
      · (intro wS hSw; obtain ⟨c0, c1, c2, -, -⟩ := B2.out.later (After.trans (After.drew (After.refl _)) hSw); obtain ⟨l0, l1, l2⟩ := CE.out _ (own_below HX.out (After.trans (After.drew (After.refl _)) hSw)); go_simp; try with_reducible rfl)
      try simp only [Act.put, List.getElem_toArray, List.getElem_cons_succ, List.getElem_cons_zero, List.setIfInBounds_toArray, List.set_cons_zero, List.set_cons_succ]
      refine Script.load (i := 9) (v := ?_) rfl (by kernel_rfl) (by kernel_rfl) (fun _ _ _ h => h) (by kernel_rfl) ?_ ?_
      rotate_left
      · (intro wS hSw; obtain ⟨c0, c1, c2, -, -⟩ := B2.out.later (After.trans (After.drew (After.refl _)) hSw); obtain ⟨l0, l1, l2⟩ := CE.out _ (own_below HX.out (After.trans (After.drew (After.refl _)) hSw)); go_simp; try with_reducible rfl)
      try simp only [Act.put, List.getElem_toArray, List.getElem_cons_succ, List.getElem_cons_zero, List.setIfInBounds_toArray, List.set_cons_zero, List.set_cons_succ]
      refine Script.load (i := 10) (v := ?_) rfl (by kernel_rfl) (by kernel_rfl) (fun _ _ _ h => h) (by kernel_rfl) ?_ ?_
      rotate_left
      · (intro wS hSw; obtain ⟨c0, c1, c2, -, -⟩ := B2.out.later (After.trans (After.drew (After.refl _)) hSw); obtain ⟨l0, l1, l2⟩ := CE.out _ (own_below HX.out (After.trans (After.drew (After.refl _)) hSw)); go_simp; try with_reducible rfl)
      try simp only [Act.put, List.getElem_toArray, List.getElem_cons_succ, List.getElem_cons_zero, List.setIfInBounds_toArray, List.set_cons_zero, List.set_cons_succ]
      refine Script.load (i := 11) (v := ?_) rfl (by kernel_rfl) (by kernel_rfl) (fun _ _ _ h => h) (by kernel_rfl) ?_ ?_
      rotate_left
      · (intro wS hSw; obtain ⟨c0, c1, c2, -, -⟩ := B2.out.later (After.trans (After.drew (After.refl _)) hSw); obtain ⟨l0, l1, l2⟩ := CE.out _ (own_below HX.out (After.trans (After.drew (After.refl _)) hSw)); go_simp; try with_reducible rfl)
      try simp only [Act.put, List.getElem_toArray, List.getElem_cons_succ, List.getElem_cons_zero, List.setIfInBounds_toArray, List.set_cons_zero, List.set_cons_succ]
      refine Script.done (by kernel_rfl) ?_
      intro wD hD hG
      have hb6 := After.trans (After.drew (After.refl _)) hD
      have B6 := Lib.hid (B2.out.later hb6)
      have HX6 := Lib.hid (own_below HX.out hb6)
      clear hD hG hb6 B2 HX
      cases y
      · have HE := Lib.hid (EN.out (HNo.out rfl))
        clear HY HNo HBg
        go_wp2_with fail
        go_ret2
        rw [HE.out]
        exact ⟨rfl, B6.out.2.2.2.2⟩
      · by_cases h60 : 60 < n
        · have HE := Lib.hid (EL.out h60)
          have hd : decide ((60 : Int) < (n : Int)) = true := decide_eq_true (by omega)
          clear HY HNo HBg
          go_wp2_with fail
          go_ret2
          rw [HE.out]
          exact ⟨rfl, B6.out.2.2.2.2⟩
        · have HY' := Lib.hid (HY.out rfl)
          have hd : decide ((60 : Int) < (n : Int)) = false := decide_eq_false (by omega)
          have hx63 : x ≤ 9223372036854775807 := by obtain ⟨x', hx', hb'⟩ := HBg.out rfl; have h'' : x = (x' : Int) := hx'; omega
          clear HY HNo HBg
          go_wp2_with fail
          go_roundw
          case rel => exact ⟨k + 1, x, by omega, by go_num, rfl, hx63, .inr (by omega), HY', HX6, B6⟩
          case measure => simp [intOf]; omega
    · obtain rfl : k = n := by omega
      have HR := Lib.hid (by have := hrun.out; rwa [List.take_of_length_le (by rw [HN.out]; exact Nat.le_refl _)] at this)
      obtain ⟨c0, c1, c2, hlt, hb1⟩ := B2.out
      clear HX
      go_wp2_with fail
      refine (C2.out _).mono ?_
      rintro e wb ⟨rfl, hb⟩
      have Bb := Lib.hid (B2.out.later hb)
      clear B2 hb c0 c1 c2 hlt hb1
      cases pb
      · have HE := Lib.hid (EP.out rfl)
        go_wp2_with fail
        go_ret2
        rw [HE.out]
        exact ⟨rfl, Bb.out.2.2.2.2⟩
      · have HE := Lib.hid (EY.out q rfl (by omega) HR.out)
        go_wp2_with fail
        go_ret2
        rw [HE.out]
        exact ⟨rfl, Bb.out.2.2.2.2⟩
set_option maxHeartbeats 2000000 in
set_option maxRecDepth 100000 in
theorem specUnplay (W H Z P : Int) (hP : P ≤ 9223372036854775807) (xs : List Ln) {n B gc : Nat} {ga : Option Addr} (hn : xs.length = n) (hx : n ≤ 1048576) (w : World) (ho : w.ownsRow B 58 3 (.slice ga n gc) n (lv xs)) :
    Calls Try.prog 29 #[.agg #[.int .i64 W, .int .i64 H, .int .i64 Z], .int .i64 P, .slice ga n gc] w (QP (unplayB W H Z P xs) w) := by
  have hnr : xs.reverse.length = n := by rw [List.length_reverse, hn]
  have EP := Lib.hid (fun (h : posB W H Z P = false) => allB_pos (st := backB W H Z) (xs := xs.reverse) h)
  have EY := Lib.hid (fun q (h : posB W H Z P = true) (h1 : n ≤ 60) (hr : runO (backB W H Z) P xs.reverse = some q) => allB_yes (st := backB W H Z) h (by rw [hnr]; exact h1) hr)
  have EL := Lib.hid (fun (h : 60 < n) => allB_long (st := backB W H Z) (W := W) (H := H) (Z := Z) (P := P) (xs := xs.reverse) (by rw [hnr]; exact h))
  have EN := Lib.hid (fun (hr : runO (backB W H Z) P xs.reverse = none) => allB_no (W := W) (H := H) (Z := Z) hr)
  have HC := Lib.hid (fun (Q f o t : Int) (hQ : Q ≤ 9223372036854775807) w => specBack W H Z Q f o t hQ w)
  have C2 := Lib.hid (fun w => specPos W H Z P hP w)
  have HREV : Hid (∀ j m, m + j + 1 = n → xs.reverse[j]? = xs[m]?) := fun j m h => by rw [List.getElem?_reverse (by omega), hn, show n - 1 - j = m by omega]
  have HN := Lib.hid hn
  have HNR := Lib.hid hnr
  have HP := Lib.hid hP
  have HO := Lib.hid ho
  unfold unplayB
  generalize allB (backB W H Z) W H Z P xs.reverse = R at *
  obtain ⟨ys, hys⟩ : ∃ ys, xs.reverse = ys := ⟨_, rfl⟩
  rw [hys] at EY EN HREV HNR
  obtain ⟨pb, hpb⟩ : ∃ b, posB W H Z P = b := ⟨_, rfl⟩
  rw [hpb] at C2 EP EY
  clear hP hn ho hpb hnr hys
  go_enter Try.func29, Try.ntmps29
  go_wp2_with fail
  have B0 := Lib.hid (box_newT 25 W H Z w)
  have HO0 := Lib.hid (own_below HO.out ((Below.refl _ _).alloc (Nat.le_refl _) (.cells #[.int .i64 W, .int .i64 H, .int .i64 Z] 25)))
  generalize w.alloc (.cells #[.int .i64 W, .int .i64 H, .int .i64 Z] 25) = W1 at *
  clear HO
  go_wp2_with fail
  go_loopw [8, 9] (fun s i wr => ∃ (k : Nat) (z q : Int), k ≤ n ∧ z + k + 1 = n ∧ i = .int .i64 z ∧ s = .int .i64 q ∧ q ≤ 9223372036854775807 ∧ (k = 0 ∨ n ≤ 60) ∧ Hid (runO (backB W H Z) P (ys.take k) = some q) ∧ Hid (wr.ownsRow B 58 3 (.slice ga n gc) n (lv xs)) ∧ Hid (Box w.heap.size W H Z w wr)) (fun _ i _ => (intOf i + 1).toNat)
  case atStart => exact ⟨0, (n : Int) - 1, P, by omega, by omega, rfl, rfl, HP.out, .inl rfl, rfl, HO0, B0⟩
  case round =>
    clear HO0 B0
    obtain ⟨k, z, q, hk, hz, rfl, rfl, hq, hk60, hrun, HX, B2⟩ := hrel
    by_cases hkn : k < n
    · obtain ⟨m, rfl⟩ : ∃ m : Nat, z = m := Int.eq_ofNat_of_zero_le (by omega)
      have hmn : m < n := by omega
      obtain ⟨⟨f, o, t⟩, hl⟩ : ∃ l, xs[m]? = some l := ⟨_, List.getElem?_eq_getElem (by rw [HN.out]; exact hmn)⟩
      have hly : ys[k]? = some (f, o, t) := by rw [HREV.out k m (by omega)]; exact hl
      have k0 : (0 : Int) ≤ (m : Int) := by omega
      have k1 : (m : Int) < (n : Int) := by omega
      obtain ⟨g, rfl⟩ := lines_at HX.out HN.out (by omega)
      have CX := Lib.hid (HC.out q f o t hq)
      have CE : Hid (∀ w' : World, w'.ownsRow B 58 3 (.slice (some ⟨g, 0, none⟩) n gc) n (lv xs) → w'.cell? ⟨g, m * 3, none⟩ = some (.int .i64 f) ∧ w'.cell? ⟨g, m * 3 + 1, none⟩ = some (.int .i64 o) ∧ w'.cell? ⟨g, m * 3 + 2, none⟩ = some (.int .i64 t)) := fun w' hh => line_cells hh HN.out hl
      have HY := Lib.hid (runO_yes hly hrun.out)
      have HNo := Lib.hid (runO_no hly hrun.out)
      have HBg := Lib.hid (back_big (W := W) (H := H) (Z := Z) (P := q) (l := (f, o, t)))
      have hwm : IntKind.i64.wrap ((m : Int) - 1) = (m : Int) - 1 := IntWalk.i64_in _ (by omega)
      clear hl hly hrun
      obtain ⟨⟨x, y⟩, hxy⟩ : ∃ r, backB W H Z q (f, o, t) = r := ⟨_, rfl⟩
      rw [hxy] at HY HNo HBg CX
      clear hxy
      go_wp2_with fail
      refine wp_region_script (by kernel_rfl) (by kernel_rfl) ?_
      refine Script.load (i := 0) (v := ?_) rfl (by kernel_rfl) (by kernel_rfl) (fun _ _ _ h => h) (by kernel_rfl) ?_ ?_
      rotate_left
      · (intro wS hSw; obtain ⟨c0, c1, c2, -, -⟩ := B2.out.later (After.trans (After.drew (After.refl _)) hSw); obtain ⟨l0, l1, l2⟩ := CE.out _ (own_below HX.out (After.trans (After.drew (After.refl _)) hSw)); go_simp; try with_reducible rfl)
      try simp only [Act.put, List.getElem_toArray, List.getElem_cons_succ, List.getElem_cons_zero, List.setIfInBounds_toArray, List.set_cons_zero, List.set_cons_succ]
      refine Script.load (i := 1) (v := ?_) rfl (by kernel_rfl) (by kernel_rfl) (fun _ _ _ h => h) (by kernel_rfl) ?_ ?_
      rotate_left
      · (intro wS hSw; obtain ⟨c0, c1, c2, -, -⟩ := B2.out.later (After.trans (After.drew (After.refl _)) hSw); obtain ⟨l0, l1, l2⟩ := CE.out _ (own_below HX.out (After.trans (After.drew (After.refl _)) hSw)); go_simp; try with_reducible rfl)
      try simp only [Act.put, List.getElem_toArray, List.getElem_cons_succ, List.getElem_cons_zero, List.setIfInBounds_toArray, List.set_cons_zero, List.set_cons_succ]
      refine Script.load (i := 2) (v := ?_) rfl (by kernel_rfl) (by kernel_rfl) (fun _ _ _ h => h) (by kernel_rfl) ?_ ?_
      rotate_left
      · (intro wS hSw; obtain ⟨c0, c1, c2, -, -⟩ := B2.out.later (After.trans (After.drew (After.refl _)) hSw); obtain ⟨l0, l1, l2⟩ := CE.out _ (own_below HX.out (After.trans (After.drew (After.refl _)) hSw)); go_simp; try with_reducible rfl)
      try simp only [Act.put, List.getElem_toArray, List.getElem_cons_succ, List.getElem_cons_zero, List.setIfInBounds_toArray, List.set_cons_zero, List.set_cons_succ]
      refine Script.load (i := 3) (v := ?_) rfl (by kernel_rfl) (by kernel_rfl) (fun _ _ _ h => h) (by kernel_rfl) ?_ ?_
      rotate_left
      · (intro wS hSw; obtain ⟨c0, c1, c2, -, -⟩ := B2.out.later (After.trans (After.drew (After.refl _)) hSw); obtain ⟨l0, l1, l2⟩ := CE.out _ (own_below HX.out (After.trans (After.drew (After.refl _)) hSw)); go_simp; try with_reducible rfl)
      try simp only [Act.put, List.getElem_toArray, List.getElem_cons_succ, List.getElem_cons_zero, List.setIfInBounds_toArray, List.set_cons_zero, List.set_cons_succ]
      refine Script.load (i := 4) (v := ?_) rfl (by kernel_rfl) (by kernel_rfl) (fun _ _ _ h => h) (by kernel_rfl) ?_ ?_
      rotate_left
      · (intro wS hSw; obtain ⟨c0, c1, c2, -, -⟩ := B2.out.later (After.trans (After.drew (After.refl _)) hSw); obtain ⟨l0, l1, l2⟩ := CE.out _ (own_below HX.out (After.trans (After.drew (After.refl _)) hSw)); go_simp; try with_reducible rfl)
      try simp only [Act.put, List.getElem_toArray, List.getElem_cons_succ, List.getElem_cons_zero, List.setIfInBounds_toArray, List.set_cons_zero, List.set_cons_succ]
      refine Script.load (i := 5) (v := ?_) rfl (by kernel_rfl) (by kernel_rfl) (fun _ _ _ h => h) (by kernel_rfl) ?_ ?_
      rotate_left
      · (intro wS hSw; obtain ⟨c0, c1, c2, -, -⟩ := B2.out.later (After.trans (After.drew (After.refl _)) hSw); obtain ⟨l0, l1, l2⟩ := CE.out _ (own_below HX.out (After.trans (After.drew (After.refl _)) hSw)); go_simp; try with_reducible rfl)
      try simp only [Act.put, List.getElem_toArray, List.getElem_cons_succ, List.getElem_cons_zero, List.setIfInBounds_toArray, List.set_cons_zero, List.set_cons_succ]
      refine Script.call (i := 6) (v := ?_) rfl (by kernel_rfl) (by kernel_rfl) (fun _ _ _ h => h) (by kernel_rfl) ?_ ?_
      rotate_left
      · (intro wS hSw K hK; obtain ⟨c0, c1, c2, -, -⟩ := B2.out.later (After.trans (After.drew (After.refl _)) hSw); obtain ⟨l0, l1, l2⟩ := CE.out _ (own_below HX.out (After.trans (After.drew (After.refl _)) hSw)); go_simp; go_at_call 47; refine (CX.out _).mono ?_; rintro e wc ⟨rfl, hbc⟩; exact hK.out _ hbc)
      try simp only [Act.put, List.getElem_toArray, List.getElem_cons_succ, List.getElem_cons_zero, List.setIfInBounds_toArray, List.set_cons_zero, List.set_cons_succ]
      refine Script.load (i := 7) (v := ?_) rfl (by kernel_rfl) (by kernel_rfl) (fun _ _ _ h => h) (by kernel_rfl) ?_ ?_
      rotate_left
      · (intro wS hSw; obtain ⟨c0, c1, c2, -, -⟩ := B2.out.later (After.trans (After.drew (After.refl _)) hSw); obtain ⟨l0, l1, l2⟩ := CE.out _ (own_below HX.out (After.trans (After.drew (After.refl _)) hSw)); go_simp; try with_reducible rfl)
      try simp only [Act.put, List.getElem_toArray, List.getElem_cons_succ, List.getElem_cons_zero, List.setIfInBounds_toArray, List.set_cons_zero, List.set_cons_succ]
      refine Script.load (i := 8) (v := ?_) rfl (by kernel_rfl) (by kernel_rfl) (fun _ _ _ h => h) (by kernel_rfl) ?_ ?_
      rotate_left
      · (intro wS hSw; obtain ⟨c0, c1, c2, -, -⟩ := B2.out.later (After.trans (After.drew (After.refl _)) hSw); obtain ⟨l0, l1, l2⟩ := CE.out _ (own_below HX.out (After.trans (After.drew (After.refl _)) hSw)); go_simp; try with_reducible rfl)
      try simp only [Act.put, List.getElem_toArray, List.getElem_cons_succ, List.getElem_cons_zero, List.setIfInBounds_toArray, List.set_cons_zero, List.set_cons_succ]
      refine Script.load (i := 9) (v := ?_) rfl (by kernel_rfl) (by kernel_rfl) (fun _ _ _ h => h) (by kernel_rfl) ?_ ?_
      rotate_left
      · (intro wS hSw; obtain ⟨c0, c1, c2, -, -⟩ := B2.out.later (After.trans (After.drew (After.refl _)) hSw); obtain ⟨l0, l1, l2⟩ := CE.out _ (own_below HX.out (After.trans (After.drew (After.refl _)) hSw)); go_simp; try with_reducible rfl)
      try simp only [Act.put, List.getElem_toArray, List.getElem_cons_succ, List.getElem_cons_zero, List.setIfInBounds_toArray, List.set_cons_zero, List.set_cons_succ]
      refine Script.load (i := 10) (v := ?_) rfl (by kernel_rfl) (by kernel_rfl) (fun _ _ _ h => h) (by kernel_rfl) ?_ ?_
      rotate_left
      · (intro wS hSw; obtain ⟨c0, c1, c2, -, -⟩ := B2.out.later (After.trans (After.drew (After.refl _)) hSw); obtain ⟨l0, l1, l2⟩ := CE.out _ (own_below HX.out (After.trans (After.drew (After.refl _)) hSw)); go_simp; try with_reducible rfl)
      try simp only [Act.put, List.getElem_toArray, List.getElem_cons_succ, List.getElem_cons_zero, List.setIfInBounds_toArray, List.set_cons_zero, List.set_cons_succ]
      refine Script.load (i := 11) (v := ?_) rfl (by kernel_rfl) (by kernel_rfl) (fun _ _ _ h => h) (by kernel_rfl) ?_ ?_
      rotate_left
      · (intro wS hSw; obtain ⟨c0, c1, c2, -, -⟩ := B2.out.later (After.trans (After.drew (After.refl _)) hSw); obtain ⟨l0, l1, l2⟩ := CE.out _ (own_below HX.out (After.trans (After.drew (After.refl _)) hSw)); go_simp; try with_reducible rfl)
      try simp only [Act.put, List.getElem_toArray, List.getElem_cons_succ, List.getElem_cons_zero, List.setIfInBounds_toArray, List.set_cons_zero, List.set_cons_succ]
      refine Script.done (by kernel_rfl) ?_
      intro wD hD hG
      have hb6 := After.trans (After.drew (After.refl _)) hD
      have B6 := Lib.hid (B2.out.later hb6)
      have HX6 := Lib.hid (own_below HX.out hb6)
      clear hD hG hb6 B2 HX
      cases y
      · have HE := Lib.hid (EN.out (HNo.out rfl))
        clear HY HNo HBg
        go_wp2_with fail
        go_ret2
        rw [HE.out]
        exact ⟨rfl, B6.out.2.2.2.2⟩
      · by_cases h60 : 60 < n
        · have HE := Lib.hid (EL.out h60)
          have hd : decide ((60 : Int) < (n : Int)) = true := decide_eq_true (by omega)
          clear HY HNo HBg
          go_wp2_with fail
          go_ret2
          rw [HE.out]
          exact ⟨rfl, B6.out.2.2.2.2⟩
        · have HY' := Lib.hid (HY.out rfl)
          have hd : decide ((60 : Int) < (n : Int)) = false := decide_eq_false (by omega)
          have hx63 : x ≤ 9223372036854775807 := by obtain ⟨x', hx', hb'⟩ := HBg.out rfl; have h'' : x = (x' : Int) := hx'; omega
          clear HY HNo HBg
          go_wp2_with fail
          go_roundw
          case rel => exact ⟨k + 1, (m : Int) - 1, x, by omega, by omega, by go_num, rfl, hx63, .inr (by omega), HY', HX6, B6⟩
          case measure => simp [intOf]
    · obtain rfl : k = n := by omega
      obtain rfl : z = -1 := by omega
      have HR := Lib.hid (by have := hrun.out; rwa [List.take_of_length_le (by rw [HNR.out]; exact Nat.le_refl _)] at this)
      obtain ⟨c0, c1, c2, hlt, hb1⟩ := B2.out
      clear HX
      go_wp2_with fail
      refine (C2.out _).mono ?_
      rintro e wb ⟨rfl, hb⟩
      have Bb := Lib.hid (B2.out.later hb)
      clear B2 hb c0 c1 c2 hlt hb1
      cases pb
      · have HE := Lib.hid (EP.out rfl)
        go_wp2_with fail
        go_ret2
        rw [HE.out]
        exact ⟨rfl, Bb.out.2.2.2.2⟩
      · have HE := Lib.hid (EY.out q rfl (by omega) HR.out)
        go_wp2_with fail
        go_ret2
        rw [HE.out]
        exact ⟨rfl, Bb.out.2.2.2.2⟩
end Go.Proofs.Ytdlpfpeblaapdaa
