/- PositionsOf, IsSolution, CountSweeps of both over a list of lines. Of lists of at most 1048576 lines. -/
import Derived.Test.YtdlpfpeblaapdaaGamesA
import Derived.Test.YtdlpfpeblaapdaaRowsInt
namespace Go.Proofs.Ytdlpfpeblaapdaa
open Go.RowKit
set_option linter.unusedVariables false
set_option linter.unusedSimpArgs false
/-- It returns a list of ints in new memory. -/
def OwnIv (xs : List Int) (w : World) (e : Ending) (w' : World) : Prop :=
  ∃ v, e = .returned v ∧ w'.ownsRow w.heap.size 3 1 v xs.length (iv xs) ∧ Below w.heap.size w w'
theorem iv_snoc (xs : List Int) (x : Int) : iv (xs ++ [x]) = iv xs ++ [Value.int .i64 x] := by simp [iv]
theorem iv_len (xs : List Int) : (iv xs).length = xs.length := by simp [iv]
theorem posL_no {W H Z P : Int} {xs : List Ln} {p : Int} (h : playB W H Z P xs = (p, false)) : posL W H Z P xs = [] := by simp [posL, h]
theorem posL_yes {W H Z P : Int} {xs : List Ln} {q : Int} (h : playB W H Z P xs = (q, true)) : posL W H Z P xs = walkL P xs := by simp [posL, h]
/-- What is told of a game that can be played. -/
theorem play_yes {W H Z P : Int} {xs : List Ln} {q : Int} (h : playB W H Z P xs = (q, true)) : posB W H Z P = true ∧ xs.length ≤ 60 ∧ runO (doB W H Z) P xs = some q := by
  have h2 : (allB (doB W H Z) W H Z P xs).2 = true := by rw [show allB (doB W H Z) W H Z P xs = (q, true) from h]
  obtain ⟨h3, h4, r, h5, h6⟩ := allB_ok h2
  refine ⟨h3, h4, ?_⟩
  rw [show allB (doB W H Z) W H Z P xs = (q, true) from h] at h6
  injection h6 with h7
  rw [h7]; exact h5
theorem flip_call {W H Z P q : Int} {xs : List Ln} (h : runO (doB W H Z) P xs = some q) {k : Nat} {f o t : Int} (hk : xs[k]? = some (f, o, t)) (w : World) :
    Calls Try.prog 40 #[.int .i64 (endL P (xs.take k)), .agg #[.int .i64 f, .int .i64 o, .int .i64 t]] w (QI (endL P (xs.take (k + 1))) w) := by
  obtain ⟨hj, hf⟩ := run_at h hk
  obtain ⟨a, b, N, z, p, f', o', t', S, -⟩ := jump_set hj
  obtain ⟨hpb, h1, h2, h3⟩ := S.bounds
  have e4 := S.at'.eq
  simp only [Prod.mk.injEq] at e4
  rw [← hf, S.flip, S.eP, e4.1, e4.2.1, e4.2.2]
  exact implFlip p f' o' t' hpb h1 h2 h3 w
theorem end_big {W H Z P q : Int} {xs : List Ln} (h : runO (doB W H Z) P xs = some q) {k : Nat} {l : Ln} (hk : xs[k]? = some l) : endL P (xs.take k) ≤ 9223372036854775807 ∧ endL P (xs.take (k + 1)) ≤ 9223372036854775807 := by
  obtain ⟨hj, hf⟩ := run_at h hk
  obtain ⟨a, b, N, z, p, f', o', t', S, -⟩ := jump_set hj
  have h1 := S.bounds.1
  have h2 := flip_big S
  rw [← hf, S.flip, S.eP]
  omega
set_option maxHeartbeats 2000000 in
set_option maxRecDepth 100000 in
theorem implPositions (W H Z P : Int) (hP : P ≤ 9223372036854775807) (xs : List Ln) {n B gc : Nat} {ga : Option Addr} (hn : xs.length = n) (hx : n ≤ 1048576) (w : World) (ho : w.ownsRow B 58 3 (.slice ga n gc) n (lv xs)) :
    Calls Try.prog 13 #[.agg #[.int .i64 W, .int .i64 H, .int .i64 Z], .int .i64 P, .slice ga n gc] w (OwnIv (posL W H Z P xs) w) := by
  obtain ⟨i0, hi, hz0, hz1, hz2⟩ : ∃ i, Try.prog.info? 3 = some i ∧ i.zero = some (.int .i64 0) ∧ i.size = 1 ∧ i.bytes = 8 := ⟨_, by rfl, by rfl, by rfl, by rfl⟩
  have C1 : Hid (∀ w, w.ownsRow B 58 3 (.slice ga n gc) n (lv xs) → Calls Try.prog 11 #[.agg #[.int .i64 W, .int .i64 H, .int .i64 Z], .int .i64 P, .slice ga n gc] w (QP (playB W H Z P xs) w)) := fun w ho => implPlay W H Z P hP xs hn hx w ho
  have HO := Lib.hid ho
  have HN := Lib.hid hn
  obtain ⟨⟨q, y⟩, hy⟩ : ∃ r, playB W H Z P xs = r := ⟨_, rfl⟩
  rw [hy] at C1
  clear hn hx ho hP
  cases y
  · rw [posL_no hy]
    clear hy
    go_enter Try.func13, Try.ntmps13
    go_wp2_with fail
    have B0 := Lib.hid (box_newT 25 W H Z w)
    have HO0 := Lib.hid (own_below HO.out ((Below.refl _ _).alloc (Nat.le_refl _) (.cells #[.int .i64 W, .int .i64 H, .int .i64 Z] 25)))
    generalize w.alloc (.cells #[.int .i64 W, .int .i64 H, .int .i64 Z] 25) = W1 at *
    obtain ⟨c0, c1, c2, hlt, hb1⟩ := B0.out
    go_wp2_with fail
    refine (C1.out _ HO0.out).mono ?_
    rintro e w1 ⟨rfl, hb⟩
    have B1 := Lib.hid (B0.out.later hb)
    clear c0 c1 c2 hlt hb1 hb B0 HO HO0
    go_wp2_with fail
    go_ret
    exact ⟨_, rfl, World.ownsRow_nil _ _ _ _, B1.out.2.2.2.2⟩
  · rw [posL_yes hy]
    obtain ⟨-, h60, hrun⟩ := play_yes hy
    have CF := Lib.hid (fun k f o t (hk : xs[k]? = some (f, o, t)) w => flip_call hrun hk w)
    rw [HN.out] at h60
    clear hy hrun
    go_enter Try.func13, Try.ntmps13
    go_wp2_with fail
    have B0 := Lib.hid (box_newT 25 W H Z w)
    have HO0 := Lib.hid (own_below HO.out ((Below.refl _ _).alloc (Nat.le_refl _) (.cells #[.int .i64 W, .int .i64 H, .int .i64 Z] 25)))
    generalize w.alloc (.cells #[.int .i64 W, .int .i64 H, .int .i64 Z] 25) = W1 at *
    obtain ⟨c0, c1, c2, hlt, hb1⟩ := B0.out
    go_wp2_with fail
    refine (C1.out _ HO0.out).mono ?_
    rintro e w1 ⟨rfl, hb⟩
    have B1 := Lib.hid (B0.out.later hb)
    clear c0 c1 c2 hlt hb1 hb B0 HO0
    have hlt : w.heap.size + 1 ≤ w1.heap.size := B1.out.2.2.2.1
    obtain ⟨w3, hmk0, hrow, hg3⟩ := run_make_own (P := Try.prog) w1 (w.heap.size + 1) 31 3 i0 (.int .i64 0) 1 Try.underlying31 hi hz0 hz1 .i64 .i64 (n + 1) (by rw [hz2]; omega) (by unfold maxLen; omega) hlt
    have hmk : (Instr.makeSlice 31 (.int .i64 0) (.int .i64 ((n : Int) + 1))).run Try.prog w1 = .ok (.slice (some ⟨w1.heap.size, 0, none⟩) 0 (n + 1)) w3 := hmk0
    have hk3 : Below w1.heap.size w1 w3 := ⟨hg3.os, hg3.tape, hg3.output, hg3.size, fun j hj => hg3.block j hj (by simp)⟩
    have B3 := Lib.hid (B1.out.later hk3)
    have HR := Lib.hid hrow
    clear hrow hg3 hk3 B1 hmk0 hlt
    have hbz : Hid (w.heap.size + 1 ≤ w3.heap.size) := B3.out.2.2.2.1
    go_wp2_with (at_builtin; refine wpList_append_one rfl (.tmp 27) (.tmp 29) 31 rfl (w.heap.size + 1) 3 i0 (.int .i64 0) 8 Try.underlying31 hi hz0 hz1 hz2 rfl (by decide) _ 0 [] rfl HR.out rfl rfl (by omega) hbz.out ?_; intro g1 cap1 w4 hown' hgrow hb2)
    have HR4 : Hid (w4.ownsRow (w.heap.size + 1) 3 1 (.slice (some ⟨g1, 0, none⟩) 1 cap1) (0 + 1) (iv (walkL P (xs.take 0)))) := hown'
    have B4 := Lib.hid (B3.out.kept hb2 (Nat.lt_succ_self _) (Nat.le_succ _))
    clear hmk hown' hgrow hb2 hbz HR B3
    go_wp2_with fail
    go_loopw [9, 10, 33] (fun s r i wr => ∃ (k : Nat) (v : Value) (q' : Int), k ≤ n ∧ i = .int .i64 k ∧ s = .int .i64 q' ∧ v = r ∧ Hid (q' = endL P (xs.take k)) ∧ Hid (wr.ownsRow (w.heap.size + 1) 3 1 v (k + 1) (iv (walkL P (xs.take k)))) ∧ Hid (Box w.heap.size W H Z w wr)) (fun _ _ i _ => n - (intOf i).toNat)
    case atStart => exact ⟨0, _, P, by omega, rfl, rfl, rfl, rfl, HR4, B4⟩
    case round =>
      clear HR4 B4
      obtain ⟨k, v, q', hk, rfl, rfl, rfl, HQ, HR, B4⟩ := hrel
      by_cases hkn : k < n
      · obtain ⟨⟨f, o, t⟩, hl⟩ : ∃ l, xs[k]? = some l := ⟨_, List.getElem?_eq_getElem (by rw [HN.out]; exact hkn)⟩
        have CX := Lib.hid (CF.out k f o t hl)
        rw [← HQ.out] at CX
        have k0 : (0 : Int) ≤ (k : Int) := by omega
        have k1 : (k : Int) < (n : Int) := by omega
        have HX := own_below HO.out B4.out.2.2.2.2
        obtain ⟨g, rfl⟩ := lines_at HX HN.out (by omega)
        obtain ⟨l0, l1, l2⟩ := line_cells HX HN.out hl
        have HE : Hid (walkL P (xs.take (k + 1)) = walkL P (xs.take k) ++ [endL P (xs.take (k + 1))]) := by unfold Hid; rw [take_one hl, walkL_snoc, endL_snoc]
        have hbl : Below wr.heap.size wr (wr.alloc (.cells #[.int .i64 f, .int .i64 o, .int .i64 t] 58)) := (Below.refl _ _).alloc (Nat.le_refl _) _
        have HRa := Lib.hid (own_below HR.out hbl)
        have Ba := Lib.hid (B4.out.later hbl)
        have hrow := heap_alloc_new wr (.cells #[.int .i64 f, .int .i64 o, .int .i64 t] 58)
        obtain ⟨r0, r1, r2, -, -, -⟩ := row_facts hrow
        clear hbl HX HR B4 hl hrow
        go_wp2_with fail
        clear l0 l1 l2
        generalize wr.alloc (.cells #[.int .i64 f, .int .i64 o, .int .i64 t] 58) = wa at *
        refine (CX.out _).mono ?_
        rintro e wb ⟨rfl, hb⟩
        have HRb := Lib.hid (own_below HRa.out hb)
        have Bb := Lib.hid (Ba.out.later hb)
        clear HRa Ba hb r0 r1 r2 CX
        obtain ⟨q2, hq2⟩ : ∃ q2, endL P (xs.take (k + 1)) = q2 := ⟨_, rfl⟩
        rw [hq2] at HE ⊢
        have HQ2 : Hid (q2 = endL P (xs.take (k + 1))) := hq2.symm
        have hbz : Hid (w.heap.size + 1 ≤ wb.heap.size) := Bb.out.2.2.2.1
        have hln : Hid (k + 1 ≤ 1000000000) := by unfold Hid; omega
        clear hq2
        go_wp2_with (at_builtin; refine wpList_append_one rfl (.tmp 40) (.tmp 42) 31 rfl (w.heap.size + 1) 3 i0 (.int .i64 0) 8 Try.underlying31 hi hz0 hz1 hz2 rfl (by decide) _ _ _ rfl HRb.out rfl rfl hln.out hbz.out ?_; intro g' cap' w6 hown' hgrow hb2)
        have HR6 : Hid (w6.ownsRow (w.heap.size + 1) 3 1 (.slice (some ⟨g', 0, none⟩) (k + 1 + 1) cap') (k + 1 + 1) (iv (walkL P (xs.take (k + 1))))) := by
          unfold Hid
          rw [HE.out, iv_snoc]
          exact hown'
        have B6 := Lib.hid (Bb.out.kept hb2 (Nat.lt_succ_self _) (Nat.le_succ _))
        clear hown' hgrow hb2 hbz HRb Bb HE
        go_wp2_with fail
        go_roundw
        case rel => exact ⟨k + 1, _, q2, by omega, by go_num, rfl, rfl, HQ2, HR6, B6⟩
        case measure => simp [intOf]; omega
      · obtain rfl : k = n := by omega
        have hp : Hid (OwnIv (walkL P xs) w (.returned v) wr) := by
          refine ⟨_, rfl, ?_, B4.out.2.2.2.2⟩
          have := HR.out
          rw [List.take_of_length_le (by rw [HN.out]; exact Nat.le_refl _)] at this
          rw [walkL_length, HN.out]
          exact own_base this (Nat.le_succ _)
        clear HR B4
        go_wp2_with fail
        go_ret
        exact hp.out
set_option maxHeartbeats 2000000 in
set_option maxRecDepth 100000 in
theorem specPositions (W H Z P : Int) (hP : P ≤ 9223372036854775807) (xs : List Ln) {n B gc : Nat} {ga : Option Addr} (hn : xs.length = n) (hx : n ≤ 1048576) (w : World) (ho : w.ownsRow B 58 3 (.slice ga n gc) n (lv xs)) :
    Calls Try.prog 22 #[.agg #[.int .i64 W, .int .i64 H, .int .i64 Z], .int .i64 P, .slice ga n gc] w (OwnIv (posL W H Z P xs) w) := by
  obtain ⟨i0, hi, hz0, hz1, hz2⟩ : ∃ i, Try.prog.info? 3 = some i ∧ i.zero = some (.int .i64 0) ∧ i.size = 1 ∧ i.bytes = 8 := ⟨_, by rfl, by rfl, by rfl, by rfl⟩
  have C1 : Hid (∀ w, w.ownsRow B 58 3 (.slice ga n gc) n (lv xs) → Calls Try.prog 18 #[.agg #[.int .i64 W, .int .i64 H, .int .i64 Z], .int .i64 P, .slice ga n gc] w (QP (playB W H Z P xs) w)) := fun w ho => specPlay W H Z P hP xs hn hx w ho
  have HO := Lib.hid ho
  have HN := Lib.hid hn
  obtain ⟨⟨q, y⟩, hy⟩ : ∃ r, playB W H Z P xs = r := ⟨_, rfl⟩
  rw [hy] at C1
  clear hn hx ho hP
  cases y
  · rw [posL_no hy]
    clear hy
    go_enter Try.func22, Try.ntmps22
    go_wp2_with fail
    have B0 := Lib.hid (box_newT 25 W H Z w)
    have HO0 := Lib.hid (own_below HO.out ((Below.refl _ _).alloc (Nat.le_refl _) (.cells #[.int .i64 W, .int .i64 H, .int .i64 Z] 25)))
    generalize w.alloc (.cells #[.int .i64 W, .int .i64 H, .int .i64 Z] 25) = W1 at *
    obtain ⟨c0, c1, c2, hlt, hb1⟩ := B0.out
    go_wp2_with fail
    refine (C1.out _ HO0.out).mono ?_
    rintro e w1 ⟨rfl, hb⟩
    have B1 := Lib.hid (B0.out.later hb)
    clear c0 c1 c2 hlt hb1 hb B0 HO HO0
    have HF : Hid (OwnIv [] w (.returned (.slice (some ⟨w1.heap.size, 0, none⟩) 0 0)) (w1.alloc (.cells #[] 3))) := ⟨_, rfl, own_base (World.ownsRow_made w1 #[] 0 (Nat.le_refl _) (by unfold maxLen; omega) rfl) B1.out.2.2.2.2.size, B1.out.2.2.2.2.alloc B1.out.2.2.2.2.size _⟩
    go_wp2_with fail
    go_ret
    exact HF.out
  · rw [posL_yes hy]
    obtain ⟨-, h60, hrun⟩ := play_yes hy
    have CF := Lib.hid (fun k l (hk : xs[k]? = some l) => run_at hrun hk)
    have CB := Lib.hid (fun k l (hk : xs[k]? = some l) => end_big hrun hk)
    rw [HN.out] at h60
    clear hy hrun
    go_enter Try.func22, Try.ntmps22
    go_wp2_with fail
    have B0 := Lib.hid (box_newT 25 W H Z w)
    have HO0 := Lib.hid (own_below HO.out ((Below.refl _ _).alloc (Nat.le_refl _) (.cells #[.int .i64 W, .int .i64 H, .int .i64 Z] 25)))
    generalize w.alloc (.cells #[.int .i64 W, .int .i64 H, .int .i64 Z] 25) = W1 at *
    obtain ⟨c0, c1, c2, hlt, hb1⟩ := B0.out
    go_wp2_with fail
    refine (C1.out _ HO0.out).mono ?_
    rintro e w1 ⟨rfl, hb⟩
    have B1 := Lib.hid (B0.out.later hb)
    clear c0 c1 c2 hlt hb1 hb B0 HO0
    have hlt : w.heap.size + 1 ≤ w1.heap.size := B1.out.2.2.2.1
    have HR4 : Hid ((w1.alloc (.cells #[.int .i64 P] 3)).ownsRow (w.heap.size + 1) 3 1 (.slice (some ⟨w1.heap.size, 0, none⟩) 1 1) (0 + 1) (iv (walkL P (xs.take 0)))) := own_base (World.ownsRow_lit w1 #[.int .i64 P] 1 (Nat.le_refl _) (by unfold maxLen; omega) rfl) hlt
    have B4 := Lib.hid (B1.out.later ((Below.refl _ _).alloc (Nat.le_refl _) (.cells #[.int .i64 P] 3)))
    clear hlt B1
    go_wp2_with fail
    generalize w1.alloc (.cells #[.int .i64 P] 3) = w4 at *
    go_loopw [1, 9, 10] (fun s r i wr => ∃ (k : Nat) (v : Value) (q' : Int), k ≤ n ∧ i = .int .i64 k ∧ s = .int .i64 q' ∧ v = r ∧ Hid (q' = endL P (xs.take k)) ∧ Hid (wr.ownsRow (w.heap.size + 1) 3 1 v (k + 1) (iv (walkL P (xs.take k)))) ∧ Hid (Box w.heap.size W H Z w wr)) (fun _ _ i _ => n - (intOf i).toNat)
    case atStart => exact ⟨0, _, P, by omega, rfl, rfl, rfl, rfl, HR4, B4⟩
    case round =>
      clear HR4 B4
      obtain ⟨k, v, q', hk, rfl, rfl, rfl, HQ, HR, B4⟩ := hrel
      by_cases hkn : k < n
      · obtain ⟨⟨f, o, t⟩, hl⟩ : ∃ l, xs[k]? = some l := ⟨_, List.getElem?_eq_getElem (by rw [HN.out]; exact hkn)⟩
        obtain ⟨hj, hf⟩ := CF.out k _ hl
        obtain ⟨hq1, -⟩ := CB.out k _ hl
        have hE2 := do_yes hj
        rw [hf, ← HQ.out] at hE2
        rw [← HQ.out] at hq1
        have CX := Lib.hid (fun w => specDo W H Z q' f o t hq1 w)
        rw [hE2] at CX
        have k0 : (0 : Int) ≤ (k : Int) := by omega
        have k1 : (k : Int) < (n : Int) := by omega
        have HX := Lib.hid (own_below HO.out B4.out.2.2.2.2)
        obtain ⟨g, rfl⟩ := lines_at HX.out HN.out (by omega)
        have CE : Hid (∀ w' : World, w'.ownsRow B 58 3 (.slice (some ⟨g, 0, none⟩) n gc) n (lv xs) → w'.cell? ⟨g, k * 3, none⟩ = some (.int .i64 f) ∧ w'.cell? ⟨g, k * 3 + 1, none⟩ = some (.int .i64 o) ∧ w'.cell? ⟨g, k * 3 + 2, none⟩ = some (.int .i64 t)) := fun w' hh => line_cells hh HN.out hl
        have HE : Hid (walkL P (xs.take (k + 1)) = walkL P (xs.take k) ++ [endL P (xs.take (k + 1))]) := by unfold Hid; rw [take_one hl, walkL_snoc, endL_snoc]
        obtain ⟨q2, hq2⟩ : ∃ q2, endL P (xs.take (k + 1)) = q2 := ⟨_, rfl⟩
        rw [hq2] at HE CX
        have HQ2 : Hid (q2 = endL P (xs.take (k + 1))) := hq2.symm
        have hln : Hid (k + 1 ≤ 1000000000) := by unfold Hid; omega
        clear hl hj hf hE2 hq2 hq1
        go_wp2_with fail
        refine wp_region_script (by kernel_rfl) (by kernel_rfl) ?_
        refine Script.load (i := 0) (v := ?_) rfl (by kernel_rfl) (by kernel_rfl) (fun _ _ _ h => h) (by kernel_rfl) ?_ ?_
        rotate_left
        · (intro wS hSw; obtain ⟨c0, c1, c2, -, -⟩ := B4.out.later (After.trans (After.drew (After.refl _)) hSw); obtain ⟨l0, l1, l2⟩ := CE.out _ (own_below HX.out (After.trans (After.drew (After.refl _)) hSw)); go_simp; try with_reducible rfl)
        try simp only [Act.put, List.getElem_toArray, List.getElem_cons_succ, List.getElem_cons_zero, List.setIfInBounds_toArray, List.set_cons_zero, List.set_cons_succ]
        refine Script.load (i := 1) (v := ?_) rfl (by kernel_rfl) (by kernel_rfl) (fun _ _ _ h => h) (by kernel_rfl) ?_ ?_
        rotate_left
        · (intro wS hSw; obtain ⟨c0, c1, c2, -, -⟩ := B4.out.later (After.trans (After.drew (After.refl _)) hSw); obtain ⟨l0, l1, l2⟩ := CE.out _ (own_below HX.out (After.trans (After.drew (After.refl _)) hSw)); go_simp; try with_reducible rfl)
        try simp only [Act.put, List.getElem_toArray, List.getElem_cons_succ, List.getElem_cons_zero, List.setIfInBounds_toArray, List.set_cons_zero, List.set_cons_succ]
        refine Script.load (i := 2) (v := ?_) rfl (by kernel_rfl) (by kernel_rfl) (fun _ _ _ h => h) (by kernel_rfl) ?_ ?_
        rotate_left
        · (intro wS hSw; obtain ⟨c0, c1, c2, -, -⟩ := B4.out.later (After.trans (After.drew (After.refl _)) hSw); obtain ⟨l0, l1, l2⟩ := CE.out _ (own_below HX.out (After.trans (After.drew (After.refl _)) hSw)); go_simp; try with_reducible rfl)
        try simp only [Act.put, List.getElem_toArray, List.getElem_cons_succ, List.getElem_cons_zero, List.setIfInBounds_toArray, List.set_cons_zero, List.set_cons_succ]
        refine Script.load (i := 3) (v := ?_) rfl (by kernel_rfl) (by kernel_rfl) (fun _ _ _ h => h) (by kernel_rfl) ?_ ?_
        rotate_left
        · (intro wS hSw; obtain ⟨c0, c1, c2, -, -⟩ := B4.out.later (After.trans (After.drew (After.refl _)) hSw); obtain ⟨l0, l1, l2⟩ := CE.out _ (own_below HX.out (After.trans (After.drew (After.refl _)) hSw)); go_simp; try with_reducible rfl)
        try simp only [Act.put, List.getElem_toArray, List.getElem_cons_succ, List.getElem_cons_zero, List.setIfInBounds_toArray, List.set_cons_zero, List.set_cons_succ]
        refine Script.load (i := 4) (v := ?_) rfl (by kernel_rfl) (by kernel_rfl) (fun _ _ _ h => h) (by kernel_rfl) ?_ ?_
        rotate_left
        · (intro wS hSw; obtain ⟨c0, c1, c2, -, -⟩ := B4.out.later (After.trans (After.drew (After.refl _)) hSw); obtain ⟨l0, l1, l2⟩ := CE.out _ (own_below HX.out (After.trans (After.drew (After.refl _)) hSw)); go_simp; try with_reducible rfl)
        try simp only [Act.put, List.getElem_toArray, List.getElem_cons_succ, List.getElem_cons_zero, List.setIfInBounds_toArray, List.set_cons_zero, List.set_cons_succ]
        refine Script.load (i := 5) (v := ?_) rfl (by kernel_rfl) (by kernel_rfl) (fun _ _ _ h => h) (by kernel_rfl) ?_ ?_
        rotate_left
        · (intro wS hSw; obtain ⟨c0, c1, c2, -, -⟩ := B4.out.later (After.trans (After.drew (After.refl _)) hSw); obtain ⟨l0, l1, l2⟩ := CE.out _ (own_below HX.out (After.trans (After.drew (After.refl _)) hSw)); go_simp; try with_reducible rfl)
        try simp only [Act.put, List.getElem_toArray, List.getElem_cons_succ, List.getElem_cons_zero, List.setIfInBounds_toArray, List.set_cons_zero, List.set_cons_succ]
        refine Script.call (i := 6) (v := ?_) rfl (by kernel_rfl) (by kernel_rfl) (fun _ _ _ h => h) (by kernel_rfl) ?_ ?_
        rotate_left
        · (intro wS hSw K hK; obtain ⟨c0, c1, c2, -, -⟩ := B4.out.later (After.trans (After.drew (After.refl _)) hSw); obtain ⟨l0, l1, l2⟩ := CE.out _ (own_below HX.out (After.trans (After.drew (After.refl _)) hSw)); go_simp; go_at_call 44; refine (CX.out _).mono ?_; rintro e wc ⟨rfl, hbc⟩; exact hK.out _ hbc)
        try simp only [Act.put, List.getElem_toArray, List.getElem_cons_succ, List.getElem_cons_zero, List.setIfInBounds_toArray, List.set_cons_zero, List.set_cons_succ]
        refine Script.load (i := 7) (v := ?_) rfl (by kernel_rfl) (by kernel_rfl) (fun _ _ _ h => h) (by kernel_rfl) ?_ ?_
        rotate_left
        · (intro wS hSw; obtain ⟨c0, c1, c2, -, -⟩ := B4.out.later (After.trans (After.drew (After.refl _)) hSw); obtain ⟨l0, l1, l2⟩ := CE.out _ (own_below HX.out (After.trans (After.drew (After.refl _)) hSw)); go_simp; try with_reducible rfl)
        try simp only [Act.put, List.getElem_toArray, List.getElem_cons_succ, List.getElem_cons_zero, List.setIfInBounds_toArray, List.set_cons_zero, List.set_cons_succ]
        refine Script.load (i := 8) (v := ?_) rfl (by kernel_rfl) (by kernel_rfl) (fun _ _ _ h => h) (by kernel_rfl) ?_ ?_
        rotate_left
        · (intro wS hSw; obtain ⟨c0, c1, c2, -, -⟩ := B4.out.later (After.trans (After.drew (After.refl _)) hSw); obtain ⟨l0, l1, l2⟩ := CE.out _ (own_below HX.out (After.trans (After.drew (After.refl _)) hSw)); go_simp; try with_reducible rfl)
        try simp only [Act.put, List.getElem_toArray, List.getElem_cons_succ, List.getElem_cons_zero, List.setIfInBounds_toArray, List.set_cons_zero, List.set_cons_succ]
        refine Script.load (i := 9) (v := ?_) rfl (by kernel_rfl) (by kernel_rfl) (fun _ _ _ h => h) (by kernel_rfl) ?_ ?_
        rotate_left
        · (intro wS hSw; obtain ⟨c0, c1, c2, -, -⟩ := B4.out.later (After.trans (After.drew (After.refl _)) hSw); obtain ⟨l0, l1, l2⟩ := CE.out _ (own_below HX.out (After.trans (After.drew (After.refl _)) hSw)); go_simp; try with_reducible rfl)
        try simp only [Act.put, List.getElem_toArray, List.getElem_cons_succ, List.getElem_cons_zero, List.setIfInBounds_toArray, List.set_cons_zero, List.set_cons_succ]
        refine Script.load (i := 10) (v := ?_) rfl (by kernel_rfl) (by kernel_rfl) (fun _ _ _ h => h) (by kernel_rfl) ?_ ?_
        rotate_left
        · (intro wS hSw; obtain ⟨c0, c1, c2, -, -⟩ := B4.out.later (After.trans (After.drew (After.refl _)) hSw); obtain ⟨l0, l1, l2⟩ := CE.out _ (own_below HX.out (After.trans (After.drew (After.refl _)) hSw)); go_simp; try with_reducible rfl)
        try simp only [Act.put, List.getElem_toArray, List.getElem_cons_succ, List.getElem_cons_zero, List.setIfInBounds_toArray, List.set_cons_zero, List.set_cons_succ]
        refine Script.done (by kernel_rfl) ?_
        intro wD hD hG
        have hb6 := After.trans (After.drew (After.refl _)) hD
        have Bb := Lib.hid (B4.out.later hb6)
        have HRb := Lib.hid (own_below HR.out hb6)
        clear hD hG hb6 B4 HX HR
        have hbz : Hid (w.heap.size + 1 ≤ wD.heap.size) := Bb.out.2.2.2.1
        go_wp2_with (at_builtin; refine wpList_append_one rfl (.tmp 39) (.tmp 41) 31 rfl (w.heap.size + 1) 3 i0 (.int .i64 0) 8 Try.underlying31 hi hz0 hz1 hz2 rfl (by decide) _ _ _ rfl HRb.out rfl rfl hln.out hbz.out ?_; intro g' cap' w6 hown' hgrow hb2)
        have HR6 : Hid (w6.ownsRow (w.heap.size + 1) 3 1 (.slice (some ⟨g', 0, none⟩) (k + 1 + 1) cap') (k + 1 + 1) (iv (walkL P (xs.take (k + 1))))) := by
          unfold Hid
          rw [HE.out, iv_snoc]
          exact hown'
        have B6 := Lib.hid (Bb.out.kept hb2 (Nat.lt_succ_self _) (Nat.le_succ _))
        clear hown' hgrow hb2 hbz HRb Bb HE
        go_wp2_with fail
        go_roundw
        case rel => exact ⟨k + 1, _, q2, by omega, by go_num, rfl, rfl, HQ2, HR6, B6⟩
        case measure => simp [intOf]; omega
      · obtain rfl : k = n := by omega
        have hp : Hid (OwnIv (walkL P xs) w (.returned v) wr) := by
          refine ⟨_, rfl, ?_, B4.out.2.2.2.2⟩
          have := HR.out
          rw [List.take_of_length_le (by rw [HN.out]; exact Nat.le_refl _)] at this
          rw [walkL_length, HN.out]
          exact own_base this (Nat.le_succ _)
        clear HR B4
        go_wp2_with fail
        go_ret
        exact hp.out
set_option maxHeartbeats 1000000 in
set_option maxRecDepth 100000 in
theorem implSol (W H Z P G : Int) (hP : P ≤ 9223372036854775807) (xs : List Ln) {n B gc : Nat} {ga : Option Addr} (hn : xs.length = n) (hx : n ≤ 1048576) (w : World) (ho : w.ownsRow B 58 3 (.slice ga n gc) n (lv xs)) :
    Calls Try.prog 15 #[.agg #[.int .i64 W, .int .i64 H, .int .i64 Z], .int .i64 P, .int .i64 G, .slice ga n gc] w (QB (solB W H Z P G xs) w) := by
  have C1 : Hid (∀ w, w.ownsRow B 58 3 (.slice ga n gc) n (lv xs) → Calls Try.prog 11 #[.agg #[.int .i64 W, .int .i64 H, .int .i64 Z], .int .i64 P, .slice ga n gc] w (QP (playB W H Z P xs) w)) := fun w ho => implPlay W H Z P hP xs hn hx w ho
  have HO := Lib.hid ho
  unfold solB
  obtain ⟨⟨q, y⟩, hy⟩ : ∃ r, playB W H Z P xs = r := ⟨_, rfl⟩
  rw [hy] at C1 ⊢
  clear hn hx ho hP hy
  cases y
  · show Calls _ _ _ _ (QB false w)
    go_enter Try.func15, Try.ntmps15
    go_wp2_with fail
    have B0 := Lib.hid (box_newT 25 W H Z w)
    have HO0 := Lib.hid (own_below HO.out ((Below.refl _ _).alloc (Nat.le_refl _) (.cells #[.int .i64 W, .int .i64 H, .int .i64 Z] 25)))
    generalize w.alloc (.cells #[.int .i64 W, .int .i64 H, .int .i64 Z] 25) = W1 at *
    obtain ⟨c0, c1, c2, hlt, hb1⟩ := B0.out
    go_wp2_with fail
    refine (C1.out _ HO0.out).mono ?_
    rintro e w1 ⟨rfl, hb⟩
    have B1 := Lib.hid (B0.out.later hb)
    clear c0 c1 c2 hlt hb1 hb B0 HO HO0
    go_wp2_with fail
    go_ret
    exact ⟨rfl, B1.out.2.2.2.2⟩
  · show Calls _ _ _ _ (QB (q == G) w)
    go_enter Try.func15, Try.ntmps15
    go_wp2_with fail
    have B0 := Lib.hid (box_newT 25 W H Z w)
    have HO0 := Lib.hid (own_below HO.out ((Below.refl _ _).alloc (Nat.le_refl _) (.cells #[.int .i64 W, .int .i64 H, .int .i64 Z] 25)))
    generalize w.alloc (.cells #[.int .i64 W, .int .i64 H, .int .i64 Z] 25) = W1 at *
    obtain ⟨c0, c1, c2, hlt, hb1⟩ := B0.out
    go_wp2_with fail
    refine (C1.out _ HO0.out).mono ?_
    rintro e w1 ⟨rfl, hb⟩
    have B1 := Lib.hid (B0.out.later hb)
    clear c0 c1 c2 hlt hb1 hb B0 HO HO0
    go_wp2_with fail
    go_ret
    exact ⟨rfl, B1.out.2.2.2.2⟩
set_option maxHeartbeats 1000000 in
set_option maxRecDepth 100000 in
theorem specSol (W H Z P G : Int) (hP : P ≤ 9223372036854775807) (xs : List Ln) {n B gc : Nat} {ga : Option Addr} (hn : xs.length = n) (hx : n ≤ 1048576) (w : World) (ho : w.ownsRow B 58 3 (.slice ga n gc) n (lv xs)) :
    Calls Try.prog 27 #[.agg #[.int .i64 W, .int .i64 H, .int .i64 Z], .int .i64 P, .int .i64 G, .slice ga n gc] w (QB (solB W H Z P G xs) w) := by
  have C1 : Hid (∀ w, w.ownsRow B 58 3 (.slice ga n gc) n (lv xs) → Calls Try.prog 18 #[.agg #[.int .i64 W, .int .i64 H, .int .i64 Z], .int .i64 P, .slice ga n gc] w (QP (playB W H Z P xs) w)) := fun w ho => specPlay W H Z P hP xs hn hx w ho
  have HO := Lib.hid ho
  unfold solB
  obtain ⟨⟨q, y⟩, hy⟩ : ∃ r, playB W H Z P xs = r := ⟨_, rfl⟩
  rw [hy] at C1 ⊢
  clear hn hx ho hP hy
  cases y
  · show Calls _ _ _ _ (QB false w)
    go_enter Try.func27, Try.ntmps27
    go_wp2_with fail
    have B0 := Lib.hid (box_newT 25 W H Z w)
    have HO0 := Lib.hid (own_below HO.out ((Below.refl _ _).alloc (Nat.le_refl _) (.cells #[.int .i64 W, .int .i64 H, .int .i64 Z] 25)))
    generalize w.alloc (.cells #[.int .i64 W, .int .i64 H, .int .i64 Z] 25) = W1 at *
    obtain ⟨c0, c1, c2, hlt, hb1⟩ := B0.out
    go_wp2_with fail
    refine (C1.out _ HO0.out).mono ?_
    rintro e w1 ⟨rfl, hb⟩
    have B1 := Lib.hid (B0.out.later hb)
    clear c0 c1 c2 hlt hb1 hb B0 HO HO0
    go_wp2_with fail
    go_ret
    exact ⟨rfl, B1.out.2.2.2.2⟩
  · show Calls _ _ _ _ (QB (q == G) w)
    go_enter Try.func27, Try.ntmps27
    go_wp2_with fail
    have B0 := Lib.hid (box_newT 25 W H Z w)
    have HO0 := Lib.hid (own_below HO.out ((Below.refl _ _).alloc (Nat.le_refl _) (.cells #[.int .i64 W, .int .i64 H, .int .i64 Z] 25)))
    generalize w.alloc (.cells #[.int .i64 W, .int .i64 H, .int .i64 Z] 25) = W1 at *
    obtain ⟨c0, c1, c2, hlt, hb1⟩ := B0.out
    go_wp2_with fail
    refine (C1.out _ HO0.out).mono ?_
    rintro e w1 ⟨rfl, hb⟩
    have B1 := Lib.hid (B0.out.later hb)
    clear c0 c1 c2 hlt hb1 hb B0 HO HO0
    go_wp2_with fail
    go_ret
    exact ⟨rfl, B1.out.2.2.2.2⟩
theorem goes_at {xs : List Ln} {k : Nat} {l l' : Ln} (h1 : xs[k + 1]? = some l) (h2 : xs[k]? = some l') : goesB xs (k + 1) = (l.1 == l'.2.2) := by
  simp [goesB, List.getD, h1, h2]
set_option maxHeartbeats 1000000 in
set_option maxRecDepth 100000 in
theorem implGoes (xs : List Ln) {n B gc k : Nat} {ga : Option Addr} (hn : xs.length = n) (hx : n ≤ 1048576) (hk : k < n) (w : World) (ho : w.ownsRow B 58 3 (.slice ga n gc) n (lv xs)) :
    Calls Try.prog 41 #[.slice ga n gc, .int .i64 k] w (QB (goesB xs k) w) := by
  obtain ⟨g, rfl⟩ := lines_at ho hn (by omega)
  rcases Nat.eq_zero_or_pos k with rfl | h0
  · rw [goes_zero]
    clear ho
    go_enter Try.func41, Try.ntmps41
    go_wp2_with fail
    refine wp_region_script (by kernel_rfl) (by kernel_rfl) ?_
    refine Script.load (i := 0) (v := ?_) rfl (by kernel_rfl) (by kernel_rfl) (fun _ _ _ h => h) (by kernel_rfl) ?_ ?_
    rotate_left
    · (intro wS hSw; go_simp; try with_reducible rfl)
    try simp only [Act.put, List.getElem_toArray, List.getElem_cons_succ, List.getElem_cons_zero, List.setIfInBounds_toArray, List.set_cons_zero, List.set_cons_succ]
    refine Script.load (i := 1) (v := ?_) rfl (by kernel_rfl) (by kernel_rfl) (fun _ _ _ h => h) (by kernel_rfl) ?_ ?_
    rotate_left
    · (intro wS hSw; go_simp; try with_reducible rfl)
    try simp only [Act.put, List.getElem_toArray, List.getElem_cons_succ, List.getElem_cons_zero, List.setIfInBounds_toArray, List.set_cons_zero, List.set_cons_succ]
    refine Script.load (i := 2) (v := ?_) rfl (by kernel_rfl) (by kernel_rfl) (fun _ _ _ h => h) (by kernel_rfl) ?_ ?_
    rotate_left
    · (intro wS hSw; go_simp; try with_reducible rfl)
    try simp only [Act.put, List.getElem_toArray, List.getElem_cons_succ, List.getElem_cons_zero, List.setIfInBounds_toArray, List.set_cons_zero, List.set_cons_succ]
    refine Script.skip (i := 3) rfl (by kernel_rfl) (by kernel_rfl) (fun _ _ _ h => h) (by kernel_rfl) ?_
    try simp only [Act.put, List.getElem_toArray, List.getElem_cons_succ, List.getElem_cons_zero, List.setIfInBounds_toArray, List.set_cons_zero, List.set_cons_succ]
    refine Script.skip (i := 4) rfl (by kernel_rfl) (by kernel_rfl) (fun _ _ _ h => h) (by kernel_rfl) ?_
    try simp only [Act.put, List.getElem_toArray, List.getElem_cons_succ, List.getElem_cons_zero, List.setIfInBounds_toArray, List.set_cons_zero, List.set_cons_succ]
    refine Script.skip (i := 5) rfl (by kernel_rfl) (by kernel_rfl) (fun _ _ _ h => h) (by kernel_rfl) ?_
    try simp only [Act.put, List.getElem_toArray, List.getElem_cons_succ, List.getElem_cons_zero, List.setIfInBounds_toArray, List.set_cons_zero, List.set_cons_succ]
    refine Script.skip (i := 6) rfl (by kernel_rfl) (by kernel_rfl) (fun _ _ _ h => h) (by kernel_rfl) ?_
    try simp only [Act.put, List.getElem_toArray, List.getElem_cons_succ, List.getElem_cons_zero, List.setIfInBounds_toArray, List.set_cons_zero, List.set_cons_succ]
    refine Script.skip (i := 7) rfl (by kernel_rfl) (by kernel_rfl) (fun _ _ _ h => h) (by kernel_rfl) ?_
    try simp only [Act.put, List.getElem_toArray, List.getElem_cons_succ, List.getElem_cons_zero, List.setIfInBounds_toArray, List.set_cons_zero, List.set_cons_succ]
    refine Script.skip (i := 8) rfl (by kernel_rfl) (by kernel_rfl) (fun _ _ _ h => h) (by kernel_rfl) ?_
    try simp only [Act.put, List.getElem_toArray, List.getElem_cons_succ, List.getElem_cons_zero, List.setIfInBounds_toArray, List.set_cons_zero, List.set_cons_succ]
    refine Script.skip (i := 9) rfl (by kernel_rfl) (by kernel_rfl) (fun _ _ _ h => h) (by kernel_rfl) ?_
    try simp only [Act.put, List.getElem_toArray, List.getElem_cons_succ, List.getElem_cons_zero, List.setIfInBounds_toArray, List.set_cons_zero, List.set_cons_succ]
    refine Script.skip (i := 10) rfl (by kernel_rfl) (by kernel_rfl) (fun _ _ _ h => h) (by kernel_rfl) ?_
    try simp only [Act.put, List.getElem_toArray, List.getElem_cons_succ, List.getElem_cons_zero, List.setIfInBounds_toArray, List.set_cons_zero, List.set_cons_succ]
    refine Script.skip (i := 11) rfl (by kernel_rfl) (by kernel_rfl) (fun _ _ _ h => h) (by kernel_rfl) ?_
    try simp only [Act.put, List.getElem_toArray, List.getElem_cons_succ, List.getElem_cons_zero, List.setIfInBounds_toArray, List.set_cons_zero, List.set_cons_succ]
    refine Script.skip (i := 12) rfl (by kernel_rfl) (by kernel_rfl) (fun _ _ _ h => h) (by kernel_rfl) ?_
    try simp only [Act.put, List.getElem_toArray, List.getElem_cons_succ, List.getElem_cons_zero, List.setIfInBounds_toArray, List.set_cons_zero, List.set_cons_succ]
    refine Script.skip (i := 13) rfl (by kernel_rfl) (by kernel_rfl) (fun _ _ _ h => h) (by kernel_rfl) ?_
    try simp only [Act.put, List.getElem_toArray, List.getElem_cons_succ, List.getElem_cons_zero, List.setIfInBounds_toArray, List.set_cons_zero, List.set_cons_succ]
    refine Script.skip (i := 14) rfl (by kernel_rfl) (by kernel_rfl) (fun _ _ _ h => h) (by kernel_rfl) ?_
    try simp only [Act.put, List.getElem_toArray, List.getElem_cons_succ, List.getElem_cons_zero, List.setIfInBounds_toArray, List.set_cons_zero, List.set_cons_succ]
    refine Script.load (i := 15) (v := ?_) rfl (by kernel_rfl) (by kernel_rfl) (fun _ _ _ h => h) (by kernel_rfl) ?_ ?_
    rotate_left
    · (intro wS hSw; go_simp; try with_reducible rfl)
    try simp only [Act.put, List.getElem_toArray, List.getElem_cons_succ, List.getElem_cons_zero, List.setIfInBounds_toArray, List.set_cons_zero, List.set_cons_succ]
    refine Script.load (i := 16) (v := ?_) rfl (by kernel_rfl) (by kernel_rfl) (fun _ _ _ h => h) (by kernel_rfl) ?_ ?_
    rotate_left
    · (intro wS hSw; go_simp; try with_reducible rfl)
    try simp only [Act.put, List.getElem_toArray, List.getElem_cons_succ, List.getElem_cons_zero, List.setIfInBounds_toArray, List.set_cons_zero, List.set_cons_succ]
    refine Script.done (by kernel_rfl) ?_
    intro wD hD hG
    have hb6 := After.trans (After.drew (After.refl _)) hD
    clear hD hG
    go_wp2_with fail
    go_ret
    exact ⟨rfl, hb6⟩
  · obtain ⟨j, rfl⟩ : ∃ j, k = j + 1 := ⟨k - 1, by omega⟩
    obtain ⟨⟨f, o, t⟩, hl⟩ : ∃ l, xs[j + 1]? = some l := ⟨_, List.getElem?_eq_getElem (by rw [hn]; exact hk)⟩
    obtain ⟨⟨f', o', t'⟩, hl'⟩ : ∃ l, xs[j]? = some l := ⟨_, List.getElem?_eq_getElem (by rw [hn]; omega)⟩
    have CE : Hid (∀ w' : World, w'.ownsRow B 58 3 (.slice (some ⟨g, 0, none⟩) n gc) n (lv xs) → w'.cell? ⟨g, (j + 1) * 3, none⟩ = some (.int .i64 f) ∧ w'.cell? ⟨g, j * 3 + 2, none⟩ = some (.int .i64 t')) := fun w' hh => ⟨(line_cells hh hn hl).1, (line_cells hh hn hl').2.2⟩
    rw [goes_at hl hl']
    have HX := Lib.hid ho
    obtain ⟨m, hm⟩ : ∃ m, j + 1 = m := ⟨_, rfl⟩
    rw [hm] at CE hk ⊢
    have g0 : (0 : Int) < (m : Int) := by omega
    have d0 : decide ((0 : Int) < (m : Int)) = true := decide_eq_true g0
    have n0 : decide (0 < m) = true := decide_eq_true (by omega)
    have k0 : (0 : Int) ≤ (m : Int) := by omega
    have k1 : (m : Int) < (n : Int) := by omega
    have j0 : (0 : Int) ≤ (j : Int) := by omega
    have j1 : (j : Int) < (n : Int) := by omega
    have hwm : IntKind.i64.wrap ((m : Int) - 1) = (j : Int) := by rw [show (m : Int) - 1 = (j : Int) by omega]; exact IntWalk.i64_in _ (by omega)
    clear ho hl hl' hn hm
    go_enter Try.func41, Try.ntmps41
    go_wp2_with fail
    refine wp_region_script (by kernel_rfl) (by kernel_rfl) ?_
    refine Script.load (i := 0) (v := ?_) rfl (by kernel_rfl) (by kernel_rfl) (fun _ _ _ h => h) (by kernel_rfl) ?_ ?_
    rotate_left
    · (intro wS hSw; obtain ⟨l0, l1⟩ := CE.out _ (own_below HX.out (After.trans (After.drew (After.refl _)) hSw)); go_simp; try with_reducible rfl)
    try simp only [Act.put, List.getElem_toArray, List.getElem_cons_succ, List.getElem_cons_zero, List.setIfInBounds_toArray, List.set_cons_zero, List.set_cons_succ]
    refine Script.load (i := 1) (v := ?_) rfl (by kernel_rfl) (by kernel_rfl) (fun _ _ _ h => h) (by kernel_rfl) ?_ ?_
    rotate_left
    · (intro wS hSw; obtain ⟨l0, l1⟩ := CE.out _ (own_below HX.out (After.trans (After.drew (After.refl _)) hSw)); go_simp; try with_reducible rfl)
    try simp only [Act.put, List.getElem_toArray, List.getElem_cons_succ, List.getElem_cons_zero, List.setIfInBounds_toArray, List.set_cons_zero, List.set_cons_succ]
    refine Script.load (i := 2) (v := ?_) rfl (by kernel_rfl) (by kernel_rfl) (fun _ _ _ h => h) (by kernel_rfl) ?_ ?_
    rotate_left
    · (intro wS hSw; obtain ⟨l0, l1⟩ := CE.out _ (own_below HX.out (After.trans (After.drew (After.refl _)) hSw)); go_simp; try with_reducible rfl)
    try simp only [Act.put, List.getElem_toArray, List.getElem_cons_succ, List.getElem_cons_zero, List.setIfInBounds_toArray, List.set_cons_zero, List.set_cons_succ]
    refine Script.load (i := 3) (v := ?_) rfl (by kernel_rfl) (by kernel_rfl) (fun _ _ _ h => h) (by kernel_rfl) ?_ ?_
    rotate_left
    · (intro wS hSw; obtain ⟨l0, l1⟩ := CE.out _ (own_below HX.out (After.trans (After.drew (After.refl _)) hSw)); go_simp; try with_reducible rfl)
    try simp only [Act.put, List.getElem_toArray, List.getElem_cons_succ, List.getElem_cons_zero, List.setIfInBounds_toArray, List.set_cons_zero, List.set_cons_succ]
    refine Script.load (i := 4) (v := ?_) rfl (by kernel_rfl) (by kernel_rfl) (fun _ _ _ h => h) (by kernel_rfl) ?_ ?_
    rotate_left
    · (intro wS hSw; obtain ⟨l0, l1⟩ := CE.out _ (own_below HX.out (After.trans (After.drew (After.refl _)) hSw)); go_simp; try with_reducible rfl)
    try simp only [Act.put, List.getElem_toArray, List.getElem_cons_succ, List.getElem_cons_zero, List.setIfInBounds_toArray, List.set_cons_zero, List.set_cons_succ]
    refine Script.load (i := 5) (v := ?_) rfl (by kernel_rfl) (by kernel_rfl) (fun _ _ _ h => h) (by kernel_rfl) ?_ ?_
    rotate_left
    · (intro wS hSw; obtain ⟨l0, l1⟩ := CE.out _ (own_below HX.out (After.trans (After.drew (After.refl _)) hSw)); go_simp; try with_reducible rfl)
    try simp only [Act.put, List.getElem_toArray, List.getElem_cons_succ, List.getElem_cons_zero, List.setIfInBounds_toArray, List.set_cons_zero, List.set_cons_succ]
    refine Script.load (i := 6) (v := ?_) rfl (by kernel_rfl) (by kernel_rfl) (fun _ _ _ h => h) (by kernel_rfl) ?_ ?_
    rotate_left
    · (intro wS hSw; obtain ⟨l0, l1⟩ := CE.out _ (own_below HX.out (After.trans (After.drew (After.refl _)) hSw)); go_simp; try with_reducible rfl)
    try simp only [Act.put, List.getElem_toArray, List.getElem_cons_succ, List.getElem_cons_zero, List.setIfInBounds_toArray, List.set_cons_zero, List.set_cons_succ]
    refine Script.load (i := 7) (v := ?_) rfl (by kernel_rfl) (by kernel_rfl) (fun _ _ _ h => h) (by kernel_rfl) ?_ ?_
    rotate_left
    · (intro wS hSw; obtain ⟨l0, l1⟩ := CE.out _ (own_below HX.out (After.trans (After.drew (After.refl _)) hSw)); go_simp; try with_reducible rfl)
    try simp only [Act.put, List.getElem_toArray, List.getElem_cons_succ, List.getElem_cons_zero, List.setIfInBounds_toArray, List.set_cons_zero, List.set_cons_succ]
    refine Script.load (i := 8) (v := ?_) rfl (by kernel_rfl) (by kernel_rfl) (fun _ _ _ h => h) (by kernel_rfl) ?_ ?_
    rotate_left
    · (intro wS hSw; obtain ⟨l0, l1⟩ := CE.out _ (own_below HX.out (After.trans (After.drew (After.refl _)) hSw)); go_simp; try with_reducible rfl)
    try simp only [Act.put, List.getElem_toArray, List.getElem_cons_succ, List.getElem_cons_zero, List.setIfInBounds_toArray, List.set_cons_zero, List.set_cons_succ]
    refine Script.load (i := 9) (v := ?_) rfl (by kernel_rfl) (by kernel_rfl) (fun _ _ _ h => h) (by kernel_rfl) ?_ ?_
    rotate_left
    · (intro wS hSw; obtain ⟨l0, l1⟩ := CE.out _ (own_below HX.out (After.trans (After.drew (After.refl _)) hSw)); go_simp; try with_reducible rfl)
    try simp only [Act.put, List.getElem_toArray, List.getElem_cons_succ, List.getElem_cons_zero, List.setIfInBounds_toArray, List.set_cons_zero, List.set_cons_succ]
    refine Script.load (i := 10) (v := ?_) rfl (by kernel_rfl) (by kernel_rfl) (fun _ _ _ h => h) (by kernel_rfl) ?_ ?_
    rotate_left
    · (intro wS hSw; obtain ⟨l0, l1⟩ := CE.out _ (own_below HX.out (After.trans (After.drew (After.refl _)) hSw)); go_simp; try with_reducible rfl)
    try simp only [Act.put, List.getElem_toArray, List.getElem_cons_succ, List.getElem_cons_zero, List.setIfInBounds_toArray, List.set_cons_zero, List.set_cons_succ]
    refine Script.load (i := 11) (v := ?_) rfl (by kernel_rfl) (by kernel_rfl) (fun _ _ _ h => h) (by kernel_rfl) ?_ ?_
    rotate_left
    · (intro wS hSw; obtain ⟨l0, l1⟩ := CE.out _ (own_below HX.out (After.trans (After.drew (After.refl _)) hSw)); go_simp; try with_reducible rfl)
    try simp only [Act.put, List.getElem_toArray, List.getElem_cons_succ, List.getElem_cons_zero, List.setIfInBounds_toArray, List.set_cons_zero, List.set_cons_succ]
    refine Script.load (i := 12) (v := ?_) rfl (by kernel_rfl) (by kernel_rfl) (fun _ _ _ h => h) (by kernel_rfl) ?_ ?_
    rotate_left
    · (intro wS hSw; obtain ⟨l0, l1⟩ := CE.out _ (own_below HX.out (After.trans (After.drew (After.refl _)) hSw)); go_simp; try with_reducible rfl)
    try simp only [Act.put, List.getElem_toArray, List.getElem_cons_succ, List.getElem_cons_zero, List.setIfInBounds_toArray, List.set_cons_zero, List.set_cons_succ]
    refine Script.load (i := 13) (v := ?_) rfl (by kernel_rfl) (by kernel_rfl) (fun _ _ _ h => h) (by kernel_rfl) ?_ ?_
    rotate_left
    · (intro wS hSw; obtain ⟨l0, l1⟩ := CE.out _ (own_below HX.out (After.trans (After.drew (After.refl _)) hSw)); go_simp; try with_reducible rfl)
    try simp only [Act.put, List.getElem_toArray, List.getElem_cons_succ, List.getElem_cons_zero, List.setIfInBounds_toArray, List.set_cons_zero, List.set_cons_succ]
    refine Script.load (i := 14) (v := ?_) rfl (by kernel_rfl) (by kernel_rfl) (fun _ _ _ h => h) (by kernel_rfl) ?_ ?_
    rotate_left
    · (intro wS hSw; obtain ⟨l0, l1⟩ := CE.out _ (own_below HX.out (After.trans (After.drew (After.refl _)) hSw)); go_simp; try with_reducible rfl)
    try simp only [Act.put, List.getElem_toArray, List.getElem_cons_succ, List.getElem_cons_zero, List.setIfInBounds_toArray, List.set_cons_zero, List.set_cons_succ]
    refine Script.load (i := 15) (v := ?_) rfl (by kernel_rfl) (by kernel_rfl) (fun _ _ _ h => h) (by kernel_rfl) ?_ ?_
    rotate_left
    · (intro wS hSw; obtain ⟨l0, l1⟩ := CE.out _ (own_below HX.out (After.trans (After.drew (After.refl _)) hSw)); go_simp; try with_reducible rfl)
    try simp only [Act.put, List.getElem_toArray, List.getElem_cons_succ, List.getElem_cons_zero, List.setIfInBounds_toArray, List.set_cons_zero, List.set_cons_succ]
    refine Script.load (i := 16) (v := ?_) rfl (by kernel_rfl) (by kernel_rfl) (fun _ _ _ h => h) (by kernel_rfl) ?_ ?_
    rotate_left
    · (intro wS hSw; obtain ⟨l0, l1⟩ := CE.out _ (own_below HX.out (After.trans (After.drew (After.refl _)) hSw)); go_simp; try with_reducible rfl)
    try simp only [Act.put, List.getElem_toArray, List.getElem_cons_succ, List.getElem_cons_zero, List.setIfInBounds_toArray, List.set_cons_zero, List.set_cons_succ]
    refine Script.done (by kernel_rfl) ?_
    intro wD hD hG
    have hb6 := After.trans (After.drew (After.refl _)) hD
    clear hD hG HX CE
    go_wp2_with fail
    go_ret
    exact ⟨rfl, hb6⟩
set_option maxHeartbeats 1000000 in
set_option maxRecDepth 100000 in
theorem implSweeps (xs : List Ln) {n B gc : Nat} {ga : Option Addr} (hn : xs.length = n) (hx : n ≤ 1048576) (w : World) (ho : w.ownsRow B 58 3 (.slice ga n gc) n (lv xs)) :
    Calls Try.prog 14 #[.slice ga n gc] w (QI (sweepsN xs n : Nat) w) := by
  have CG := Lib.hid (fun k w hk ho => implGoes (B := B) (gc := gc) (ga := ga) (k := k) xs hn hx hk w ho)
  have HO := Lib.hid ho
  clear ho hn
  go_enter Try.func14, Try.ntmps14
  go_wp2_with fail
  go_loopw [3, 7] (fun s i wr => ∃ (k c : Nat), k ≤ n ∧ i = .int .i64 k ∧ s = .int .i64 c ∧ c ≤ k ∧ Hid (c = sweepsN xs k) ∧ Hid (Below w.heap.size w wr)) (fun _ i _ => n - (intOf i).toNat)
  case atStart => exact ⟨0, 0, by omega, rfl, rfl, by omega, rfl, Below.refl _ _⟩
  case round =>
    obtain ⟨k, c, hk, rfl, rfl, hck, HC, HB⟩ := hrel
    by_cases hkn : k < n
    · have k0 : (0 : Int) ≤ (k : Int) := by omega
      have k1 : (k : Int) < (n : Int) := by omega
      have CX := Lib.hid (CG.out k wr hkn (own_below HO.out HB.out))
      have HG := Lib.hid (sweeps_go (xs := xs) (k := k))
      have HW := Lib.hid (sweeps_new (xs := xs) (k := k))
      obtain ⟨y, hy⟩ : ∃ y, goesB xs k = y := ⟨_, rfl⟩
      rw [hy] at CX HG HW
      clear hy
      go_wp2_with fail
      refine CX.out.mono ?_
      rintro e wb ⟨rfl, hb⟩
      have HB1 := Lib.hid (HB.out.trans (hb.mono HB.out.size))
      clear CX hb HB
      cases y
      · have HE : Hid (c + 1 = sweepsN xs (k + 1)) := by unfold Hid; rw [HW.out rfl, ← HC.out]
        clear HG HW HC
        go_wp2_with fail
        go_roundw
        case rel => exact ⟨k + 1, c + 1, by omega, by go_num, by go_num, by omega, HE, HB1⟩
        case measure => simp [intOf]; omega
      · have HE : Hid (c = sweepsN xs (k + 1)) := by unfold Hid; rw [HG.out rfl, ← HC.out]
        clear HG HW HC
        go_wp2_with fail
        go_roundw
        case rel => exact ⟨k + 1, c, by omega, by go_num, rfl, by omega, HE, HB1⟩
        case measure => simp [intOf]; omega
    · obtain rfl : k = n := by omega
      go_wp2_with fail
      go_ret
      exact QI.of (by rw [HC.out]) HB.out
set_option maxHeartbeats 2000000 in
set_option maxRecDepth 100000 in
theorem specSweeps (xs : List Ln) {n B gc : Nat} {ga : Option Addr} (hn : xs.length = n) (hx : n ≤ 1048576) (w : World) (ho : w.ownsRow B 58 3 (.slice ga n gc) n (lv xs)) :
    Calls Try.prog 28 #[.slice ga n gc] w (QI (sweepsN xs n : Nat) w) := by
  have HO := Lib.hid ho
  have HN := Lib.hid hn
  clear ho hn
  go_enter Try.func28, Try.ntmps28
  go_wp2_with fail
  go_loopw [3, 4] (fun s i wr => ∃ (k c : Nat), k ≤ n ∧ i = .int .i64 k ∧ s = .int .i64 c ∧ c ≤ k ∧ Hid (c = sweepsN xs k) ∧ Hid (Below w.heap.size w wr)) (fun _ i _ => n - (intOf i).toNat)
  case atStart => exact ⟨0, 0, by omega, rfl, rfl, by omega, rfl, Below.refl _ _⟩
  case round =>
    obtain ⟨k, c, hk, rfl, rfl, hck, HC, HB⟩ := hrel
    by_cases hkn : k < n
    · have k1 : (k : Int) < (n : Int) := by omega
      rcases Nat.eq_zero_or_pos k with rfl | h0
      · have HE : Hid (c + 1 = sweepsN xs 1) := by unfold Hid; rw [sweeps_new (goes_zero xs), ← HC.out]
        clear HC
        go_wp2_with fail
        refine wp_region_script (by kernel_rfl) (by kernel_rfl) ?_
        refine Script.load (i := 0) (v := ?_) rfl (by kernel_rfl) (by kernel_rfl) (fun _ _ _ h => h) (by kernel_rfl) ?_ ?_
        rotate_left
        · (intro wS hSw; go_simp; try with_reducible rfl)
        try simp only [Act.put, List.getElem_toArray, List.getElem_cons_succ, List.getElem_cons_zero, List.setIfInBounds_toArray, List.set_cons_zero, List.set_cons_succ]
        refine Script.load (i := 1) (v := ?_) rfl (by kernel_rfl) (by kernel_rfl) (fun _ _ _ h => h) (by kernel_rfl) ?_ ?_
        rotate_left
        · (intro wS hSw; go_simp; try with_reducible rfl)
        try simp only [Act.put, List.getElem_toArray, List.getElem_cons_succ, List.getElem_cons_zero, List.setIfInBounds_toArray, List.set_cons_zero, List.set_cons_succ]
        refine Script.load (i := 2) (v := ?_) rfl (by kernel_rfl) (by kernel_rfl) (fun _ _ _ h => h) (by kernel_rfl) ?_ ?_
        rotate_left
        · (intro wS hSw; go_simp; try with_reducible rfl)
        try simp only [Act.put, List.getElem_toArray, List.getElem_cons_succ, List.getElem_cons_zero, List.setIfInBounds_toArray, List.set_cons_zero, List.set_cons_succ]
        refine Script.skip (i := 3) rfl (by kernel_rfl) (by kernel_rfl) (fun _ _ _ h => h) (by kernel_rfl) ?_
        try simp only [Act.put, List.getElem_toArray, List.getElem_cons_succ, List.getElem_cons_zero, List.setIfInBounds_toArray, List.set_cons_zero, List.set_cons_succ]
        refine Script.skip (i := 4) rfl (by kernel_rfl) (by kernel_rfl) (fun _ _ _ h => h) (by kernel_rfl) ?_
        try simp only [Act.put, List.getElem_toArray, List.getElem_cons_succ, List.getElem_cons_zero, List.setIfInBounds_toArray, List.set_cons_zero, List.set_cons_succ]
        refine Script.skip (i := 5) rfl (by kernel_rfl) (by kernel_rfl) (fun _ _ _ h => h) (by kernel_rfl) ?_
        try simp only [Act.put, List.getElem_toArray, List.getElem_cons_succ, List.getElem_cons_zero, List.setIfInBounds_toArray, List.set_cons_zero, List.set_cons_succ]
        refine Script.skip (i := 6) rfl (by kernel_rfl) (by kernel_rfl) (fun _ _ _ h => h) (by kernel_rfl) ?_
        try simp only [Act.put, List.getElem_toArray, List.getElem_cons_succ, List.getElem_cons_zero, List.setIfInBounds_toArray, List.set_cons_zero, List.set_cons_succ]
        refine Script.skip (i := 7) rfl (by kernel_rfl) (by kernel_rfl) (fun _ _ _ h => h) (by kernel_rfl) ?_
        try simp only [Act.put, List.getElem_toArray, List.getElem_cons_succ, List.getElem_cons_zero, List.setIfInBounds_toArray, List.set_cons_zero, List.set_cons_succ]
        refine Script.skip (i := 8) rfl (by kernel_rfl) (by kernel_rfl) (fun _ _ _ h => h) (by kernel_rfl) ?_
        try simp only [Act.put, List.getElem_toArray, List.getElem_cons_succ, List.getElem_cons_zero, List.setIfInBounds_toArray, List.set_cons_zero, List.set_cons_succ]
        refine Script.skip (i := 9) rfl (by kernel_rfl) (by kernel_rfl) (fun _ _ _ h => h) (by kernel_rfl) ?_
        try simp only [Act.put, List.getElem_toArray, List.getElem_cons_succ, List.getElem_cons_zero, List.setIfInBounds_toArray, List.set_cons_zero, List.set_cons_succ]
        refine Script.skip (i := 10) rfl (by kernel_rfl) (by kernel_rfl) (fun _ _ _ h => h) (by kernel_rfl) ?_
        try simp only [Act.put, List.getElem_toArray, List.getElem_cons_succ, List.getElem_cons_zero, List.setIfInBounds_toArray, List.set_cons_zero, List.set_cons_succ]
        refine Script.skip (i := 11) rfl (by kernel_rfl) (by kernel_rfl) (fun _ _ _ h => h) (by kernel_rfl) ?_
        try simp only [Act.put, List.getElem_toArray, List.getElem_cons_succ, List.getElem_cons_zero, List.setIfInBounds_toArray, List.set_cons_zero, List.set_cons_succ]
        refine Script.skip (i := 12) rfl (by kernel_rfl) (by kernel_rfl) (fun _ _ _ h => h) (by kernel_rfl) ?_
        try simp only [Act.put, List.getElem_toArray, List.getElem_cons_succ, List.getElem_cons_zero, List.setIfInBounds_toArray, List.set_cons_zero, List.set_cons_succ]
        refine Script.skip (i := 13) rfl (by kernel_rfl) (by kernel_rfl) (fun _ _ _ h => h) (by kernel_rfl) ?_
        try simp only [Act.put, List.getElem_toArray, List.getElem_cons_succ, List.getElem_cons_zero, List.setIfInBounds_toArray, List.set_cons_zero, List.set_cons_succ]
        refine Script.skip (i := 14) rfl (by kernel_rfl) (by kernel_rfl) (fun _ _ _ h => h) (by kernel_rfl) ?_
        try simp only [Act.put, List.getElem_toArray, List.getElem_cons_succ, List.getElem_cons_zero, List.setIfInBounds_toArray, List.set_cons_zero, List.set_cons_succ]
        refine Script.load (i := 15) (v := ?_) rfl (by kernel_rfl) (by kernel_rfl) (fun _ _ _ h => h) (by kernel_rfl) ?_ ?_
        rotate_left
        · (intro wS hSw; go_simp; try with_reducible rfl)
        try simp only [Act.put, List.getElem_toArray, List.getElem_cons_succ, List.getElem_cons_zero, List.setIfInBounds_toArray, List.set_cons_zero, List.set_cons_succ]
        refine Script.done (by kernel_rfl) ?_
        intro wD hD hG
        have HB1 := Lib.hid (HB.out.trans ((After.trans (After.drew (After.refl _)) hD).mono HB.out.size))
        clear hD hG HB
        go_wp2_with fail
        go_roundw
        case rel => exact ⟨1, c + 1, by omega, by go_num, by go_num, by omega, HE, HB1⟩
        case measure => simp [intOf]; omega
      · obtain ⟨j, rfl⟩ : ∃ j, k = j + 1 := ⟨k - 1, by omega⟩
        obtain ⟨⟨f, o, t⟩, hl⟩ : ∃ l, xs[j + 1]? = some l := ⟨_, List.getElem?_eq_getElem (by rw [HN.out]; exact hkn)⟩
        obtain ⟨⟨f', o', t'⟩, hl'⟩ : ∃ l, xs[j]? = some l := ⟨_, List.getElem?_eq_getElem (by rw [HN.out]; omega)⟩
        have HX := Lib.hid (own_below HO.out HB.out)
        obtain ⟨g, rfl⟩ := lines_at HX.out HN.out (by omega)
        have CE : Hid (∀ w' : World, w'.ownsRow B 58 3 (.slice (some ⟨g, 0, none⟩) n gc) n (lv xs) → w'.cell? ⟨g, (j + 1) * 3, none⟩ = some (.int .i64 f) ∧ w'.cell? ⟨g, j * 3 + 2, none⟩ = some (.int .i64 t')) := fun w' hh => ⟨(line_cells hh HN.out hl).1, (line_cells hh HN.out hl').2.2⟩
        have hE2 := goes_at hl hl'
        have HG := Lib.hid (sweeps_go (xs := xs) (k := j + 1))
        have HW := Lib.hid (sweeps_new (xs := xs) (k := j + 1))
        obtain ⟨m, hm⟩ : ∃ m, j + 1 = m := ⟨_, rfl⟩
        rw [hm] at CE hk hE2 HG HW hkn k1 hck HC ⊢
        have k0 : (0 : Int) ≤ (m : Int) := by omega
        have m0 : ((m : Int) == 0) = false := by rw [beq_eq_false_iff_ne]; omega
        have j0 : (0 : Int) ≤ (j : Int) := by omega
        have j1 : (j : Int) < (n : Int) := by omega
        have hwm : IntKind.i64.wrap ((m : Int) - 1) = (j : Int) := by rw [show (m : Int) - 1 = (j : Int) by omega]; exact IntWalk.i64_in _ (by omega)
        clear hl hl' hm h0
        by_cases he : f = t'
        · have HE : Hid (c = sweepsN xs (m + 1)) := by unfold Hid; rw [HG.out (by rw [hE2]; simpa using he), ← HC.out]
          have e1 : (f == t') = true := by simpa using he
          have e2 : (f != t') = false := by simp [he]
          clear HG HW HC hE2 he
          go_wp2_with fail
          refine wp_region_script (by kernel_rfl) (by kernel_rfl) ?_
          refine Script.load (i := 0) (v := ?_) rfl (by kernel_rfl) (by kernel_rfl) (fun _ _ _ h => h) (by kernel_rfl) ?_ ?_
          rotate_left
          · (intro wS hSw; obtain ⟨l0, l1⟩ := CE.out _ (own_below HX.out (After.trans (After.drew (After.refl _)) hSw)); go_simp; try with_reducible rfl)
          try simp only [Act.put, List.getElem_toArray, List.getElem_cons_succ, List.getElem_cons_zero, List.setIfInBounds_toArray, List.set_cons_zero, List.set_cons_succ]
          refine Script.load (i := 1) (v := ?_) rfl (by kernel_rfl) (by kernel_rfl) (fun _ _ _ h => h) (by kernel_rfl) ?_ ?_
          rotate_left
          · (intro wS hSw; obtain ⟨l0, l1⟩ := CE.out _ (own_below HX.out (After.trans (After.drew (After.refl _)) hSw)); go_simp; try with_reducible rfl)
          try simp only [Act.put, List.getElem_toArray, List.getElem_cons_succ, List.getElem_cons_zero, List.setIfInBounds_toArray, List.set_cons_zero, List.set_cons_succ]
          refine Script.load (i := 2) (v := ?_) rfl (by kernel_rfl) (by kernel_rfl) (fun _ _ _ h => h) (by kernel_rfl) ?_ ?_
          rotate_left
          · (intro wS hSw; obtain ⟨l0, l1⟩ := CE.out _ (own_below HX.out (After.trans (After.drew (After.refl _)) hSw)); go_simp; try with_reducible rfl)
          try simp only [Act.put, List.getElem_toArray, List.getElem_cons_succ, List.getElem_cons_zero, List.setIfInBounds_toArray, List.set_cons_zero, List.set_cons_succ]
          refine Script.load (i := 3) (v := ?_) rfl (by kernel_rfl) (by kernel_rfl) (fun _ _ _ h => h) (by kernel_rfl) ?_ ?_
          rotate_left
          · (intro wS hSw; obtain ⟨l0, l1⟩ := CE.out _ (own_below HX.out (After.trans (After.drew (After.refl _)) hSw)); go_simp; try with_reducible rfl)
          try simp only [Act.put, List.getElem_toArray, List.getElem_cons_succ, List.getElem_cons_zero, List.setIfInBounds_toArray, List.set_cons_zero, List.set_cons_succ]
          refine Script.load (i := 4) (v := ?_) rfl (by kernel_rfl) (by kernel_rfl) (fun _ _ _ h => h) (by kernel_rfl) ?_ ?_
          rotate_left
          · (intro wS hSw; obtain ⟨l0, l1⟩ := CE.out _ (own_below HX.out (After.trans (After.drew (After.refl _)) hSw)); go_simp; try with_reducible rfl)
          try simp only [Act.put, List.getElem_toArray, List.getElem_cons_succ, List.getElem_cons_zero, List.setIfInBounds_toArray, List.set_cons_zero, List.set_cons_succ]
          refine Script.load (i := 5) (v := ?_) rfl (by kernel_rfl) (by kernel_rfl) (fun _ _ _ h => h) (by kernel_rfl) ?_ ?_
          rotate_left
          · (intro wS hSw; obtain ⟨l0, l1⟩ := CE.out _ (own_below HX.out (After.trans (After.drew (After.refl _)) hSw)); go_simp; try with_reducible rfl)
          try simp only [Act.put, List.getElem_toArray, List.getElem_cons_succ, List.getElem_cons_zero, List.setIfInBounds_toArray, List.set_cons_zero, List.set_cons_succ]
          refine Script.load (i := 6) (v := ?_) rfl (by kernel_rfl) (by kernel_rfl) (fun _ _ _ h => h) (by kernel_rfl) ?_ ?_
          rotate_left
          · (intro wS hSw; obtain ⟨l0, l1⟩ := CE.out _ (own_below HX.out (After.trans (After.drew (After.refl _)) hSw)); go_simp; try with_reducible rfl)
          try simp only [Act.put, List.getElem_toArray, List.getElem_cons_succ, List.getElem_cons_zero, List.setIfInBounds_toArray, List.set_cons_zero, List.set_cons_succ]
          refine Script.load (i := 7) (v := ?_) rfl (by kernel_rfl) (by kernel_rfl) (fun _ _ _ h => h) (by kernel_rfl) ?_ ?_
          rotate_left
          · (intro wS hSw; obtain ⟨l0, l1⟩ := CE.out _ (own_below HX.out (After.trans (After.drew (After.refl _)) hSw)); go_simp; try with_reducible rfl)
          try simp only [Act.put, List.getElem_toArray, List.getElem_cons_succ, List.getElem_cons_zero, List.setIfInBounds_toArray, List.set_cons_zero, List.set_cons_succ]
          refine Script.load (i := 8) (v := ?_) rfl (by kernel_rfl) (by kernel_rfl) (fun _ _ _ h => h) (by kernel_rfl) ?_ ?_
          rotate_left
          · (intro wS hSw; obtain ⟨l0, l1⟩ := CE.out _ (own_below HX.out (After.trans (After.drew (After.refl _)) hSw)); go_simp; try with_reducible rfl)
          try simp only [Act.put, List.getElem_toArray, List.getElem_cons_succ, List.getElem_cons_zero, List.setIfInBounds_toArray, List.set_cons_zero, List.set_cons_succ]
          refine Script.load (i := 9) (v := ?_) rfl (by kernel_rfl) (by kernel_rfl) (fun _ _ _ h => h) (by kernel_rfl) ?_ ?_
          rotate_left
          · (intro wS hSw; obtain ⟨l0, l1⟩ := CE.out _ (own_below HX.out (After.trans (After.drew (After.refl _)) hSw)); go_simp; try with_reducible rfl)
          try simp only [Act.put, List.getElem_toArray, List.getElem_cons_succ, List.getElem_cons_zero, List.setIfInBounds_toArray, List.set_cons_zero, List.set_cons_succ]
          refine Script.load (i := 10) (v := ?_) rfl (by kernel_rfl) (by kernel_rfl) (fun _ _ _ h => h) (by kernel_rfl) ?_ ?_
          rotate_left
          · (intro wS hSw; obtain ⟨l0, l1⟩ := CE.out _ (own_below HX.out (After.trans (After.drew (After.refl _)) hSw)); go_simp; try with_reducible rfl)
          try simp only [Act.put, List.getElem_toArray, List.getElem_cons_succ, List.getElem_cons_zero, List.setIfInBounds_toArray, List.set_cons_zero, List.set_cons_succ]
          refine Script.load (i := 11) (v := ?_) rfl (by kernel_rfl) (by kernel_rfl) (fun _ _ _ h => h) (by kernel_rfl) ?_ ?_
          rotate_left
          · (intro wS hSw; obtain ⟨l0, l1⟩ := CE.out _ (own_below HX.out (After.trans (After.drew (After.refl _)) hSw)); go_simp; try with_reducible rfl)
          try simp only [Act.put, List.getElem_toArray, List.getElem_cons_succ, List.getElem_cons_zero, List.setIfInBounds_toArray, List.set_cons_zero, List.set_cons_succ]
          refine Script.load (i := 12) (v := ?_) rfl (by kernel_rfl) (by kernel_rfl) (fun _ _ _ h => h) (by kernel_rfl) ?_ ?_
          rotate_left
          · (intro wS hSw; obtain ⟨l0, l1⟩ := CE.out _ (own_below HX.out (After.trans (After.drew (After.refl _)) hSw)); go_simp; try with_reducible rfl)
          try simp only [Act.put, List.getElem_toArray, List.getElem_cons_succ, List.getElem_cons_zero, List.setIfInBounds_toArray, List.set_cons_zero, List.set_cons_succ]
          refine Script.load (i := 13) (v := ?_) rfl (by kernel_rfl) (by kernel_rfl) (fun _ _ _ h => h) (by kernel_rfl) ?_ ?_
          rotate_left
          · (intro wS hSw; obtain ⟨l0, l1⟩ := CE.out _ (own_below HX.out (After.trans (After.drew (After.refl _)) hSw)); go_simp; try with_reducible rfl)
          try simp only [Act.put, List.getElem_toArray, List.getElem_cons_succ, List.getElem_cons_zero, List.setIfInBounds_toArray, List.set_cons_zero, List.set_cons_succ]
          refine Script.load (i := 14) (v := ?_) rfl (by kernel_rfl) (by kernel_rfl) (fun _ _ _ h => h) (by kernel_rfl) ?_ ?_
          rotate_left
          · (intro wS hSw; obtain ⟨l0, l1⟩ := CE.out _ (own_below HX.out (After.trans (After.drew (After.refl _)) hSw)); go_simp; try with_reducible rfl)
          try simp only [Act.put, List.getElem_toArray, List.getElem_cons_succ, List.getElem_cons_zero, List.setIfInBounds_toArray, List.set_cons_zero, List.set_cons_succ]
          refine Script.load (i := 15) (v := ?_) rfl (by kernel_rfl) (by kernel_rfl) (fun _ _ _ h => h) (by kernel_rfl) ?_ ?_
          rotate_left
          · (intro wS hSw; obtain ⟨l0, l1⟩ := CE.out _ (own_below HX.out (After.trans (After.drew (After.refl _)) hSw)); go_simp; try with_reducible rfl)
          try simp only [Act.put, List.getElem_toArray, List.getElem_cons_succ, List.getElem_cons_zero, List.setIfInBounds_toArray, List.set_cons_zero, List.set_cons_succ]
          refine Script.done (by kernel_rfl) ?_
          intro wD hD hG
          have HB1 := Lib.hid (HB.out.trans ((After.trans (After.drew (After.refl _)) hD).mono HB.out.size))
          clear hD hG HB HX CE
          go_wp2_with fail
          go_roundw
          case rel => exact ⟨m + 1, c, by omega, by go_num, rfl, by omega, HE, HB1⟩
          case measure => simp [intOf]; omega
        · have HE : Hid (c + 1 = sweepsN xs (m + 1)) := by unfold Hid; rw [HW.out (by rw [hE2]; simpa using he), ← HC.out]
          have e1 : (f == t') = false := by simpa using he
          have e2 : (f != t') = true := by simp [he]
          clear HG HW HC hE2 he
          go_wp2_with fail
          refine wp_region_script (by kernel_rfl) (by kernel_rfl) ?_
          refine Script.load (i := 0) (v := ?_) rfl (by kernel_rfl) (by kernel_rfl) (fun _ _ _ h => h) (by kernel_rfl) ?_ ?_
          rotate_left
          · (intro wS hSw; obtain ⟨l0, l1⟩ := CE.out _ (own_below HX.out (After.trans (After.drew (After.refl _)) hSw)); go_simp; try with_reducible rfl)
          try simp only [Act.put, List.getElem_toArray, List.getElem_cons_succ, List.getElem_cons_zero, List.setIfInBounds_toArray, List.set_cons_zero, List.set_cons_succ]
          refine Script.load (i := 1) (v := ?_) rfl (by kernel_rfl) (by kernel_rfl) (fun _ _ _ h => h) (by kernel_rfl) ?_ ?_
          rotate_left
          · (intro wS hSw; obtain ⟨l0, l1⟩ := CE.out _ (own_below HX.out (After.trans (After.drew (After.refl _)) hSw)); go_simp; try with_reducible rfl)
          try simp only [Act.put, List.getElem_toArray, List.getElem_cons_succ, List.getElem_cons_zero, List.setIfInBounds_toArray, List.set_cons_zero, List.set_cons_succ]
          refine Script.load (i := 2) (v := ?_) rfl (by kernel_rfl) (by kernel_rfl) (fun _ _ _ h => h) (by kernel_rfl) ?_ ?_
          rotate_left
          · (intro wS hSw; obtain ⟨l0, l1⟩ := CE.out _ (own_below HX.out (After.trans (After.drew (After.refl _)) hSw)); go_simp; try with_reducible rfl)
          try simp only [Act.put, List.getElem_toArray, List.getElem_cons_succ, List.getElem_cons_zero, List.setIfInBounds_toArray, List.set_cons_zero, List.set_cons_succ]
          refine Script.load (i := 3) (v := ?_) rfl (by kernel_rfl) (by kernel_rfl) (fun _ _ _ h => h) (by kernel_rfl) ?_ ?_
          rotate_left
          · (intro wS hSw; obtain ⟨l0, l1⟩ := CE.out _ (own_below HX.out (After.trans (After.drew (After.refl _)) hSw)); go_simp; try with_reducible rfl)
          try simp only [Act.put, List.getElem_toArray, List.getElem_cons_succ, List.getElem_cons_zero, List.setIfInBounds_toArray, List.set_cons_zero, List.set_cons_succ]
          refine Script.load (i := 4) (v := ?_) rfl (by kernel_rfl) (by kernel_rfl) (fun _ _ _ h => h) (by kernel_rfl) ?_ ?_
          rotate_left
          · (intro wS hSw; obtain ⟨l0, l1⟩ := CE.out _ (own_below HX.out (After.trans (After.drew (After.refl _)) hSw)); go_simp; try with_reducible rfl)
          try simp only [Act.put, List.getElem_toArray, List.getElem_cons_succ, List.getElem_cons_zero, List.setIfInBounds_toArray, List.set_cons_zero, List.set_cons_succ]
          refine Script.load (i := 5) (v := ?_) rfl (by kernel_rfl) (by kernel_rfl) (fun _ _ _ h => h) (by kernel_rfl) ?_ ?_
          rotate_left
          · (intro wS hSw; obtain ⟨l0, l1⟩ := CE.out _ (own_below HX.out (After.trans (After.drew (After.refl _)) hSw)); go_simp; try with_reducible rfl)
          try simp only [Act.put, List.getElem_toArray, List.getElem_cons_succ, List.getElem_cons_zero, List.setIfInBounds_toArray, List.set_cons_zero, List.set_cons_succ]
          refine Script.load (i := 6) (v := ?_) rfl (by kernel_rfl) (by kernel_rfl) (fun _ _ _ h => h) (by kernel_rfl) ?_ ?_
          rotate_left
          · (intro wS hSw; obtain ⟨l0, l1⟩ := CE.out _ (own_below HX.out (After.trans (After.drew (After.refl _)) hSw)); go_simp; try with_reducible rfl)
          try simp only [Act.put, List.getElem_toArray, List.getElem_cons_succ, List.getElem_cons_zero, List.setIfInBounds_toArray, List.set_cons_zero, List.set_cons_succ]
          refine Script.load (i := 7) (v := ?_) rfl (by kernel_rfl) (by kernel_rfl) (fun _ _ _ h => h) (by kernel_rfl) ?_ ?_
          rotate_left
          · (intro wS hSw; obtain ⟨l0, l1⟩ := CE.out _ (own_below HX.out (After.trans (After.drew (After.refl _)) hSw)); go_simp; try with_reducible rfl)
          try simp only [Act.put, List.getElem_toArray, List.getElem_cons_succ, List.getElem_cons_zero, List.setIfInBounds_toArray, List.set_cons_zero, List.set_cons_succ]
          refine Script.load (i := 8) (v := ?_) rfl (by kernel_rfl) (by kernel_rfl) (fun _ _ _ h => h) (by kernel_rfl) ?_ ?_
          rotate_left
          · (intro wS hSw; obtain ⟨l0, l1⟩ := CE.out _ (own_below HX.out (After.trans (After.drew (After.refl _)) hSw)); go_simp; try with_reducible rfl)
          try simp only [Act.put, List.getElem_toArray, List.getElem_cons_succ, List.getElem_cons_zero, List.setIfInBounds_toArray, List.set_cons_zero, List.set_cons_succ]
          refine Script.load (i := 9) (v := ?_) rfl (by kernel_rfl) (by kernel_rfl) (fun _ _ _ h => h) (by kernel_rfl) ?_ ?_
          rotate_left
          · (intro wS hSw; obtain ⟨l0, l1⟩ := CE.out _ (own_below HX.out (After.trans (After.drew (After.refl _)) hSw)); go_simp; try with_reducible rfl)
          try simp only [Act.put, List.getElem_toArray, List.getElem_cons_succ, List.getElem_cons_zero, List.setIfInBounds_toArray, List.set_cons_zero, List.set_cons_succ]
          refine Script.load (i := 10) (v := ?_) rfl (by kernel_rfl) (by kernel_rfl) (fun _ _ _ h => h) (by kernel_rfl) ?_ ?_
          rotate_left
          · (intro wS hSw; obtain ⟨l0, l1⟩ := CE.out _ (own_below HX.out (After.trans (After.drew (After.refl _)) hSw)); go_simp; try with_reducible rfl)
          try simp only [Act.put, List.getElem_toArray, List.getElem_cons_succ, List.getElem_cons_zero, List.setIfInBounds_toArray, List.set_cons_zero, List.set_cons_succ]
          refine Script.load (i := 11) (v := ?_) rfl (by kernel_rfl) (by kernel_rfl) (fun _ _ _ h => h) (by kernel_rfl) ?_ ?_
          rotate_left
          · (intro wS hSw; obtain ⟨l0, l1⟩ := CE.out _ (own_below HX.out (After.trans (After.drew (After.refl _)) hSw)); go_simp; try with_reducible rfl)
          try simp only [Act.put, List.getElem_toArray, List.getElem_cons_succ, List.getElem_cons_zero, List.setIfInBounds_toArray, List.set_cons_zero, List.set_cons_succ]
          refine Script.load (i := 12) (v := ?_) rfl (by kernel_rfl) (by kernel_rfl) (fun _ _ _ h => h) (by kernel_rfl) ?_ ?_
          rotate_left
          · (intro wS hSw; obtain ⟨l0, l1⟩ := CE.out _ (own_below HX.out (After.trans (After.drew (After.refl _)) hSw)); go_simp; try with_reducible rfl)
          try simp only [Act.put, List.getElem_toArray, List.getElem_cons_succ, List.getElem_cons_zero, List.setIfInBounds_toArray, List.set_cons_zero, List.set_cons_succ]
          refine Script.load (i := 13) (v := ?_) rfl (by kernel_rfl) (by kernel_rfl) (fun _ _ _ h => h) (by kernel_rfl) ?_ ?_
          rotate_left
          · (intro wS hSw; obtain ⟨l0, l1⟩ := CE.out _ (own_below HX.out (After.trans (After.drew (After.refl _)) hSw)); go_simp; try with_reducible rfl)
          try simp only [Act.put, List.getElem_toArray, List.getElem_cons_succ, List.getElem_cons_zero, List.setIfInBounds_toArray, List.set_cons_zero, List.set_cons_succ]
          refine Script.load (i := 14) (v := ?_) rfl (by kernel_rfl) (by kernel_rfl) (fun _ _ _ h => h) (by kernel_rfl) ?_ ?_
          rotate_left
          · (intro wS hSw; obtain ⟨l0, l1⟩ := CE.out _ (own_below HX.out (After.trans (After.drew (After.refl _)) hSw)); go_simp; try with_reducible rfl)
          try simp only [Act.put, List.getElem_toArray, List.getElem_cons_succ, List.getElem_cons_zero, List.setIfInBounds_toArray, List.set_cons_zero, List.set_cons_succ]
          refine Script.load (i := 15) (v := ?_) rfl (by kernel_rfl) (by kernel_rfl) (fun _ _ _ h => h) (by kernel_rfl) ?_ ?_
          rotate_left
          · (intro wS hSw; obtain ⟨l0, l1⟩ := CE.out _ (own_below HX.out (After.trans (After.drew (After.refl _)) hSw)); go_simp; try with_reducible rfl)
          try simp only [Act.put, List.getElem_toArray, List.getElem_cons_succ, List.getElem_cons_zero, List.setIfInBounds_toArray, List.set_cons_zero, List.set_cons_succ]
          refine Script.done (by kernel_rfl) ?_
          intro wD hD hG
          have HB1 := Lib.hid (HB.out.trans ((After.trans (After.drew (After.refl _)) hD).mono HB.out.size))
          clear hD hG HB HX CE
          go_wp2_with fail
          go_roundw
          case rel => exact ⟨m + 1, c + 1, by omega, by go_num, by go_num, by omega, HE, HB1⟩
          case measure => simp [intOf]; omega
    · obtain rfl : k = n := by omega
      go_wp2_with fail
      go_ret
      exact QI.of (by rw [HC.out]) HB.out
end Go.Proofs.Ytdlpfpeblaapdaa
