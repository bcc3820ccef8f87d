/- The first broken line, and whether weights are falling: BrokenLine and IsFalling of both. Of lists of at most 1048576 ints. -/
import Derived.Test.YtdeciglcfabgpaaWeightsB
import Derived.Test.YtdeciglcfabgpaaLinesAll
namespace Go.Proofs.Ytdeciglcfabgpaa
open Go.RowKit
set_option linter.unusedVariables false
set_option linter.unusedSimpArgs false
theorem brk_no {W H Z : Int} {xs : List Int} (h : wOkB W H Z xs = false) : brkL W H Z xs = none := by simp [brkL, h]
theorem brk_yes {W H Z : Int} {xs : List Int} (h : wOkB W H Z xs = true) : brkL W H Z xs = (lnsOf W H Z).find? (badL xs) := by simp [brkL, h]
theorem line_at {W H Z : Int} {xs : List Int} (hw : wOkB W H Z xs = true) {k : Nat} {f o t : Int} (hk : (lnsOf W H Z)[k]? = some (f, o, t)) :
    ∃ f' o' t' : Nat, f = f' ∧ o = o' ∧ t = t' ∧ f' < xs.length ∧ o' < xs.length ∧ t' < xs.length :=
  line_in hw (by rw [List.contains_iff_mem]; exact List.mem_of_getElem? hk)
set_option maxHeartbeats 1000000 in
set_option maxRecDepth 100000 in
theorem implBroken (W H Z : Int) {a : Option Addr} {n c : Nat} {xs : List Int} (w : World) (hx : n ≤ 1048576) (h : IntsAt w a n xs) :
    Calls Try.prog 13 #[.agg #[.int .i64 W, .int .i64 H, .int .i64 Z], .slice a n c] w fun e w' => e = .returned (lineV (brkL W H Z xs)) ∧ Below w.heap.size w w' := by
  have C1 := Lib.hid (fun w (hi : IntsAt w a n xs) => implWeightsOk W H Z (c := c) w hx hi)
  have HI := Lib.hid h
  cases hw : wOkB W H Z xs
  · rw [brk_no hw]
    rw [hw] at C1
    clear hw h
    go_enter Try.func13, Try.ntmps13
    go_wp2_with fail
    have B0 := Lib.hid (two_new W H Z w)
    generalize (w.alloc (.cells #[.int .i64 W, .int .i64 H, .int .i64 Z] 25)).alloc (.cells #[.int .i64 0, .int .i64 0, .int .i64 0] 31) = W1 at *
    have HA := Lib.hid (HI.out.later B0.out.1.2.2.2.2)
    obtain ⟨⟨c0, c1, c2, hlt, hbw⟩, -⟩ := B0.out
    go_wp2_with fail
    refine (C1.out _ HA.out).mono ?_
    rintro e w1 ⟨rfl, hb1⟩
    have B1 := Lib.hid (B0.out.later hb1)
    clear hb1 B0 c0 c1 c2 hlt hbw HA
    obtain ⟨⟨c0, c1, c2, hlt, hbw⟩, hr, hlt2⟩ := B1.out
    obtain ⟨r0, r1, r2, f0, f1, f2⟩ := row_facts hr
    clear hr
    go_wp2_with fail
    exact bodyPost_ret (v := .tuple #[.agg #[.int .i64 0, .int .i64 0, .int .i64 0], .bool false]) (by simp [results, Try.results13, go_sem, r0, r1, r2]) rfl ⟨rfl, by repeat (first | exact hbw | refine set_below ?_ (by omega))⟩
  · rw [brk_yes hw]
    rw [hw] at C1
    obtain ⟨hok, hwl, hall⟩ := wOk_yes hw
    have hle := lnsOf_le W H Z
    have C2 := Lib.hid (fun w => implLinesA W H Z w)
    have HL := Lib.hid (fun k f o t (hk : (lnsOf W H Z)[k]? = some (f, o, t)) => line_at hw hk)
    have hln := h.1
    rw [hln] at HL
    have C3 := Lib.hid (fun (f o t : Nat) w (hi : IntsAt w a n xs) (l1 : f < n) (l2 : o < n) (l3 : t < n) => implLossOn (c := c) w hx hi hall l1 l2 l3)
    obtain ⟨ls, hls⟩ : ∃ ls, lnsOf W H Z = ls := ⟨_, rfl⟩
    rw [hls] at hle C2 HL ⊢
    clear hls hw h hok hwl hall hln
    obtain ⟨m, hm⟩ : ∃ m, ls.length = m := ⟨_, rfl⟩
    have HM := Lib.hid hm
    rw [hm] at hle
    clear hm
    go_enter Try.func13, Try.ntmps13
    go_wp2_with fail
    have B0 := Lib.hid (two_new W H Z w)
    generalize (w.alloc (.cells #[.int .i64 W, .int .i64 H, .int .i64 Z] 25)).alloc (.cells #[.int .i64 0, .int .i64 0, .int .i64 0] 31) = W1 at *
    have HA := Lib.hid (HI.out.later B0.out.1.2.2.2.2)
    obtain ⟨⟨c0, c1, c2, hlt, hbw⟩, -⟩ := B0.out
    go_wp2_with fail
    refine (C1.out _ HA.out).mono ?_
    rintro e w1 ⟨rfl, hb1⟩
    have B1 := Lib.hid (B0.out.later hb1)
    clear hb1 B0 c0 c1 c2 hlt hbw HA C1
    obtain ⟨⟨c0, c1, c2, hlt, hbw⟩, -⟩ := B1.out
    go_wp2_with fail
    refine (C2.out _).mono ?_
    rintro e w2 ⟨v, rfl, hh, hb1⟩
    rw [HM.out] at hh
    have B2 := Lib.hid (B1.out.later hb1)
    have HH := Lib.hid hh
    obtain ⟨ga, gc, rfl⟩ := lines_form hh
    clear hb1 B1 hh c0 c1 c2 hlt hbw C2
    go_wp2_with fail
    generalize w1.heap.size = B at *
    go_loopw [16] (fun i wr => ∃ k : Nat, k ≤ m ∧ i = .int .i64 k ∧ Hid ((ls.take k).find? (badL xs) = none) ∧ Hid (wr.ownsRow B 31 3 (.slice ga m gc) m (lv ls)) ∧ Hid (Two W H Z w wr)) (fun i _ => m - (intOf i).toNat)
    case atStart => exact ⟨0, by omega, rfl, rfl, HH, B2⟩
    case round =>
      clear HH B2
      obtain ⟨k, hk, rfl, hf, HH, B1⟩ := hrel
      by_cases hkn : k < m
      · obtain ⟨⟨lf, lo, lt⟩, hl⟩ : ∃ l, ls[k]? = some l := ⟨_, List.getElem?_eq_getElem (by rw [HM.out]; exact hkn)⟩
        obtain ⟨lf, lo, lt, rfl, rfl, rfl, m1, m2, m3⟩ := HL.out k _ _ _ hl
        have k0 : (0 : Int) ≤ (k : Int) := by omega
        have k1 : (k : Int) < (m : Int) := by omega
        obtain ⟨g, rfl⟩ : ∃ g, ga = some ⟨g, 0, none⟩ := by
          rcases Go.Joins.ownsRow_forms HH.out with ⟨h, h0⟩ | ⟨g, cap, h⟩
          · omega
          · injection h with h1 h2 h3; exact ⟨g, h1⟩
        obtain ⟨l0, l1, l2⟩ := line_cells HH.out HM.out hl
        have hbl : Below wr.heap.size wr (wr.alloc (.cells #[.int .i64 (lf : Int), .int .i64 (lo : Int), .int .i64 (lt : Int)] 31)) := (Below.refl _ _).alloc (Nat.le_refl _) _
        have HH2 := Lib.hid (own_below HH.out hbl)
        have B2 := Lib.hid (B1.out.later hbl)
        have R2 := Lib.hid (heap_alloc_new wr (.cells #[.int .i64 (lf : Int), .int .i64 (lo : Int), .int .i64 (lt : Int)] 31))
        have P2 : Hid (wr.heap.size < (wr.alloc (.cells #[.int .i64 (lf : Int), .int .i64 (lo : Int), .int .i64 (lt : Int)] 31)).heap.size) := by unfold Hid; simp
        have hstep : Hid (badL xs ((lf : Int), (lo : Int), (lt : Int)) = false → (ls.take (k + 1)).find? (badL xs) = none) := fun hp => find_step hf.out hl hp
        have hfind : Hid (badL xs ((lf : Int), (lo : Int), (lt : Int)) = true → ls.find? (badL xs) = some ((lf : Int), (lo : Int), (lt : Int))) := fun hp => find_at hf.out hl hp
        have C4 := Lib.hid (fun w hi => C3.out lf lo lt w hi m1 m2 m3)
        unfold badL at hstep hfind
        obtain ⟨r, hr⟩ : ∃ r, lossL xs ((lf : Int), (lo : Int), (lt : Int)) = r := ⟨_, rfl⟩
        rw [hr] at C4 hstep hfind
        clear hbl hl hf hr HH B1 m1 m2 m3
        obtain ⟨r0, r1, r2, -, -, -⟩ := row_facts R2.out
        go_wp2_with fail
        clear l0 l1 l2
        generalize wr.alloc (.cells #[.int .i64 (lf : Int), .int .i64 (lo : Int), .int .i64 (lt : Int)] 31) = wa at *
        refine (C4.out _ (HI.out.later B2.out.1.2.2.2.2)).mono ?_
        rintro e wb ⟨rfl, hb⟩
        have HH3 := Lib.hid (own_below HH2.out hb)
        have B3 := Lib.hid (B2.out.later hb)
        have R3 := Lib.hid (row_later R2.out hb P2.out)
        clear C4 HH2 B2 R2 r0 r1 r2 hb P2
        by_cases hr0 : r < 0
        · have HE : Hid (ls.find? (badL xs) = some ((lf : Int), (lo : Int), (lt : Int))) := hfind.out (decide_eq_true hr0)
          obtain ⟨r0, r1, r2, -, -, -⟩ := row_facts R3.out
          obtain ⟨⟨c0, c1, c2, hlt, hbw⟩, hr, hlt2⟩ := B3.out
          obtain ⟨s0, s1, s2, f0, f1, f2⟩ := row_facts hr
          have hr3 := row_facts (row_set3 (x' := .int .i64 (lf : Int)) (y' := .int .i64 (lo : Int)) (z' := .int .i64 (lt : Int)) hr)
          have hb3 := set3_below (x := .int .i64 (lf : Int)) (y := .int .i64 (lo : Int)) (z := .int .i64 (lt : Int)) hbw (Nat.le_succ w.heap.size)
          unfold set3 at hr3 hb3
          obtain ⟨t0, t1, t2, -, -, -⟩ := hr3
          clear hr hstep hfind HH3 B3 R3
          go_wp2_with fail
          exact bodyPost_ret (v := .tuple #[.agg #[.int .i64 (lf : Int), .int .i64 (lo : Int), .int .i64 (lt : Int)], .bool true]) (by simp [results, Try.results13, go_sem, t0, t1, t2]) rfl ⟨by rw [HE.out]; rfl, hb3⟩
        · have HE : Hid ((ls.take (k + 1)).find? (badL xs) = none) := hstep.out (decide_eq_false hr0)
          clear hstep hfind R3
          go_wp2_with fail
          go_roundw
          case rel => exact ⟨k + 1, by omega, by go_num, HE, HH3, B3⟩
          case measure => simp [intOf]; omega
      · obtain rfl : k = m := by omega
        have hE : Hid (ls.find? (badL xs) = none) := by
          unfold Hid
          rw [← List.take_of_length_le (l := ls) (by rw [HM.out]; exact Nat.le_refl k), hf.out]
        obtain ⟨⟨c0, c1, c2, hlt, hbw⟩, hr, hlt2⟩ := B1.out
        obtain ⟨r0, r1, r2, f0, f1, f2⟩ := row_facts hr
        clear hr HH B1 hf
        go_wp2_with fail
        exact bodyPost_ret (v := .tuple #[.agg #[.int .i64 0, .int .i64 0, .int .i64 0], .bool false]) (by simp [results, Try.results13, go_sem, r0, r1, r2]) rfl ⟨by rw [hE.out]; rfl, by repeat (first | exact hbw | refine set_below ?_ (by omega))⟩
set_option maxHeartbeats 1000000 in
set_option maxRecDepth 100000 in
theorem specBroken (W H Z : Int) {a : Option Addr} {n c : Nat} {xs : List Int} (w : World) (hx : n ≤ 1048576) (h : IntsAt w a n xs) :
    Calls Try.prog 25 #[.agg #[.int .i64 W, .int .i64 H, .int .i64 Z], .slice a n c] w fun e w' => e = .returned (lineV (brkL W H Z xs)) ∧ Below w.heap.size w w' := by
  have C1 := Lib.hid (fun w (hi : IntsAt w a n xs) => specWeightsOk W H Z (c := c) w hx hi)
  have C2 := Lib.hid (fun w => specLinesA W H Z w)
  have hle := lnsOf_le W H Z
  have HI := Lib.hid h
  cases hw : wOkB W H Z xs
  · rw [brk_no hw]
    rw [hw] at C1
    obtain ⟨ls, hls⟩ : ∃ ls, lnsOf W H Z = ls := ⟨_, rfl⟩
    rw [hls] at hle C2
    clear hls hw h
    obtain ⟨m, hm⟩ : ∃ m, ls.length = m := ⟨_, rfl⟩
    have HM := Lib.hid hm
    rw [hm] at hle
    clear hm
    go_enter Try.func25, Try.ntmps25
    go_wp2_with fail
    have B0 := Lib.hid (two_new W H Z w)
    generalize (w.alloc (.cells #[.int .i64 W, .int .i64 H, .int .i64 Z] 25)).alloc (.cells #[.int .i64 0, .int .i64 0, .int .i64 0] 31) = W1 at *
    obtain ⟨⟨c0, c1, c2, hlt, hbw⟩, -⟩ := B0.out
    go_wp2_with fail
    refine (C2.out _).mono ?_
    rintro e w2 ⟨v, rfl, hh, hb1⟩
    rw [HM.out] at hh
    have B2 := Lib.hid (B0.out.later hb1)
    obtain ⟨ga, gc, rfl⟩ := lines_form hh
    clear hb1 B0 hh c0 c1 c2 hlt hbw C2
    go_wp2_with fail
    go_loopw [7] (fun i wr => i = .int .i64 0 ∧ Hid (Two W H Z w wr)) (fun i _ => 0)
    case atStart => exact ⟨rfl, B2⟩
    case round =>
      clear B2
      obtain ⟨rfl, B2⟩ := hrel
      obtain ⟨⟨c0, c1, c2, hlt, hbw⟩, hr, hlt2⟩ := B2.out
      by_cases hm : 0 < m
      · have k1 : (0 : Int) < (m : Int) := by omega
        clear hr
        go_wp2_with fail
        refine (C1.out _ (HI.out.later hbw)).mono ?_
        rintro e w3 ⟨rfl, hb⟩
        have B3 := Lib.hid (B2.out.later hb)
        clear hb B2 c0 c1 c2 hlt hbw hlt2
        obtain ⟨⟨c0, c1, c2, hlt, hbw⟩, hr, hlt2⟩ := B3.out
        obtain ⟨r0, r1, r2, f0, f1, f2⟩ := row_facts hr
        clear hr
        go_wp2_with fail
        exact bodyPost_ret (v := .tuple #[.agg #[.int .i64 0, .int .i64 0, .int .i64 0], .bool false]) (by simp [results, Try.results25, go_sem, r0, r1, r2]) rfl ⟨rfl, by repeat (first | exact hbw | refine set_below ?_ (by omega))⟩
      · have k1 : ¬ (0 : Int) < (m : Int) := by omega
        obtain ⟨r0, r1, r2, f0, f1, f2⟩ := row_facts hr
        clear hr
        go_wp2_with fail
        exact bodyPost_ret (v := .tuple #[.agg #[.int .i64 0, .int .i64 0, .int .i64 0], .bool false]) (by simp [results, Try.results25, go_sem, r0, r1, r2]) rfl ⟨rfl, by repeat (first | exact hbw | refine set_below ?_ (by omega))⟩
  · rw [brk_yes hw]
    rw [hw] at C1
    obtain ⟨hok, hwl, hall⟩ := wOk_yes hw
    have HL := Lib.hid (fun k f o t (hk : (lnsOf W H Z)[k]? = some (f, o, t)) => line_at hw hk)
    have hln := h.1
    rw [hln] at HL
    have HC : Hid (∀ w (f o t : Nat), IntsAt w a n xs → f < n → o < n → t < n → ∃ b off, ∃ x y u : Int, a = some ⟨b, off, none⟩ ∧ lossL xs ((f : Int), (o : Int), (t : Int)) = x + y - u ∧ -1000 ≤ x ∧ x ≤ 1000 ∧ -1000 ≤ y ∧ y ≤ 1000 ∧ -1000 ≤ u ∧ u ≤ 1000 ∧ w.cell? ⟨b, off + f, none⟩ = some (.int .i64 x) ∧ w.cell? ⟨b, off + o, none⟩ = some (.int .i64 y) ∧ w.cell? ⟨b, off + t, none⟩ = some (.int .i64 u)) := fun w f o t hi l1 l2 l3 => by
      obtain ⟨b, off, e, -, hcc⟩ := hi.cell l1
      have g1 := get_wAt (xs := xs) (k := f) (by rw [hln]; exact l1)
      have g2 := get_wAt (xs := xs) (k := o) (by rw [hln]; exact l2)
      have g3 := get_wAt (xs := xs) (k := t) (by rw [hln]; exact l3)
      obtain ⟨x1, x2⟩ := all_get hall g1
      obtain ⟨y1, y2⟩ := all_get hall g2
      obtain ⟨u1, u2⟩ := all_get hall g3
      exact ⟨b, off, _, _, _, e, rfl, x1, x2, y1, y2, u1, u2, hcc _ _ g1, hcc _ _ g2, hcc _ _ g3⟩
    obtain ⟨ls, hls⟩ : ∃ ls, lnsOf W H Z = ls := ⟨_, rfl⟩
    rw [hls] at hle C2 HL ⊢
    clear hls hw h hok hwl hall hln
    obtain ⟨m, hm⟩ : ∃ m, ls.length = m := ⟨_, rfl⟩
    have HM := Lib.hid hm
    rw [hm] at hle
    clear hm
    go_enter Try.func25, Try.ntmps25
    go_wp2_with fail
    have B0 := Lib.hid (two_new W H Z w)
    generalize (w.alloc (.cells #[.int .i64 W, .int .i64 H, .int .i64 Z] 25)).alloc (.cells #[.int .i64 0, .int .i64 0, .int .i64 0] 31) = W1 at *
    obtain ⟨⟨c0, c1, c2, hlt, hbw⟩, -⟩ := B0.out
    go_wp2_with fail
    refine (C2.out _).mono ?_
    rintro e w2 ⟨v, rfl, hh, hb1⟩
    rw [HM.out] at hh
    have B2 := Lib.hid (B0.out.later hb1)
    have HH := Lib.hid hh
    obtain ⟨ga, gc, rfl⟩ := lines_form hh
    clear hb1 B0 hh c0 c1 c2 hlt hbw C2
    go_wp2_with fail
    generalize W1.heap.size = B at *
    go_loopw [7] (fun i wr => ∃ k : Nat, k ≤ m ∧ i = .int .i64 k ∧ Hid ((ls.take k).find? (badL xs) = none) ∧ Hid (wr.ownsRow B 31 3 (.slice ga m gc) m (lv ls)) ∧ Hid (Two W H Z w wr)) (fun i _ => m - (intOf i).toNat)
    case atStart => exact ⟨0, by omega, rfl, rfl, HH, B2⟩
    case round =>
      clear HH B2
      obtain ⟨k, hk, rfl, hf, HH, B1⟩ := hrel
      by_cases hkn : k < m
      · obtain ⟨⟨lf, lo, lt⟩, hl⟩ : ∃ l, ls[k]? = some l := ⟨_, List.getElem?_eq_getElem (by rw [HM.out]; exact hkn)⟩
        obtain ⟨lf, lo, lt, rfl, rfl, rfl, m1, m2, m3⟩ := HL.out k _ _ _ hl
        have k0 : (0 : Int) ≤ (k : Int) := by omega
        have k1 : (k : Int) < (m : Int) := by omega
        obtain ⟨g, rfl⟩ : ∃ g, ga = some ⟨g, 0, none⟩ := by
          rcases Go.Joins.ownsRow_forms HH.out with ⟨h, h0⟩ | ⟨g, cap, h⟩
          · omega
          · injection h with h1 h2 h3; exact ⟨g, h1⟩
        have hstep : Hid (badL xs ((lf : Int), (lo : Int), (lt : Int)) = false → (ls.take (k + 1)).find? (badL xs) = none) := fun hp => find_step hf.out hl hp
        have hfind : Hid (badL xs ((lf : Int), (lo : Int), (lt : Int)) = true → ls.find? (badL xs) = some ((lf : Int), (lo : Int), (lt : Int))) := fun hp => find_at hf.out hl hp
        have CL : Hid (∀ w : World, w.ownsRow B 31 3 (.slice (some ⟨g, 0, none⟩) m gc) m (lv ls) → w.cell? ⟨g, k * 3, none⟩ = some (.int .i64 (lf : Int)) ∧ w.cell? ⟨g, k * 3 + 1, none⟩ = some (.int .i64 (lo : Int)) ∧ w.cell? ⟨g, k * 3 + 2, none⟩ = some (.int .i64 (lt : Int))) := fun w hh => line_cells hh HM.out hl
        obtain ⟨⟨c0, c1, c2, hlt, hbw⟩, -⟩ := B1.out
        clear hl hf
        go_wp2_with fail
        refine (C1.out _ (HI.out.later hbw)).mono ?_
        rintro e w3 ⟨rfl, hb⟩
        have B3 := Lib.hid (B1.out.later hb)
        have HH3 := Lib.hid (own_below HH.out hb)
        clear hb B1 HH c0 c1 c2 hlt hbw
        obtain ⟨⟨c0, c1, c2, hlt, hbw⟩, hr, hlt2⟩ := B3.out
        obtain ⟨b, off, x, y, u, rfl, hloss, x1, x2, y1, y2, u1, u2, e0, e1, e2⟩ := HC.out _ lf lo lt (HI.out.later hbw) m1 m2 m3
        obtain ⟨l0, l1, l2⟩ := CL.out _ HH3.out
        have f0 : (0 : Int) ≤ (lf : Int) := by omega
        have f1 : (lf : Int) < (n : Int) := by omega
        have o0 : (0 : Int) ≤ (lo : Int) := by omega
        have o1 : (lo : Int) < (n : Int) := by omega
        have t0 : (0 : Int) ≤ (lt : Int) := by omega
        have t1 : (lt : Int) < (n : Int) := by omega
        by_cases hr0 : x + y < u
        · have HE : Hid (ls.find? (badL xs) = some ((lf : Int), (lo : Int), (lt : Int))) := hfind.out (by unfold badL; rw [hloss]; exact decide_eq_true (by omega))
          obtain ⟨r0, r1, r2, g0, g1, g2⟩ := row_facts hr
          have hr3 := row_facts (row_set3 (x' := .int .i64 (lf : Int)) (y' := .int .i64 (lo : Int)) (z' := .int .i64 (lt : Int)) (show (w3.drewN 0).heap[w.heap.size + 1]? = _ from hr))
          have HR3 : Hid (∀ q, (set3 (w3.drewN q) (w.heap.size + 1) (.int .i64 (lf : Int)) (.int .i64 (lo : Int)) (.int .i64 (lt : Int))).heap[w.heap.size + 1]? = some (.cells #[.int .i64 (lf : Int), .int .i64 (lo : Int), .int .i64 (lt : Int)] 31 (0, 0))) := fun q => row_set3 (show (w3.drewN q).heap[w.heap.size + 1]? = _ from hr)
          have HB3 : Hid (∀ q, Below w.heap.size w (set3 (w3.drewN q) (w.heap.size + 1) (.int .i64 (lf : Int)) (.int .i64 (lo : Int)) (.int .i64 (lt : Int)))) := fun q => set3_below (below_drewN q hbw) (Nat.le_succ w.heap.size)
          clear hr hr3 hstep hfind hloss B3 hbw
          go_wp2_with fail
          go_quiet (fail)
          have hq := HR3.out nq
          have hbq := HB3.out nq
          obtain ⟨s0, s1, s2, -, -, -⟩ := row_facts hq
          unfold set3 at s0 s1 s2 hbq
          clear hq
          go_wp2_with fail
          exact bodyPost_ret (v := .tuple #[.agg #[.int .i64 (lf : Int), .int .i64 (lo : Int), .int .i64 (lt : Int)], .bool true]) (by simp [results, Try.results25, go_sem, s0, s1, s2]) rfl ⟨by rw [HE.out]; rfl, hbq⟩
        · have HE : Hid ((ls.take (k + 1)).find? (badL xs) = none) := hstep.out (by unfold badL; rw [hloss]; exact decide_eq_false (by omega))
          have HHq : Hid (∀ q, (w3.drewN q).ownsRow B 31 3 (.slice (some ⟨g, 0, none⟩) m gc) m (lv ls)) := fun q => HH3.out
          have Bq : Hid (∀ q, Two W H Z w (w3.drewN q)) := fun q => B3.out.later (below_drewN q (Below.refl _ _))
          clear hr hstep hfind hloss HH3 B3
          go_wp2_with fail
          go_quiet (fail)
          go_wp2_with fail
          go_roundw
          case rel => exact ⟨k + 1, by omega, by go_num, HE, HHq.out _, Bq.out _⟩
          case measure => simp [intOf]; omega
      · obtain rfl : k = m := by omega
        have hE : Hid (ls.find? (badL xs) = none) := by
          unfold Hid
          rw [← List.take_of_length_le (l := ls) (by rw [HM.out]; exact Nat.le_refl k), hf.out]
        obtain ⟨⟨c0, c1, c2, hlt, hbw⟩, hr, hlt2⟩ := B1.out
        obtain ⟨r0, r1, r2, f0, f1, f2⟩ := row_facts hr
        clear hr HH B1 hf
        go_wp2_with fail
        exact bodyPost_ret (v := .tuple #[.agg #[.int .i64 0, .int .i64 0, .int .i64 0], .bool false]) (by simp [results, Try.results25, go_sem, r0, r1, r2]) rfl ⟨by rw [hE.out]; rfl, by repeat (first | exact hbw | refine set_below ?_ (by omega))⟩
set_option maxHeartbeats 1000000 in
set_option maxRecDepth 100000 in
theorem implFalling (W H Z : Int) {a : Option Addr} {n c : Nat} {xs : List Int} (w : World) (hx : n ≤ 1048576) (h : IntsAt w a n xs) :
    Calls Try.prog 12 #[.agg #[.int .i64 W, .int .i64 H, .int .i64 Z], .slice a n c] w (QB (fallB W H Z xs) w) := by
  have C1 := Lib.hid (fun w (hi : IntsAt w a n xs) => implWeightsOk W H Z (c := c) w hx hi)
  have C2 := Lib.hid (fun w (hi : IntsAt w a n xs) => implBroken W H Z (c := c) w hx hi)
  have HI := Lib.hid h
  unfold fallB
  generalize brkL W H Z xs = r at *
  generalize wOkB W H Z xs = y at *
  clear h
  cases y
  · go_enter Try.func12, Try.ntmps12
    go_wp2_with fail
    have B0 := Lib.hid (box_new W H Z w)
    generalize w.alloc (.cells #[.int .i64 W, .int .i64 H, .int .i64 Z] 25) = W1 at *
    obtain ⟨c0, c1, c2, hlt, hb1⟩ := B0.out
    go_wp2_with fail
    refine (C1.out _ (HI.out.later hb1)).mono ?_
    rintro e w1 ⟨rfl, hb⟩
    have B1 := Lib.hid (B0.out.later hb)
    clear c0 c1 c2 hlt hb1 hb B0
    go_wp2_with fail
    go_ret
    exact ⟨rfl, B1.out.2.2.2.2⟩
  · rcases r with _ | ⟨f, o, t⟩
    all_goals
      go_enter Try.func12, Try.ntmps12
      go_wp2_with fail
      have B0 := Lib.hid (box_new W H Z w)
      generalize w.alloc (.cells #[.int .i64 W, .int .i64 H, .int .i64 Z] 25) = W1 at *
      obtain ⟨c0, c1, c2, hlt, hb1⟩ := B0.out
      go_wp2_with fail
      refine (C1.out _ (HI.out.later hb1)).mono ?_
      rintro e w1 ⟨rfl, hb⟩
      have B1 := Lib.hid (B0.out.later hb)
      clear c0 c1 c2 hlt hb1 hb B0
      obtain ⟨c0, c1, c2, hlt, hb1⟩ := B1.out
      go_wp2_with fail
      refine (C2.out _ (HI.out.later hb1)).mono ?_
      rintro e w2 ⟨rfl, hb⟩
      have B2 := Lib.hid (B1.out.later hb)
      clear c0 c1 c2 hlt hb1 hb B1
      unfold lineV
      go_wp2_with fail
      go_ret
      exact ⟨rfl, B2.out.2.2.2.2.alloc B2.out.2.2.2.2.size _⟩
set_option maxHeartbeats 1000000 in
set_option maxRecDepth 100000 in
theorem specFalling (W H Z : Int) {a : Option Addr} {n c : Nat} {xs : List Int} (w : World) (hx : n ≤ 1048576) (h : IntsAt w a n xs) :
    Calls Try.prog 24 #[.agg #[.int .i64 W, .int .i64 H, .int .i64 Z], .slice a n c] w (QB (fallB W H Z xs) w) := by
  have C1 := Lib.hid (fun w (hi : IntsAt w a n xs) => specWeightsOk W H Z (c := c) w hx hi)
  have C2 := Lib.hid (fun w (hi : IntsAt w a n xs) => specBroken W H Z (c := c) w hx hi)
  have HI := Lib.hid h
  unfold fallB
  generalize brkL W H Z xs = r at *
  generalize wOkB W H Z xs = y at *
  clear h
  rcases r with _ | ⟨f, o, t⟩
  all_goals
    cases y
    all_goals
      go_enter Try.func24, Try.ntmps24
      go_wp2_with fail
      have B0 := Lib.hid (box_new W H Z w)
      generalize w.alloc (.cells #[.int .i64 W, .int .i64 H, .int .i64 Z] 25) = W1 at *
      obtain ⟨c0, c1, c2, hlt, hb1⟩ := B0.out
      go_wp2_with fail
      refine (C2.out _ (HI.out.later hb1)).mono ?_
      rintro e w1 ⟨rfl, hb⟩
      have B1 := Lib.hid (B0.out.later hb)
      clear c0 c1 c2 hlt hb1 hb B0
      first
        | have B2 := Lib.hid (B1.out.later ((Below.refl _ _).alloc (Nat.le_refl _) (.cells #[.int .i64 f, .int .i64 o, .int .i64 t] 31)))
        | have B2 := Lib.hid (B1.out.later ((Below.refl _ _).alloc (Nat.le_refl _) (.cells #[.int .i64 0, .int .i64 0, .int .i64 0] 31)))
      obtain ⟨c0, c1, c2, hlt, hb1⟩ := B2.out
      unfold lineV
      go_wp2_with fail
      refine (C1.out _ (HI.out.later hb1)).mono ?_
      rintro e w2 ⟨rfl, hb⟩
      have B3 := Lib.hid (B2.out.later hb)
      clear c0 c1 c2 hlt hb1 hb B1 B2
      go_wp2_with fail
      go_ret
      exact ⟨rfl, B3.out.2.2.2.2⟩
end Go.Proofs.Ytdeciglcfabgpaa
