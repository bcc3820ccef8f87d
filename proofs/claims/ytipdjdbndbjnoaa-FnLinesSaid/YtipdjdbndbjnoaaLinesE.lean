/- LinesThrough and IsLoneHole of both. -/
import Derived.Test.YtipdjdbndbjnoaaLinesD
namespace Go.Proofs.Ytipdjdbndbjnoaa
open Go.RowKit
set_option linter.unusedVariables false
set_option linter.unusedSimpArgs false
set_option maxHeartbeats 1000000 in
set_option maxRecDepth 100000 in
theorem implThrough (W H Z K : Int) (w : World) : Calls Try.prog 17 #[.agg #[.int .i64 W, .int .i64 H, .int .i64 Z], .int .i64 K] w (OwnLines (thrL (lnsOf W H Z) K) w) := by
  obtain ⟨xs, hxs⟩ : ∃ xs, lnsOf W H Z = xs := ⟨_, rfl⟩
  have hle := lnsOf_le W H Z
  have C1 := Lib.hid (fun w => implLinesA W H Z w)
  rw [hxs] at hle C1 ⊢
  clear hxs
  obtain ⟨n, hn⟩ : ∃ n, xs.length = n := ⟨_, rfl⟩
  have HN := Lib.hid hn
  rw [hn] at hle
  clear hn
  obtain ⟨i0, hi, hz0, hz1, hz2⟩ : ∃ i, Try.prog.info? 31 = some i ∧ i.zero = some (.agg #[.int .i64 0, .int .i64 0, .int .i64 0]) ∧ i.size = 3 ∧ i.bytes = 24 := ⟨_, by rfl, by rfl, by rfl, by rfl⟩
  go_enter Try.func17, Try.ntmps17
  go_wp2_with fail
  have B00 := Lib.hid (box_new W H Z w)
  have hS : (w.alloc (.cells #[.int .i64 W, .int .i64 H, .int .i64 Z] 25)).heap.size = w.heap.size + 1 := by simp
  generalize w.alloc (.cells #[.int .i64 W, .int .i64 H, .int .i64 Z] 25) = W1 at *
  have HL0 : Hid (Held (W1.alloc (.cells #[] 31)) (w.heap.size + 1) (.slice (some ⟨w.heap.size + 1, 0, none⟩) 0 0) 0 []) := by
    refine ⟨rfl, ?_⟩
    rw [← hS]
    exact World.ownsRow_made W1 #[] 0 (Nat.le_refl _) (by unfold maxLen; omega) rfl
  have B0 := Lib.hid (B00.out.later ((Below.refl _ _).alloc (Nat.le_refl _) (.cells #[] 31)))
  have hS2 : w.heap.size + 2 ≤ (W1.alloc (.cells #[] 31)).heap.size := by simp; omega
  generalize W1.alloc (.cells #[] 31) = W2 at *
  clear B00 hS
  refine (C1.out _).mono ?_
  rintro e w3 ⟨hv, rfl, hh, hb3⟩
  rw [HN.out] at hh
  have B3 := Lib.hid (B0.out.later hb3)
  have HL3 := Lib.hid (HL0.out.below hb3)
  have HH3 := Lib.hid hh
  obtain ⟨ga, gc, rfl⟩ := lines_form hh
  clear hh B0 HL0 hb3
  obtain ⟨B, hB⟩ : ∃ B, W2.heap.size = B := ⟨_, rfl⟩
  rw [hB] at HH3 hS2
  clear hB
  have HA3 : Hid (∀ g0, ga = some ⟨g0, 0, none⟩ → (Value.slice (some ⟨w.heap.size + 1, 0, none⟩) 0 0).ownBlock ≠ some g0) := fun g0 h1 h2 => by
    have h3 := (HH3.out.lt g0 (by rw [h1]; rfl)).1
    simp [Value.ownBlock] at h2
    omega
  go_wp2_with fail
  go_loopw [5, 12] (fun s i wr => ∃ (k m : Nat) (v : Value) (ys : List Ln), k ≤ n ∧ m ≤ k ∧ i = .int .i64 k ∧ v = s ∧ Hid (ys = (xs.take k).filter (onB K)) ∧ Hid (Held wr (w.heap.size + 1) v m ys) ∧ Hid (wr.ownsRow B 31 3 (.slice ga n gc) n (lv xs)) ∧ Hid (∀ g0, ga = some ⟨g0, 0, none⟩ → v.ownBlock ≠ some g0) ∧ Hid (Box w.heap.size W H Z w wr)) (fun _ i _ => n - (intOf i).toNat)
  case atStart => exact ⟨0, 0, _, [], by omega, by omega, rfl, rfl, rfl, HL3, HH3, HA3, B3⟩
  case round =>
    clear HL3 HH3 HA3 B3
    obtain ⟨k, m, v, ys, hk, hm, rfl, rfl, hys, HL, HH, HA, B4⟩ := hrel
    by_cases hkn : k < n
    · obtain ⟨⟨f, o, t⟩, hl⟩ : ∃ l, xs[k]? = some l := ⟨_, List.getElem?_eq_getElem (by rw [HN.out]; exact hkn)⟩
      have k0 : (0 : Int) ≤ (k : Int) := by omega
      have k1 : (k : Int) < (n : Int) := by omega
      obtain ⟨g, rfl⟩ : ∃ g, ga = some ⟨g, 0, none⟩ := by
        rcases Go.Joins.ownsRow_forms HH.out with ⟨h, h0⟩ | ⟨g, cap, h⟩
        · omega
        · injection h with h1 h2 h3; exact ⟨g, h1⟩
      obtain ⟨l0, l1, l2⟩ := line_cells HH.out HN.out hl
      have hln : Hid (m ≤ 1000000000) := by unfold Hid; omega
      have hbl : Below wr.heap.size wr (wr.alloc (.cells #[.int .i64 f, .int .i64 o, .int .i64 t] 31)) := (Below.refl _ _).alloc (Nat.le_refl _) _
      have HLa := Lib.hid (HL.out.below hbl)
      have HHa := Lib.hid (own_below HH.out hbl)
      have Ba := Lib.hid (B4.out.later hbl)
      have hpl : wr.heap.size < (wr.alloc (.cells #[.int .i64 f, .int .i64 o, .int .i64 t] 31)).heap.size := by simp
      have hrow := heap_alloc_new wr (.cells #[.int .i64 f, .int .i64 o, .int .i64 t] 31)
      clear hbl HL HH B4
      go_wp2_with fail
      clear l0 l1 l2
      generalize wr.alloc (.cells #[.int .i64 f, .int .i64 o, .int .i64 t] 31) = wa at *
      refine (implContains f o t K _).mono ?_
      rintro e wb ⟨rfl, hb⟩
      have HLb := Lib.hid (HLa.out.below hb)
      have HHb := Lib.hid (own_below HHa.out hb)
      have Bb := Lib.hid (Ba.out.later hb)
      obtain ⟨r0, r1, r2, -, -, -⟩ := row_facts (row_later hrow hb hpl)
      clear HLa HHa Ba hrow hb hpl
      cases hc : onB K (f, o, t)
      · have HF := Lib.hid (filter_no hl hc)
        clear hl hc r0 r1 r2
        go_wp2_with fail
        go_roundw
        case rel => exact ⟨k + 1, m, _, ys, by omega, by omega, by go_num, rfl, by unfold Hid; rw [HF.out]; exact hys.out, HLb, HHb, HA, Bb⟩
        case measure => simp [intOf]; omega
      · have HF := Lib.hid (filter_yes hl hc)
        clear hl hc
        have hbz : Hid (w.heap.size + 1 ≤ wb.heap.size) := Bb.out.2.2.2.1
        go_wp2_with (at_builtin; refine wpList_append_line rfl (.tmp 19) (.tmp 21) 27 rfl (w.heap.size + 1) 31 i0 (.agg #[.int .i64 0, .int .i64 0, .int .i64 0]) Try.underlying27 hi hz0 hz1 hz2 rfl _ _ ys rfl HLb.out.2 _ rfl rfl hln.out hbz.out ?_; intro g' cap' w7 hown' hgrow hb2 hat)
        have hl7 : ys.length = m := HLb.out.1
        have HL7 : Hid (Held w7 (w.heap.size + 1) (.slice (some ⟨g', 0, none⟩) (m + 1) cap') (m + 1) (ys ++ [((f : Int), (o : Int), (t : Int))])) := ⟨by rw [List.length_append, hl7]; rfl, hown'⟩
        have hne := HA.out g rfl
        have HH7 : Hid (w7.ownsRow B 31 3 (.slice (some ⟨g, 0, none⟩) n gc) n (lv xs)) := (own_below HHb.out ((Below.refl _ _).alloc (Nat.le_refl _) _)).kept hgrow (.inr (fun h => hne h.symm))
        have B7 := Lib.hid (Bb.out.kept hb2 (Nat.lt_succ_self _) (Nat.le_succ _))
        have HA7 : Hid (∀ g0, some (⟨g, 0, none⟩ : Addr) = some ⟨g0, 0, none⟩ → (Value.slice (some ⟨g', 0, none⟩) (m + 1) cap').ownBlock ≠ some g0) := fun g0 h1 h2 => by
          have hg0 : g = g0 := by simpa using h1
          have hg' : g' = g0 := by simpa [Value.ownBlock] using h2
          rw [← hg0] at hg'
          rcases hat with h3 | h3
          · exact hne ((show v.ownBlock = some g' from h3).trans (by rw [hg']))
          · have h4 := (HHb.out.lt g rfl).2
            have h5 : g' = wb.heap.size + 1 := h3
            omega
        clear hown' hgrow hb2 hl7 hbz HLb HHb Bb hln hat hne r0 r1 r2
        go_wp2_with fail
        go_roundw
        case rel => exact ⟨k + 1, m + 1, _, _, by omega, by omega, by go_num, rfl, by unfold Hid; rw [HF.out, hys.out], HL7, HH7, HA7, B7⟩
        case measure => simp [intOf]; omega
    · obtain rfl : k = n := by omega
      have hp : Hid (OwnLines (thrL xs K) w (.returned v) wr) := by
        refine ⟨_, rfl, ?_, B4.out.2.2.2.2⟩
        have e : thrL xs K = ys := by rw [hys.out, List.take_of_length_le (by rw [HN.out]; exact Nat.le_refl _)]; rfl
        rw [e, HL.out.1]
        exact own_base HL.out.2 (Nat.le_succ _)
      clear HL HH B4
      go_wp2_with fail
      go_ret
      exact hp.out
set_option maxHeartbeats 1000000 in
set_option maxRecDepth 100000 in
theorem specThrough (W H Z K : Int) (w : World) : Calls Try.prog 30 #[.agg #[.int .i64 W, .int .i64 H, .int .i64 Z], .int .i64 K] w (OwnLines (thrL (lnsOf W H Z) K) w) := by
  obtain ⟨xs, hxs⟩ : ∃ xs, lnsOf W H Z = xs := ⟨_, rfl⟩
  have hle := lnsOf_le W H Z
  have C1 := Lib.hid (fun w => specLinesA W H Z w)
  rw [hxs] at hle C1 ⊢
  clear hxs
  obtain ⟨n, hn⟩ : ∃ n, xs.length = n := ⟨_, rfl⟩
  have HN := Lib.hid hn
  rw [hn] at hle
  clear hn
  obtain ⟨i0, hi, hz0, hz1, hz2⟩ : ∃ i, Try.prog.info? 31 = some i ∧ i.zero = some (.agg #[.int .i64 0, .int .i64 0, .int .i64 0]) ∧ i.size = 3 ∧ i.bytes = 24 := ⟨_, by rfl, by rfl, by rfl, by rfl⟩
  go_enter Try.func30, Try.ntmps30
  go_wp2_with fail
  have B00 := Lib.hid (box_new W H Z w)
  have hS : (w.alloc (.cells #[.int .i64 W, .int .i64 H, .int .i64 Z] 25)).heap.size = w.heap.size + 1 := by simp
  generalize w.alloc (.cells #[.int .i64 W, .int .i64 H, .int .i64 Z] 25) = W1 at *
  have HL0 : Hid (Held (W1.alloc (.cells #[] 31)) (w.heap.size + 1) (.slice (some ⟨w.heap.size + 1, 0, none⟩) 0 0) 0 []) := by
    refine ⟨rfl, ?_⟩
    rw [← hS]
    exact World.ownsRow_made W1 #[] 0 (Nat.le_refl _) (by unfold maxLen; omega) rfl
  have B0 := Lib.hid (B00.out.later ((Below.refl _ _).alloc (Nat.le_refl _) (.cells #[] 31)))
  have hS2 : w.heap.size + 2 ≤ (W1.alloc (.cells #[] 31)).heap.size := by simp; omega
  generalize W1.alloc (.cells #[] 31) = W2 at *
  clear B00 hS
  refine (C1.out _).mono ?_
  rintro e w3 ⟨hv, rfl, hh, hb3⟩
  rw [HN.out] at hh
  have B3 := Lib.hid (B0.out.later hb3)
  have HL3 := Lib.hid (HL0.out.below hb3)
  have HH3 := Lib.hid hh
  obtain ⟨ga, gc, rfl⟩ := lines_form hh
  clear hh B0 HL0 hb3
  obtain ⟨B, hB⟩ : ∃ B, W2.heap.size = B := ⟨_, rfl⟩
  rw [hB] at HH3 hS2
  clear hB
  have HA3 : Hid (∀ g0, ga = some ⟨g0, 0, none⟩ → (Value.slice (some ⟨w.heap.size + 1, 0, none⟩) 0 0).ownBlock ≠ some g0) := fun g0 h1 h2 => by
    have h3 := (HH3.out.lt g0 (by rw [h1]; rfl)).1
    simp [Value.ownBlock] at h2
    omega
  go_wp2_with fail
  go_loopw [5, 7] (fun s i wr => ∃ (k m : Nat) (v : Value) (ys : List Ln), k ≤ n ∧ m ≤ k ∧ i = .int .i64 k ∧ v = s ∧ Hid (ys = (xs.take k).filter (onB K)) ∧ Hid (Held wr (w.heap.size + 1) v m ys) ∧ Hid (wr.ownsRow B 31 3 (.slice ga n gc) n (lv xs)) ∧ Hid (∀ g0, ga = some ⟨g0, 0, none⟩ → v.ownBlock ≠ some g0) ∧ Hid (Box w.heap.size W H Z w wr)) (fun _ i _ => n - (intOf i).toNat)
  case atStart => exact ⟨0, 0, _, [], by omega, by omega, rfl, rfl, rfl, HL3, HH3, HA3, B3⟩
  case round =>
    clear HL3 HH3 HA3 B3
    obtain ⟨k, m, v, ys, hk, hm, rfl, rfl, hys, HL, HH, HA, B4⟩ := hrel
    by_cases hkn : k < n
    · obtain ⟨⟨f, o, t⟩, hl⟩ : ∃ l, xs[k]? = some l := ⟨_, List.getElem?_eq_getElem (by rw [HN.out]; exact hkn)⟩
      have k0 : (0 : Int) ≤ (k : Int) := by omega
      have k1 : (k : Int) < (n : Int) := by omega
      obtain ⟨g, rfl⟩ : ∃ g, ga = some ⟨g, 0, none⟩ := by
        rcases Go.Joins.ownsRow_forms HH.out with ⟨h, h0⟩ | ⟨g, cap, h⟩
        · omega
        · injection h with h1 h2 h3; exact ⟨g, h1⟩
      obtain ⟨l0, l1, l2⟩ := line_cells HH.out HN.out hl
      have hln : Hid (m ≤ 1000000000) := by unfold Hid; omega
      cases e1 : f == K
      · cases e2 : o == K
        · cases e3 : t == K
          · have hc : onB K (f, o, t) = false := by simp only [onB, e1, e2, e3]; rfl
            have HF := Lib.hid (filter_no hl hc)
            clear hl hc
            go_wp2_with fail
            clear l0 l1 l2
            go_roundw
            case rel => exact ⟨k + 1, m, _, ys, by omega, by omega, by go_num, rfl, by unfold Hid; rw [HF.out]; exact hys.out, HL, HH, HA, B4⟩
            case measure => simp [intOf]; omega
          · have hc : onB K (f, o, t) = true := by simp only [onB, e1, e2, e3]; rfl
            have HF := Lib.hid (filter_yes hl hc)
            clear hl hc
            have hbz : Hid (w.heap.size + 1 ≤ wr.heap.size) := B4.out.2.2.2.1
            go_wp2_with (at_builtin; refine wpList_append_line rfl (.tmp 42) (.tmp 47) 27 rfl (w.heap.size + 1) 31 i0 (.agg #[.int .i64 0, .int .i64 0, .int .i64 0]) Try.underlying27 hi hz0 hz1 hz2 rfl _ _ ys rfl HL.out.2 _ rfl rfl hln.out hbz.out ?_; intro g' cap' w7 hown' hgrow hb2 hat)
            have hl7 : ys.length = m := HL.out.1
            have HL7 : Hid (Held w7 (w.heap.size + 1) (.slice (some ⟨g', 0, none⟩) (m + 1) cap') (m + 1) (ys ++ [((f : Int), (o : Int), (t : Int))])) := ⟨by rw [List.length_append, hl7]; rfl, hown'⟩
            have hne := HA.out g rfl
            have HH7 : Hid (w7.ownsRow B 31 3 (.slice (some ⟨g, 0, none⟩) n gc) n (lv xs)) := (own_below HH.out ((Below.refl _ _).alloc (Nat.le_refl _) _)).kept hgrow (.inr (fun h => hne h.symm))
            have B7 := Lib.hid (B4.out.kept hb2 (Nat.lt_succ_self _) (Nat.le_succ _))
            have HA7 : Hid (∀ g0, some (⟨g, 0, none⟩ : Addr) = some ⟨g0, 0, none⟩ → (Value.slice (some ⟨g', 0, none⟩) (m + 1) cap').ownBlock ≠ some g0) := fun g0 h1 h2 => by
              have hg0 : g = g0 := by simpa using h1
              have hg' : g' = g0 := by simpa [Value.ownBlock] using h2
              rw [← hg0] at hg'
              rcases hat with h3 | h3
              · exact hne ((show v.ownBlock = some g' from h3).trans (by rw [hg']))
              · have h4 := (HH.out.lt g rfl).2
                have h5 : g' = wr.heap.size + 1 := h3
                omega
            clear hown' hgrow hb2 hl7 hbz HL HH B4 hln hat hne l0 l1 l2
            go_wp2_with fail
            go_roundw
            case rel => exact ⟨k + 1, m + 1, _, _, by omega, by omega, by go_num, rfl, by unfold Hid; rw [HF.out, hys.out], HL7, HH7, HA7, B7⟩
            case measure => simp [intOf]; omega
        · have hc : onB K (f, o, t) = true := by simp only [onB, e1, e2]; rfl
          have HF := Lib.hid (filter_yes hl hc)
          clear hl hc
          have hbz : Hid (w.heap.size + 1 ≤ wr.heap.size) := B4.out.2.2.2.1
          go_wp2_with (at_builtin; refine wpList_append_line rfl (.tmp 42) (.tmp 47) 27 rfl (w.heap.size + 1) 31 i0 (.agg #[.int .i64 0, .int .i64 0, .int .i64 0]) Try.underlying27 hi hz0 hz1 hz2 rfl _ _ ys rfl HL.out.2 _ rfl rfl hln.out hbz.out ?_; intro g' cap' w7 hown' hgrow hb2 hat)
          have hl7 : ys.length = m := HL.out.1
          have HL7 : Hid (Held w7 (w.heap.size + 1) (.slice (some ⟨g', 0, none⟩) (m + 1) cap') (m + 1) (ys ++ [((f : Int), (o : Int), (t : Int))])) := ⟨by rw [List.length_append, hl7]; rfl, hown'⟩
          have hne := HA.out g rfl
          have HH7 : Hid (w7.ownsRow B 31 3 (.slice (some ⟨g, 0, none⟩) n gc) n (lv xs)) := (own_below HH.out ((Below.refl _ _).alloc (Nat.le_refl _) _)).kept hgrow (.inr (fun h => hne h.symm))
          have B7 := Lib.hid (B4.out.kept hb2 (Nat.lt_succ_self _) (Nat.le_succ _))
          have HA7 : Hid (∀ g0, some (⟨g, 0, none⟩ : Addr) = some ⟨g0, 0, none⟩ → (Value.slice (some ⟨g', 0, none⟩) (m + 1) cap').ownBlock ≠ some g0) := fun g0 h1 h2 => by
            have hg0 : g = g0 := by simpa using h1
            have hg' : g' = g0 := by simpa [Value.ownBlock] using h2
            rw [← hg0] at hg'
            rcases hat with h3 | h3
            · exact hne ((show v.ownBlock = some g' from h3).trans (by rw [hg']))
            · have h4 := (HH.out.lt g rfl).2
              have h5 : g' = wr.heap.size + 1 := h3
              omega
          clear hown' hgrow hb2 hl7 hbz HL HH B4 hln hat hne l0 l1 l2
          go_wp2_with fail
          go_roundw
          case rel => exact ⟨k + 1, m + 1, _, _, by omega, by omega, by go_num, rfl, by unfold Hid; rw [HF.out, hys.out], HL7, HH7, HA7, B7⟩
          case measure => simp [intOf]; omega
      · have hc : onB K (f, o, t) = true := by simp only [onB, e1]; rfl
        have HF := Lib.hid (filter_yes hl hc)
        clear hl hc
        have hbz : Hid (w.heap.size + 1 ≤ wr.heap.size) := B4.out.2.2.2.1
        go_wp2_with (at_builtin; refine wpList_append_line rfl (.tmp 42) (.tmp 47) 27 rfl (w.heap.size + 1) 31 i0 (.agg #[.int .i64 0, .int .i64 0, .int .i64 0]) Try.underlying27 hi hz0 hz1 hz2 rfl _ _ ys rfl HL.out.2 _ rfl rfl hln.out hbz.out ?_; intro g' cap' w7 hown' hgrow hb2 hat)
        have hl7 : ys.length = m := HL.out.1
        have HL7 : Hid (Held w7 (w.heap.size + 1) (.slice (some ⟨g', 0, none⟩) (m + 1) cap') (m + 1) (ys ++ [((f : Int), (o : Int), (t : Int))])) := ⟨by rw [List.length_append, hl7]; rfl, hown'⟩
        have hne := HA.out g rfl
        have HH7 : Hid (w7.ownsRow B 31 3 (.slice (some ⟨g, 0, none⟩) n gc) n (lv xs)) := (own_below HH.out ((Below.refl _ _).alloc (Nat.le_refl _) _)).kept hgrow (.inr (fun h => hne h.symm))
        have B7 := Lib.hid (B4.out.kept hb2 (Nat.lt_succ_self _) (Nat.le_succ _))
        have HA7 : Hid (∀ g0, some (⟨g, 0, none⟩ : Addr) = some ⟨g0, 0, none⟩ → (Value.slice (some ⟨g', 0, none⟩) (m + 1) cap').ownBlock ≠ some g0) := fun g0 h1 h2 => by
          have hg0 : g = g0 := by simpa using h1
          have hg' : g' = g0 := by simpa [Value.ownBlock] using h2
          rw [← hg0] at hg'
          rcases hat with h3 | h3
          · exact hne ((show v.ownBlock = some g' from h3).trans (by rw [hg']))
          · have h4 := (HH.out.lt g rfl).2
            have h5 : g' = wr.heap.size + 1 := h3
            omega
        clear hown' hgrow hb2 hl7 hbz HL HH B4 hln hat hne l0 l1 l2
        go_wp2_with fail
        go_roundw
        case rel => exact ⟨k + 1, m + 1, _, _, by omega, by omega, by go_num, rfl, by unfold Hid; rw [HF.out, hys.out], HL7, HH7, HA7, B7⟩
        case measure => simp [intOf]; omega
    · obtain rfl : k = n := by omega
      have hp : Hid (OwnLines (thrL xs K) w (.returned v) wr) := by
        refine ⟨_, rfl, ?_, B4.out.2.2.2.2⟩
        have e : thrL xs K = ys := by rw [hys.out, List.take_of_length_le (by rw [HN.out]; exact Nat.le_refl _)]; rfl
        rw [e, HL.out.1]
        exact own_base HL.out.2 (Nat.le_succ _)
      clear HL HH B4
      go_wp2_with fail
      go_ret
      exact hp.out
theorem thrL_le (xs : List Ln) (k : Int) : (thrL xs k).length ≤ xs.length := List.length_filter_le _ _
/-- Whether an index is that of a hole that no line contains. -/
def loneB (W H Z k : Int) : Bool := holeB W H Z k && ((thrL (lnsOf W H Z) k).length == 0)
set_option maxRecDepth 100000 in
theorem implLone (W H Z k : Int) (w : World) : Calls Try.prog 16 #[.agg #[.int .i64 W, .int .i64 H, .int .i64 Z], .int .i64 k] w fun e w' => e = .returned (.bool (loneB W H Z k)) ∧ Below w.heap.size w w' := by
  have C1 := Lib.hid (fun w => implHole W H Z k w)
  have C2 := Lib.hid (fun w => implThrough W H Z k w)
  have hle := Nat.le_trans (thrL_le (lnsOf W H Z) k) (lnsOf_le W H Z)
  unfold loneB
  generalize thrL (lnsOf W H Z) k = xs at *
  obtain ⟨n, hn⟩ : ∃ n, xs.length = n := ⟨_, rfl⟩
  have HN := Lib.hid hn
  rw [hn] at hle ⊢
  clear hn
  cases h1 : holeB W H Z k
  · rw [h1] at C1
    clear h1
    go_enter Try.func16, Try.ntmps16
    go_wp2_with fail
    have B0 := Lib.hid (box_new W H Z w)
    generalize w.alloc (.cells #[.int .i64 W, .int .i64 H, .int .i64 Z] 25) = W1 at *
    refine (C1.out _).mono ?_
    rintro e w1 ⟨rfl, hb⟩
    have B1 := Lib.hid (B0.out.later hb)
    obtain ⟨c0, c1, c2, hlt, hb1⟩ := B0.out.later hb
    clear hb B0
    go_wp2_with fail
    go_ret
    exact ⟨rfl, hb1⟩
  · rw [h1] at C1
    clear h1
    go_enter Try.func16, Try.ntmps16
    go_wp2_with fail
    have B0 := Lib.hid (box_new W H Z w)
    generalize w.alloc (.cells #[.int .i64 W, .int .i64 H, .int .i64 Z] 25) = W1 at *
    refine (C1.out _).mono ?_
    rintro e w1 ⟨rfl, hb⟩
    have B1 := Lib.hid (B0.out.later hb)
    obtain ⟨c0, c1, c2, hlt, hb1⟩ := B0.out.later hb
    clear hb B0
    go_wp2_with fail
    refine (C2.out _).mono ?_
    rintro e w2 ⟨v, rfl, hh, hb⟩
    rw [HN.out] at hh
    obtain ⟨ga, gc, rfl⟩ := lines_form hh
    have B2 := Lib.hid (B1.out.later hb)
    clear hb B1 c0 c1 c2 hlt hb1 hh
    cases h0 : n == 0
    · have h0' : ((n : Int) == 0) = false := by simp at h0 ⊢; omega
      have H0 := Lib.hid h0
      clear h0
      go_wp2_with fail
      go_ret
      exact ⟨ret_bool (by rw [H0.out]; rfl), B2.out.2.2.2.2⟩
    · have h0' : ((n : Int) == 0) = true := by simp at h0 ⊢; omega
      have H0 := Lib.hid h0
      clear h0
      go_wp2_with fail
      go_ret
      exact ⟨ret_bool (by rw [H0.out]; rfl), B2.out.2.2.2.2⟩
set_option maxRecDepth 100000 in
theorem specLone (W H Z k : Int) (w : World) : Calls Try.prog 32 #[.agg #[.int .i64 W, .int .i64 H, .int .i64 Z], .int .i64 k] w fun e w' => e = .returned (.bool (loneB W H Z k)) ∧ Below w.heap.size w w' := by
  have C1 := Lib.hid (fun w => specHole W H Z k w)
  have C2 := Lib.hid (fun w => specThrough W H Z k w)
  have hle := Nat.le_trans (thrL_le (lnsOf W H Z) k) (lnsOf_le W H Z)
  unfold loneB
  generalize thrL (lnsOf W H Z) k = xs at *
  obtain ⟨n, hn⟩ : ∃ n, xs.length = n := ⟨_, rfl⟩
  have HN := Lib.hid hn
  rw [hn] at hle ⊢
  clear hn
  cases h1 : holeB W H Z k
  · rw [h1] at C1
    clear h1
    go_enter Try.func32, Try.ntmps32
    go_wp2_with fail
    have B0 := Lib.hid (box_new W H Z w)
    generalize w.alloc (.cells #[.int .i64 W, .int .i64 H, .int .i64 Z] 25) = W1 at *
    refine (C1.out _).mono ?_
    rintro e w1 ⟨rfl, hb⟩
    have B1 := Lib.hid (B0.out.later hb)
    obtain ⟨c0, c1, c2, hlt, hb1⟩ := B0.out.later hb
    clear hb B0
    go_wp2_with fail
    go_ret
    exact ⟨rfl, hb1⟩
  · rw [h1] at C1
    clear h1
    go_enter Try.func32, Try.ntmps32
    go_wp2_with fail
    have B0 := Lib.hid (box_new W H Z w)
    generalize w.alloc (.cells #[.int .i64 W, .int .i64 H, .int .i64 Z] 25) = W1 at *
    refine (C1.out _).mono ?_
    rintro e w1 ⟨rfl, hb⟩
    have B1 := Lib.hid (B0.out.later hb)
    obtain ⟨c0, c1, c2, hlt, hb1⟩ := B0.out.later hb
    clear hb B0
    go_wp2_with fail
    refine (C2.out _).mono ?_
    rintro e w2 ⟨v, rfl, hh, hb⟩
    rw [HN.out] at hh
    obtain ⟨ga, gc, rfl⟩ := lines_form hh
    have B2 := Lib.hid (B1.out.later hb)
    clear hb B1 c0 c1 c2 hlt hb1 hh
    cases h0 : n == 0
    · have h0' : ((n : Int) == 0) = false := by simp at h0 ⊢; omega
      have H0 := Lib.hid h0
      clear h0
      go_wp2_with fail
      go_ret
      exact ⟨ret_bool (by rw [H0.out]; rfl), B2.out.2.2.2.2⟩
    · have h0' : ((n : Int) == 0) = true := by simp at h0 ⊢; omega
      have H0 := Lib.hid h0
      clear h0
      go_wp2_with fail
      go_ret
      exact ⟨ret_bool (by rw [H0.out]; rfl), B2.out.2.2.2.2⟩
end Go.Proofs.Ytipdjdbndbjnoaa
