/- UndoJump, UndosOf of both. -/
import Derived.Test.YtbnfhagfbfacbaaUndosC
namespace Go.Proofs.Ytbnfhagfbfacbaa
open Go.RowKit
set_option linter.unusedVariables false
set_option linter.unusedSimpArgs false
theorem undo_set {W H Z P : Int} {l : Ln} (h : undoB W H Z P l = true) : ∃ a b N z p f o t, Set5 W H Z P l a b N z p f o t ∧ aftN p f o t = true := by
  simp only [undoB, Bool.and_eq_true] at h
  obtain ⟨a, b, N, z, p, f, o, t, S⟩ := set5 h.1.1 h.1.2
  exact ⟨a, b, N, z, p, f, o, t, S, by rw [← S.aft]; exact h.2⟩
theorem back_yes {W H Z P : Int} {l : Ln} (h : undoB W H Z P l = true) : backB W H Z P l = (flipL P l, true) := by simp [backB, h]
theorem back_no {W H Z P : Int} {l : Ln} (h : undoB W H Z P l = false) : backB W H Z P l = (P, false) := by simp [backB, h]
set_option maxHeartbeats 1000000 in
set_option maxRecDepth 100000 in
theorem implBack (W H Z P f o t : Int) (hP : P ≤ 9223372036854775807) (w : World) : Calls Try.prog 15 #[.agg #[.int .i64 W, .int .i64 H, .int .i64 Z], .int .i64 P, .agg #[.int .i64 f, .int .i64 o, .int .i64 t]] w (QP (backB W H Z P (f, o, t)) w) := by
  have C1 := Lib.hid (fun w => implCanU W H Z P f o t hP w)
  cases hj : undoB W H Z P (f, o, t)
  · rw [back_no hj]
    rw [hj] at C1
    clear hj hP
    go_enter Try.func15, Try.ntmps15
    go_wp2_with fail
    have B0 := Lib.hid (bx2_new W H Z f o t 25 33 w)
    generalize (w.alloc (.cells #[.int .i64 W, .int .i64 H, .int .i64 Z] 25)).alloc (.cells #[.int .i64 f, .int .i64 o, .int .i64 t] 33) = W1 at *
    obtain ⟨⟨c0, c1, c2, hlt, hb1⟩, ⟨d0, d1, d2, hlt2, -⟩⟩ := B0.out
    go_wp2_with fail
    refine (C1.out _).mono ?_
    rintro e w1 ⟨rfl, hb⟩
    have B1 := Lib.hid (B0.out.later hb)
    clear c0 c1 c2 hlt hb1 d0 d1 d2 hlt2 hb B0
    go_wp2_with fail
    go_ret2
    exact ⟨rfl, B1.out.1.2.2.2.2⟩
  · obtain ⟨a, b, N, z, p, f', o', t', S, -⟩ := undo_set hj
    obtain ⟨hpb, hf, ho, ht⟩ := S.bounds
    rw [back_yes hj, S.flip]
    rw [hj] at C1
    have C2 := Lib.hid (fun w => implFlip p f' o' t' hpb hf ho ht w)
    have e3 := S.eP
    have e4 := S.at'.eq
    simp only [Prod.mk.injEq] at e4
    obtain ⟨e4, e5, e6⟩ := e4
    generalize flipN p f' o' t' = x at *
    clear hj hP S hpb hf ho ht
    subst e3 e4 e5 e6
    go_enter Try.func15, Try.ntmps15
    go_wp2_with fail
    have B0 := Lib.hid (bx2_new W H Z f' o' t' 25 33 w)
    generalize (w.alloc (.cells #[.int .i64 W, .int .i64 H, .int .i64 Z] 25)).alloc (.cells #[.int .i64 (f' : Int), .int .i64 (o' : Int), .int .i64 (t' : Int)] 33) = W1 at *
    obtain ⟨⟨c0, c1, c2, hlt, hb1⟩, ⟨d0, d1, d2, hlt2, -⟩⟩ := B0.out
    go_wp2_with fail
    refine (C1.out _).mono ?_
    rintro e w1 ⟨rfl, hb⟩
    have B1 := Lib.hid (B0.out.later hb)
    clear c0 c1 c2 hlt hb1 d0 d1 d2 hlt2 hb B0
    obtain ⟨⟨c0, c1, c2, hlt, hb1⟩, ⟨d0, d1, d2, hlt2, -⟩⟩ := B1.out
    go_wp2_with fail
    refine (C2.out _).mono ?_
    rintro e w2 ⟨rfl, hb⟩
    have B2 := Lib.hid (B1.out.later hb)
    clear c0 c1 c2 hlt hb1 d0 d1 d2 hlt2 hb B1
    go_wp2_with fail
    go_ret2
    exact ⟨rfl, B2.out.1.2.2.2.2⟩
set_option maxHeartbeats 1000000 in
set_option maxRecDepth 100000 in
theorem specBack (W H Z P f o t : Int) (hP : P ≤ 9223372036854775807) (w : World) : Calls Try.prog 30 #[.agg #[.int .i64 W, .int .i64 H, .int .i64 Z], .int .i64 P, .agg #[.int .i64 f, .int .i64 o, .int .i64 t]] w (QP (backB W H Z P (f, o, t)) w) := by
  have C1 := Lib.hid (fun w => specCanU W H Z P f o t hP w)
  cases hj : undoB W H Z P (f, o, t)
  · rw [back_no hj]
    rw [hj] at C1
    clear hj hP
    go_enter Try.func30, Try.ntmps30
    go_wp2_with fail
    have B0 := Lib.hid (bx2_new W H Z f o t 25 33 w)
    generalize (w.alloc (.cells #[.int .i64 W, .int .i64 H, .int .i64 Z] 25)).alloc (.cells #[.int .i64 f, .int .i64 o, .int .i64 t] 33) = W1 at *
    obtain ⟨⟨c0, c1, c2, hlt, hb1⟩, ⟨d0, d1, d2, hlt2, -⟩⟩ := B0.out
    go_wp2_with fail
    refine (C1.out _).mono ?_
    rintro e w1 ⟨rfl, hb⟩
    have B1 := Lib.hid (B0.out.later hb)
    clear c0 c1 c2 hlt hb1 d0 d1 d2 hlt2 hb B0
    go_wp2_with fail
    go_ret2
    exact ⟨rfl, B1.out.1.2.2.2.2⟩
  · obtain ⟨a, b, N, z, p, f', o', t', S, -⟩ := undo_set hj
    obtain ⟨hpb, hf, ho, ht⟩ := S.bounds
    rw [back_yes hj, S.flip]
    rw [hj] at C1
    have C2 := Lib.hid (fun w => specBits f' o' t' hf ho ht w)
    have hm := lineM_lt hf ho ht
    have hxor := xor63 (a := p) (b := lineM f' o' t') (by omega) (by omega)
    have e3 := S.eP
    have e4 := S.at'.eq
    simp only [Prod.mk.injEq] at e4
    obtain ⟨e4, e5, e6⟩ := e4
    unfold flipN
    generalize lineM f' o' t' = m at *
    generalize p ^^^ m = x at *
    clear hj hP S hpb hf ho ht hm
    subst e3 e4 e5 e6
    go_enter Try.func30, Try.ntmps30
    go_wp2_with fail
    have B0 := Lib.hid (bx2_new W H Z f' o' t' 25 33 w)
    generalize (w.alloc (.cells #[.int .i64 W, .int .i64 H, .int .i64 Z] 25)).alloc (.cells #[.int .i64 (f' : Int), .int .i64 (o' : Int), .int .i64 (t' : Int)] 33) = W1 at *
    obtain ⟨⟨c0, c1, c2, hlt, hb1⟩, ⟨d0, d1, d2, hlt2, -⟩⟩ := B0.out
    go_wp2_with fail
    refine (C1.out _).mono ?_
    rintro e w1 ⟨rfl, hb⟩
    have B1 := Lib.hid (B0.out.later hb)
    clear c0 c1 c2 hlt hb1 d0 d1 d2 hlt2 hb B0
    obtain ⟨⟨c0, c1, c2, hlt, hb1⟩, ⟨d0, d1, d2, hlt2, -⟩⟩ := B1.out
    go_wp2_with fail
    refine (C2.out _).mono ?_
    rintro e w2 ⟨rfl, hb⟩
    have B2 := Lib.hid (B1.out.later hb)
    clear c0 c1 c2 hlt hb1 d0 d1 d2 hlt2 hb B1
    go_wp2_with fail
    go_ret2
    exact ⟨rfl, B2.out.1.2.2.2.2⟩
/-- The undone jumps of a position. -/
def undosL (W H Z P : Int) : List Ln := if posB W H Z P = true then (lnsOf W H Z).filter (aftL P) else []
theorem undosL_le (W H Z P : Int) : (undosL W H Z P).length ≤ 196 := by
  unfold undosL
  split
  · exact Nat.le_trans (List.length_filter_le _ _) (lnsOf_le W H Z)
  · simp
theorem undosL_mem {W H Z P : Int} {l : Ln} : l ∈ undosL W H Z P ↔ undoB W H Z P l = true := by
  unfold undosL undoB
  cases posB W H Z P
  · simp
  · simp
set_option maxHeartbeats 2000000 in
set_option maxRecDepth 100000 in
theorem implFitU (W H Z P : Int) (hP : P ≤ 9223372036854775807) (w : World) : Calls Try.prog 34 #[.agg #[.int .i64 W, .int .i64 H, .int .i64 Z], .int .i64 P, .func (.func 36) #[] #[]] w (OwnLines (undosL W H Z P) w) := by
  obtain ⟨i0, hi, hz0, hz1, hz2⟩ : ∃ i, Try.prog.info? 33 = some i ∧ i.zero = some (.agg #[.int .i64 0, .int .i64 0, .int .i64 0]) ∧ i.size = 3 ∧ i.bytes = 24 := ⟨_, by rfl, by rfl, by rfl, by rfl⟩
  cases hp : posB W H Z P
  · have C1 := Lib.hid (implPos_is hP hp)
    rw [show undosL W H Z P = [] by simp [undosL, hp]]
    clear hp hP
    go_enter Try.func34, Try.ntmps34
    go_wp2_with fail
    have B00 := Lib.hid (box_new W H Z w)
    have hS : (w.alloc (.cells #[.int .i64 W, .int .i64 H, .int .i64 Z] 25)).heap.size = w.heap.size + 1 := by simp
    generalize w.alloc (.cells #[.int .i64 W, .int .i64 H, .int .i64 Z] 25) = W1 at *
    have HL0 : Hid (Held (W1.alloc (.cells #[] 33)) (w.heap.size + 1) (.slice (some ⟨w.heap.size + 1, 0, none⟩) 0 0) 0 []) := by
      refine ⟨rfl, ?_⟩
      rw [← hS]
      exact World.ownsRow_made W1 #[] 0 (Nat.le_refl _) (by unfold maxLen; omega) rfl
    have B0 := Lib.hid (B00.out.later ((Below.refl _ _).alloc (Nat.le_refl _) (.cells #[] 33)))
    generalize W1.alloc (.cells #[] 33) = W2 at *
    clear B00 hS
    obtain ⟨c0, c1, c2, hlt, hb1⟩ := B0.out
    go_wp2_with fail
    refine (C1.out _).mono ?_
    rintro e w3 ⟨rfl, hb3⟩
    have HF := Lib.hid (own_base (HL0.out.below hb3).2 (Nat.le_succ _))
    have B3 := Lib.hid (B0.out.later hb3)
    clear hb3 B0 HL0 c0 c1 c2 hlt hb1
    go_wp2_with fail
    go_ret
    exact ⟨_, rfl, HF.out, B3.out.2.2.2.2⟩
  · have C0 := Lib.hid (implPos_is hP hp)
    rw [show undosL W H Z P = (lnsOf W H Z).filter (aftL P) by simp [undosL, hp]]
    have CB : Hid (∀ (f o t : Int), (f, o, t) ∈ lnsOf W H Z → ∀ w, Calls Try.prog 36 #[.int .i64 P, .agg #[.int .i64 f, .int .i64 o, .int .i64 t]] w (QB (aftL P (f, o, t)) w)) := by
      intro f o t hm w
      obtain ⟨a, b, N, z, p, f', o', t', S⟩ := set5 hp (mem_contains hm)
      obtain ⟨hpb, hf, ho, ht⟩ := S.bounds
      have e4 := S.at'.eq
      simp only [Prod.mk.injEq] at e4
      rw [S.aft, S.eP, e4.1, e4.2.1, e4.2.2]
      exact implAft p f' o' t' hf ho ht w
    have C1 := Lib.hid (fun w => implLinesA W H Z w)
    obtain ⟨xs, hxs⟩ : ∃ xs, lnsOf W H Z = xs := ⟨_, rfl⟩
    have hle := lnsOf_le W H Z
    rw [hxs] at hle C1 CB ⊢
    clear hxs hp hP
    obtain ⟨n, hn⟩ : ∃ n, xs.length = n := ⟨_, rfl⟩
    have HN := Lib.hid hn
    rw [hn] at hle
    clear hn
    go_enter Try.func34, Try.ntmps34
    go_wp2_with fail
    have B00 := Lib.hid (box_new W H Z w)
    have hS : (w.alloc (.cells #[.int .i64 W, .int .i64 H, .int .i64 Z] 25)).heap.size = w.heap.size + 1 := by simp
    generalize w.alloc (.cells #[.int .i64 W, .int .i64 H, .int .i64 Z] 25) = W1 at *
    have HL0 : Hid (Held (W1.alloc (.cells #[] 33)) (w.heap.size + 1) (.slice (some ⟨w.heap.size + 1, 0, none⟩) 0 0) 0 []) := by
      refine ⟨rfl, ?_⟩
      rw [← hS]
      exact World.ownsRow_made W1 #[] 0 (Nat.le_refl _) (by unfold maxLen; omega) rfl
    have B0 := Lib.hid (B00.out.later ((Below.refl _ _).alloc (Nat.le_refl _) (.cells #[] 33)))
    have hS1 : w.heap.size + 2 ≤ (W1.alloc (.cells #[] 33)).heap.size := by simp; omega
    generalize W1.alloc (.cells #[] 33) = W2 at *
    clear B00 hS
    obtain ⟨c0, c1, c2, hlt, hb1⟩ := B0.out
    go_wp2_with fail
    refine (C0.out _).mono ?_
    rintro e w3 ⟨rfl, hb3⟩
    have HL1 := Lib.hid (HL0.out.below hb3)
    have B1 := Lib.hid (B0.out.later hb3)
    have hS2 : w.heap.size + 2 ≤ w3.heap.size := Nat.le_trans hS1 hb3.size
    clear hb3 B0 HL0 c0 c1 c2 hlt hb1 hS1
    obtain ⟨c0, c1, c2, hlt, hb1⟩ := B1.out
    go_wp2_with fail
    refine (C1.out _).mono ?_
    rintro e w4 ⟨hv, rfl, hh, hb3⟩
    rw [HN.out] at hh
    have B3 := Lib.hid (B1.out.later hb3)
    have HL3 := Lib.hid (HL1.out.below hb3)
    have HH3 := Lib.hid hh
    obtain ⟨ga, gc, rfl⟩ := lines_form hh
    clear hh B1 HL1 hb3 c0 c1 c2 hlt hb1
    obtain ⟨B, hB⟩ : ∃ B, w3.heap.size = B := ⟨_, rfl⟩
    rw [hB] at HH3 hS2
    clear hB
    have HA3 : Hid (∀ g0, ga = some ⟨g0, 0, none⟩ → (Value.slice (some ⟨w.heap.size + 1, 0, none⟩) 0 0).ownBlock ≠ some g0) := fun g0 h1 h2 => by
      have h3 := (HH3.out.lt g0 (by rw [h1]; rfl)).1
      simp [Value.ownBlock] at h2
      omega
    go_wp2_with fail
    go_loopw [7, 19] (fun s i wr => ∃ (k m : Nat) (v : Value) (ys : List Ln), k ≤ n ∧ m ≤ k ∧ i = .int .i64 k ∧ v = s ∧ Hid (ys = (xs.take k).filter (aftL P)) ∧ Hid (Held wr (w.heap.size + 1) v m ys) ∧ Hid (wr.ownsRow B 33 3 (.slice ga n gc) n (lv xs)) ∧ Hid (∀ g0, ga = some ⟨g0, 0, none⟩ → v.ownBlock ≠ some g0) ∧ Hid (Box w.heap.size W H Z w wr)) (fun _ i _ => n - (intOf i).toNat)
    case atStart => exact ⟨0, 0, _, [], by omega, by omega, rfl, rfl, rfl, HL3, HH3, HA3, B3⟩
    case round =>
      clear HL3 HH3 HA3 B3
      obtain ⟨k, m, v, ys, hk, hm, rfl, rfl, hys, HL, HH, HA, B4⟩ := hrel
      by_cases hkn : k < n
      · obtain ⟨⟨f, o, t⟩, hl⟩ : ∃ l, xs[k]? = some l := ⟨_, List.getElem?_eq_getElem (by rw [HN.out]; exact hkn)⟩
        have CX := Lib.hid (CB.out f o t (List.mem_of_getElem? hl))
        have k0 : (0 : Int) ≤ (k : Int) := by omega
        have k1 : (k : Int) < (n : Int) := by omega
        obtain ⟨g, rfl⟩ : ∃ g, ga = some ⟨g, 0, none⟩ := by
          rcases Go.Joins.ownsRow_forms HH.out with ⟨h, h0⟩ | ⟨g, cap, h⟩
          · omega
          · injection h with h1 h2 h3; exact ⟨g, h1⟩
        obtain ⟨l0, l1, l2⟩ := line_cells HH.out HN.out hl
        have hln : Hid (m ≤ 1000000000) := by unfold Hid; omega
        have hbl : Below wr.heap.size wr (wr.alloc (.cells #[.int .i64 f, .int .i64 o, .int .i64 t] 33)) := (Below.refl _ _).alloc (Nat.le_refl _) _
        have HLa := Lib.hid (HL.out.below hbl)
        have HHa := Lib.hid (own_below HH.out hbl)
        have Ba := Lib.hid (B4.out.later hbl)
        have hpl : wr.heap.size < (wr.alloc (.cells #[.int .i64 f, .int .i64 o, .int .i64 t] 33)).heap.size := by simp
        have hrow := heap_alloc_new wr (.cells #[.int .i64 f, .int .i64 o, .int .i64 t] 33)
        clear hbl HL HH B4
        go_wp2_with fail
        clear l0 l1 l2
        generalize wr.alloc (.cells #[.int .i64 f, .int .i64 o, .int .i64 t] 33) = wa at *
        refine (CX.out _).mono ?_
        rintro e wb ⟨rfl, hb⟩
        have HLb := Lib.hid (HLa.out.below hb)
        have HHb := Lib.hid (own_below HHa.out hb)
        have Bb := Lib.hid (Ba.out.later hb)
        obtain ⟨r0, r1, r2, -, -, -⟩ := row_facts (row_later hrow hb hpl)
        clear HLa HHa Ba hrow hb hpl
        cases hc : aftL P (f, o, t)
        · have HF := Lib.hid (filter_no hl hc)
          clear hl hc r0 r1 r2
          go_wp2_with fail
          go_roundw
          case rel => exact ⟨k + 1, m, _, ys, by omega, by omega, by go_num, rfl, by unfold Hid; rw [HF.out]; exact hys.out, HLb, HHb, HA, Bb⟩
          case measure => simp [intOf]; omega
        · have HF := Lib.hid (filter_yes hl hc)
          clear hl hc
          have hbz : Hid (w.heap.size + 1 ≤ wb.heap.size) := Bb.out.2.2.2.1
          go_wp2_with (at_builtin; refine wpList_append_line rfl (.tmp 27) (.tmp 29) 28 rfl (w.heap.size + 1) 33 i0 (.agg #[.int .i64 0, .int .i64 0, .int .i64 0]) Try.underlying28 hi hz0 hz1 hz2 rfl _ _ ys rfl HLb.out.2 _ rfl rfl hln.out hbz.out ?_; intro g' cap' w7 hown' hgrow hb2 hat)
          have hl7 : ys.length = m := HLb.out.1
          have HL7 : Hid (Held w7 (w.heap.size + 1) (.slice (some ⟨g', 0, none⟩) (m + 1) cap') (m + 1) (ys ++ [((f : Int), (o : Int), (t : Int))])) := ⟨by rw [List.length_append, hl7]; rfl, hown'⟩
          have hne := HA.out g rfl
          have HH7 : Hid (w7.ownsRow B 33 3 (.slice (some ⟨g, 0, none⟩) n gc) n (lv xs)) := (own_below HHb.out ((Below.refl _ _).alloc (Nat.le_refl _) _)).kept hgrow (.inr (fun h => hne h.symm))
          have B7 := Lib.hid (Bb.out.kept hb2 (Nat.lt_succ_self _) (Nat.le_succ _))
          have HA7 : Hid (∀ g0, some (⟨g, 0, none⟩ : Addr) = some ⟨g0, 0, none⟩ → (Value.slice (some ⟨g', 0, none⟩) (m + 1) cap').ownBlock ≠ some g0) := fun g0 h1 h2 => by
            have hg0 : g = g0 := by simpa using h1
            have hg' : g' = g0 := by simpa [Value.ownBlock] using h2
            rw [← hg0] at hg'
            rcases hat with h3 | h3
            · exact hne ((show v.ownBlock = some g' from h3).trans (by rw [hg']))
            · have h4 := (HHb.out.lt g rfl).2
              have h5 : g' = wb.heap.size + 1 := h3
              omega
          clear hown' hgrow hb2 hl7 hbz HLb HHb Bb hln hat hne r0 r1 r2
          go_wp2_with fail
          go_roundw
          case rel => exact ⟨k + 1, m + 1, _, _, by omega, by omega, by go_num, rfl, by unfold Hid; rw [HF.out, hys.out], HL7, HH7, HA7, B7⟩
          case measure => simp [intOf]; omega
      · obtain rfl : k = n := by omega
        have hp : Hid (OwnLines (xs.filter (aftL P)) w (.returned v) wr) := by
          refine ⟨_, rfl, ?_, B4.out.2.2.2.2⟩
          have e : xs.filter (aftL P) = ys := by rw [hys.out, List.take_of_length_le (by rw [HN.out]; exact Nat.le_refl _)]
          rw [e, HL.out.1]
          exact own_base HL.out.2 (Nat.le_succ _)
        clear HL HH B4
        go_wp2_with fail
        go_ret
        exact hp.out
set_option maxRecDepth 100000 in
theorem implUndos (W H Z P : Int) (hP : P ≤ 9223372036854775807) (w : World) : Calls Try.prog 13 #[.agg #[.int .i64 W, .int .i64 H, .int .i64 Z], .int .i64 P] w (OwnLines (undosL W H Z P) w) := by
  have C1 := Lib.hid (fun w => implFitU W H Z P hP w)
  clear hP
  go_enter Try.func13, Try.ntmps13
  go_wp2_with fail
  have B0 := Lib.hid (box_new W H Z w)
  generalize w.alloc (.cells #[.int .i64 W, .int .i64 H, .int .i64 Z] 25) = W1 at *
  obtain ⟨c0, c1, c2, hlt, hb1⟩ := B0.out
  go_wp2_with fail
  refine (C1.out _).mono ?_
  rintro e w1 ⟨v, rfl, ho, hb⟩
  have HO := Lib.hid (own_base ho hb1.size)
  have B1 := Lib.hid (B0.out.later hb)
  clear ho hb c0 c1 c2 hlt hb1 B0
  go_wp2_with fail
  go_ret
  exact ⟨_, rfl, HO.out, B1.out.2.2.2.2⟩
end Go.Proofs.Ytbnfhagfbfacbaa
