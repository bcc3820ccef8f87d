/- UndoJump, UndosOf of both. -/
import Derived.Test.YtdlpfpeblaapdaaUndosC
namespace Go.Proofs.Ytdlpfpeblaapdaa
open Go.RowKit
set_option linter.unusedVariables false
set_option linter.unusedSimpArgs false
theorem undo_set {W H Z P : Int} {l : Ln} (h : undoB W H Z P l = true) : ∃ a b N z p f o t, Set5 W H Z P l a b N z p f o t ∧ aftN p f o t = true := by
  simp only [undoB, Bool.and_eq_true] at h
  obtain ⟨a, b, N, z, p, f, o, t, S⟩ := set5 h.1.1 h.1.2
  exact ⟨a, b, N, z, p, f, o, t, S, by rw [← S.aft]; exact h.2⟩
theorem back_yes {W H Z P : Int} {l : Ln} (h : undoB W H Z P l = true) : backB W H Z P l = (flipL P l, true) := by simp [backB, h]
theorem back_no {W H Z P : Int} {l : Ln} (h : undoB W H Z P l = false) : backB W H Z P l = (P, false) := by simp [backB, h]
set_option maxHeartbeats 1000000 in
set_option maxRecDepth 100000 in
theorem implBack (W H Z P f o t : Int) (hP : P ≤ 9223372036854775807) (w : World) : Calls Try.prog 39 #[.agg #[.int .i64 W, .int .i64 H, .int .i64 Z], .int .i64 P, .agg #[.int .i64 f, .int .i64 o, .int .i64 t]] w (QP (backB W H Z P (f, o, t)) w) := by
  have C1 := Lib.hid (fun w => implCanU W H Z P f o t hP w)
  cases hj : undoB W H Z P (f, o, t)
  · rw [back_no hj]
    rw [hj] at C1
    clear hj hP
    go_enter Try.func39, Try.ntmps39
    go_wp2_with fail
    have B0 := Lib.hid (bx2_new W H Z f o t 25 58 w)
    generalize (w.alloc (.cells #[.int .i64 W, .int .i64 H, .int .i64 Z] 25)).alloc (.cells #[.int .i64 f, .int .i64 o, .int .i64 t] 58) = W1 at *
    obtain ⟨⟨c0, c1, c2, hlt, hb1⟩, ⟨d0, d1, d2, hlt2, -⟩⟩ := B0.out
    go_wp2_with fail
    refine (C1.out _).mono ?_
    rintro e w1 ⟨rfl, hb⟩
    have B1 := Lib.hid (B0.out.later hb)
    clear c0 c1 c2 hlt hb1 d0 d1 d2 hlt2 hb B0
    go_wp2_with fail
    go_ret2
    exact ⟨rfl, B1.out.1.2.2.2.2⟩
  · obtain ⟨a, b, N, z, p, f', o', t', S, -⟩ := undo_set hj
    obtain ⟨hpb, hf, ho, ht⟩ := S.bounds
    rw [back_yes hj, S.flip]
    rw [hj] at C1
    have C2 := Lib.hid (fun w => implFlip p f' o' t' hpb hf ho ht w)
    have e3 := S.eP
    have e4 := S.at'.eq
    simp only [Prod.mk.injEq] at e4
    obtain ⟨e4, e5, e6⟩ := e4
    generalize flipN p f' o' t' = x at *
    clear hj hP S hpb hf ho ht
    subst e3 e4 e5 e6
    go_enter Try.func39, Try.ntmps39
    go_wp2_with fail
    have B0 := Lib.hid (bx2_new W H Z f' o' t' 25 58 w)
    generalize (w.alloc (.cells #[.int .i64 W, .int .i64 H, .int .i64 Z] 25)).alloc (.cells #[.int .i64 (f' : Int), .int .i64 (o' : Int), .int .i64 (t' : Int)] 58) = W1 at *
    obtain ⟨⟨c0, c1, c2, hlt, hb1⟩, ⟨d0, d1, d2, hlt2, -⟩⟩ := B0.out
    go_wp2_with fail
    refine (C1.out _).mono ?_
    rintro e w1 ⟨rfl, hb⟩
    have B1 := Lib.hid (B0.out.later hb)
    clear c0 c1 c2 hlt hb1 d0 d1 d2 hlt2 hb B0
    obtain ⟨⟨c0, c1, c2, hlt, hb1⟩, ⟨d0, d1, d2, hlt2, -⟩⟩ := B1.out
    go_wp2_with fail
    refine (C2.out _).mono ?_
    rintro e w2 ⟨rfl, hb⟩
    have B2 := Lib.hid (B1.out.later hb)
    clear c0 c1 c2 hlt hb1 d0 d1 d2 hlt2 hb B1
    go_wp2_with fail
    go_ret2
    exact ⟨rfl, B2.out.1.2.2.2.2⟩
set_option maxHeartbeats 1000000 in
set_option maxRecDepth 100000 in
theorem specBack (W H Z P f o t : Int) (hP : P ≤ 9223372036854775807) (w : World) : Calls Try.prog 47 #[.agg #[.int .i64 W, .int .i64 H, .int .i64 Z], .int .i64 P, .agg #[.int .i64 f, .int .i64 o, .int .i64 t]] w (QP (backB W H Z P (f, o, t)) w) := by
  have C1 := Lib.hid (fun w => specCanU W H Z P f o t hP w)
  cases hj : undoB W H Z P (f, o, t)
  · rw [back_no hj]
    rw [hj] at C1
    clear hj hP
    go_enter Try.func47, Try.ntmps47
    go_wp2_with fail
    have B0 := Lib.hid (bx2_new W H Z f o t 25 58 w)
    generalize (w.alloc (.cells #[.int .i64 W, .int .i64 H, .int .i64 Z] 25)).alloc (.cells #[.int .i64 f, .int .i64 o, .int .i64 t] 58) = W1 at *
    obtain ⟨⟨c0, c1, c2, hlt, hb1⟩, ⟨d0, d1, d2, hlt2, -⟩⟩ := B0.out
    go_wp2_with fail
    refine (C1.out _).mono ?_
    rintro e w1 ⟨rfl, hb⟩
    have B1 := Lib.hid (B0.out.later hb)
    clear c0 c1 c2 hlt hb1 d0 d1 d2 hlt2 hb B0
    go_wp2_with fail
    go_ret2
    exact ⟨rfl, B1.out.1.2.2.2.2⟩
  · obtain ⟨a, b, N, z, p, f', o', t', S, -⟩ := undo_set hj
    obtain ⟨hpb, hf, ho, ht⟩ := S.bounds
    rw [back_yes hj, S.flip]
    rw [hj] at C1
    have C2 := Lib.hid (fun w => specBits f' o' t' hf ho ht w)
    have hm := lineM_lt hf ho ht
    have hxor := xor63 (a := p) (b := lineM f' o' t') (by omega) (by omega)
    have e3 := S.eP
    have e4 := S.at'.eq
    simp only [Prod.mk.injEq] at e4
    obtain ⟨e4, e5, e6⟩ := e4
    unfold flipN
    generalize lineM f' o' t' = m at *
    generalize p ^^^ m = x at *
    clear hj hP S hpb hf ho ht hm
    subst e3 e4 e5 e6
    go_enter Try.func47, Try.ntmps47
    go_wp2_with fail
    have B0 := Lib.hid (bx2_new W H Z f' o' t' 25 58 w)
    generalize (w.alloc (.cells #[.int .i64 W, .int .i64 H, .int .i64 Z] 25)).alloc (.cells #[.int .i64 (f' : Int), .int .i64 (o' : Int), .int .i64 (t' : Int)] 58) = W1 at *
    obtain ⟨⟨c0, c1, c2, hlt, hb1⟩, ⟨d0, d1, d2, hlt2, -⟩⟩ := B0.out
    go_wp2_with fail
    refine (C1.out _).mono ?_
    rintro e w1 ⟨rfl, hb⟩
    have B1 := Lib.hid (B0.out.later hb)
    clear c0 c1 c2 hlt hb1 d0 d1 d2 hlt2 hb B0
    obtain ⟨⟨c0, c1, c2, hlt, hb1⟩, ⟨d0, d1, d2, hlt2, -⟩⟩ := B1.out
    go_wp2_with fail
    refine (C2.out _).mono ?_
    rintro e w2 ⟨rfl, hb⟩
    have B2 := Lib.hid (B1.out.later hb)
    clear c0 c1 c2 hlt hb1 d0 d1 d2 hlt2 hb B1
    go_wp2_with fail
    go_ret2
    exact ⟨rfl, B2.out.1.2.2.2.2⟩
/-- The undone jumps of a position. -/
def undosL (W H Z P : Int) : List Ln := if posB W H Z P = true then (lnsOf W H Z).filter (aftL P) else []
theorem undosL_le (W H Z P : Int) : (undosL W H Z P).length ≤ 196 := by
  unfold undosL
  split
  · exact Nat.le_trans (List.length_filter_le _ _) (lnsOf_le W H Z)
  · simp
theorem undosL_mem {W H Z P : Int} {l : Ln} : l ∈ undosL W H Z P ↔ undoB W H Z P l = true := by
  unfold undosL undoB
  cases posB W H Z P
  · simp
  · simp
end Go.Proofs.Ytdlpfpeblaapdaa
