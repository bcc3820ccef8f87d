/- DoJump, JumpsOf of both. -/
import Derived.Test.YtdlpfpeblaapdaaJumpsC
namespace Go.Proofs.Ytdlpfpeblaapdaa
open Go.RowKit
set_option linter.unusedVariables false
set_option linter.unusedSimpArgs false
theorem flip_big {W H Z P : Int} {l : Ln} {a b N z p f o t : Nat} (h : Set5 W H Z P l a b N z p f o t) : flipN p f o t < 562949953421312 := by
  obtain ⟨h1, h2, h3, h4⟩ := h.bounds
  exact flipN_lt h1 h2 h3 h4
theorem jump_set {W H Z P : Int} {l : Ln} (h : jumpB W H Z P l = true) : ∃ a b N z p f o t, Set5 W H Z P l a b N z p f o t ∧ befN p f o t = true := by
  simp only [jumpB, Bool.and_eq_true] at h
  obtain ⟨a, b, N, z, p, f, o, t, S⟩ := set5 h.1.1 h.1.2
  exact ⟨a, b, N, z, p, f, o, t, S, by rw [← S.bef]; exact h.2⟩
theorem do_yes {W H Z P : Int} {l : Ln} (h : jumpB W H Z P l = true) : doB W H Z P l = (flipL P l, true) := by simp [doB, h]
theorem do_no {W H Z P : Int} {l : Ln} (h : jumpB W H Z P l = false) : doB W H Z P l = (P, false) := by simp [doB, h]
set_option maxHeartbeats 1000000 in
set_option maxRecDepth 100000 in
theorem implDo (W H Z P f o t : Int) (hP : P ≤ 9223372036854775807) (w : World) : Calls Try.prog 36 #[.agg #[.int .i64 W, .int .i64 H, .int .i64 Z], .int .i64 P, .agg #[.int .i64 f, .int .i64 o, .int .i64 t]] w (QP (doB W H Z P (f, o, t)) w) := by
  have C1 := Lib.hid (fun w => implCan W H Z P f o t hP w)
  cases hj : jumpB W H Z P (f, o, t)
  · rw [do_no hj]
    rw [hj] at C1
    clear hj hP
    go_enter Try.func36, Try.ntmps36
    go_wp2_with fail
    have B0 := Lib.hid (bx2_new W H Z f o t 25 58 w)
    generalize (w.alloc (.cells #[.int .i64 W, .int .i64 H, .int .i64 Z] 25)).alloc (.cells #[.int .i64 f, .int .i64 o, .int .i64 t] 58) = W1 at *
    obtain ⟨⟨c0, c1, c2, hlt, hb1⟩, ⟨d0, d1, d2, hlt2, -⟩⟩ := B0.out
    go_wp2_with fail
    refine (C1.out _).mono ?_
    rintro e w1 ⟨rfl, hb⟩
    have B1 := Lib.hid (B0.out.later hb)
    clear c0 c1 c2 hlt hb1 d0 d1 d2 hlt2 hb B0
    go_wp2_with fail
    go_ret2
    exact ⟨rfl, B1.out.1.2.2.2.2⟩
  · obtain ⟨a, b, N, z, p, f', o', t', S, -⟩ := jump_set hj
    obtain ⟨hpb, hf, ho, ht⟩ := S.bounds
    rw [do_yes hj, S.flip]
    rw [hj] at C1
    have C2 := Lib.hid (fun w => implFlip p f' o' t' hpb hf ho ht w)
    have e3 := S.eP
    have e4 := S.at'.eq
    simp only [Prod.mk.injEq] at e4
    obtain ⟨e4, e5, e6⟩ := e4
    generalize flipN p f' o' t' = x at *
    clear hj hP S hpb hf ho ht
    subst e3 e4 e5 e6
    go_enter Try.func36, Try.ntmps36
    go_wp2_with fail
    have B0 := Lib.hid (bx2_new W H Z f' o' t' 25 58 w)
    generalize (w.alloc (.cells #[.int .i64 W, .int .i64 H, .int .i64 Z] 25)).alloc (.cells #[.int .i64 (f' : Int), .int .i64 (o' : Int), .int .i64 (t' : Int)] 58) = W1 at *
    obtain ⟨⟨c0, c1, c2, hlt, hb1⟩, ⟨d0, d1, d2, hlt2, -⟩⟩ := B0.out
    go_wp2_with fail
    refine (C1.out _).mono ?_
    rintro e w1 ⟨rfl, hb⟩
    have B1 := Lib.hid (B0.out.later hb)
    clear c0 c1 c2 hlt hb1 d0 d1 d2 hlt2 hb B0
    obtain ⟨⟨c0, c1, c2, hlt, hb1⟩, ⟨d0, d1, d2, hlt2, -⟩⟩ := B1.out
    go_wp2_with fail
    refine (C2.out _).mono ?_
    rintro e w2 ⟨rfl, hb⟩
    have B2 := Lib.hid (B1.out.later hb)
    clear c0 c1 c2 hlt hb1 d0 d1 d2 hlt2 hb B1
    go_wp2_with fail
    go_ret2
    exact ⟨rfl, B2.out.1.2.2.2.2⟩
set_option maxHeartbeats 1000000 in
set_option maxRecDepth 100000 in
theorem specDo (W H Z P f o t : Int) (hP : P ≤ 9223372036854775807) (w : World) : Calls Try.prog 44 #[.agg #[.int .i64 W, .int .i64 H, .int .i64 Z], .int .i64 P, .agg #[.int .i64 f, .int .i64 o, .int .i64 t]] w (QP (doB W H Z P (f, o, t)) w) := by
  have C1 := Lib.hid (fun w => specCan W H Z P f o t hP w)
  cases hj : jumpB W H Z P (f, o, t)
  · rw [do_no hj]
    rw [hj] at C1
    clear hj hP
    go_enter Try.func44, Try.ntmps44
    go_wp2_with fail
    have B0 := Lib.hid (bx2_new W H Z f o t 25 58 w)
    generalize (w.alloc (.cells #[.int .i64 W, .int .i64 H, .int .i64 Z] 25)).alloc (.cells #[.int .i64 f, .int .i64 o, .int .i64 t] 58) = W1 at *
    obtain ⟨⟨c0, c1, c2, hlt, hb1⟩, ⟨d0, d1, d2, hlt2, -⟩⟩ := B0.out
    go_wp2_with fail
    refine (C1.out _).mono ?_
    rintro e w1 ⟨rfl, hb⟩
    have B1 := Lib.hid (B0.out.later hb)
    clear c0 c1 c2 hlt hb1 d0 d1 d2 hlt2 hb B0
    go_wp2_with fail
    go_ret2
    exact ⟨rfl, B1.out.1.2.2.2.2⟩
  · obtain ⟨a, b, N, z, p, f', o', t', S, -⟩ := jump_set hj
    obtain ⟨hpb, hf, ho, ht⟩ := S.bounds
    rw [do_yes hj, S.flip]
    rw [hj] at C1
    have C2 := Lib.hid (fun w => specBits f' o' t' hf ho ht w)
    have hm := lineM_lt hf ho ht
    have hxor := xor63 (a := p) (b := lineM f' o' t') (by omega) (by omega)
    have e3 := S.eP
    have e4 := S.at'.eq
    simp only [Prod.mk.injEq] at e4
    obtain ⟨e4, e5, e6⟩ := e4
    unfold flipN
    generalize lineM f' o' t' = m at *
    generalize p ^^^ m = x at *
    clear hj hP S hpb hf ho ht hm
    subst e3 e4 e5 e6
    go_enter Try.func44, Try.ntmps44
    go_wp2_with fail
    have B0 := Lib.hid (bx2_new W H Z f' o' t' 25 58 w)
    generalize (w.alloc (.cells #[.int .i64 W, .int .i64 H, .int .i64 Z] 25)).alloc (.cells #[.int .i64 (f' : Int), .int .i64 (o' : Int), .int .i64 (t' : Int)] 58) = W1 at *
    obtain ⟨⟨c0, c1, c2, hlt, hb1⟩, ⟨d0, d1, d2, hlt2, -⟩⟩ := B0.out
    go_wp2_with fail
    refine (C1.out _).mono ?_
    rintro e w1 ⟨rfl, hb⟩
    have B1 := Lib.hid (B0.out.later hb)
    clear c0 c1 c2 hlt hb1 d0 d1 d2 hlt2 hb B0
    obtain ⟨⟨c0, c1, c2, hlt, hb1⟩, ⟨d0, d1, d2, hlt2, -⟩⟩ := B1.out
    go_wp2_with fail
    refine (C2.out _).mono ?_
    rintro e w2 ⟨rfl, hb⟩
    have B2 := Lib.hid (B1.out.later hb)
    clear c0 c1 c2 hlt hb1 d0 d1 d2 hlt2 hb B1
    go_wp2_with fail
    go_ret2
    exact ⟨rfl, B2.out.1.2.2.2.2⟩
/-- The jumps of a position. -/
def jumpsL (W H Z P : Int) : List Ln := if posB W H Z P = true then (lnsOf W H Z).filter (befL P) else []
theorem jumpsL_le (W H Z P : Int) : (jumpsL W H Z P).length ≤ 196 := by
  unfold jumpsL
  split
  · exact Nat.le_trans (List.length_filter_le _ _) (lnsOf_le W H Z)
  · simp
theorem jumpsL_mem {W H Z P : Int} {l : Ln} : l ∈ jumpsL W H Z P ↔ jumpB W H Z P l = true := by
  unfold jumpsL jumpB
  cases posB W H Z P
  · simp
  · simp
end Go.Proofs.Ytdlpfpeblaapdaa
