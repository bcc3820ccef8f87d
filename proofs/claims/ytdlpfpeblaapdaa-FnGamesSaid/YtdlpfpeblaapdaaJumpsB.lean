/- Whether a line is one of a board: hasLine of the program, l05Is of the model. -/
import Derived.Test.YtdlpfpeblaapdaaJumpsA
namespace Go.Proofs.Ytdlpfpeblaapdaa
open Go.RowKit
set_option linter.unusedVariables false
set_option linter.unusedSimpArgs false
theorem line_hole {a b N z : Nat} (h : Ok (a : Int) (b : Int) N z) {f o t : Int} (hl : (linesOf a b z (bitsOf N z)).contains (f, o, t) = true) : holeB a b z f = true := by
  obtain ⟨hN, ha, -⟩ := h.nat
  rw [List.contains_iff_mem] at hl
  obtain ⟨f', o', t', L⟩ := mem_at hN ha hl
  have e := L.eq
  simp only [Prod.mk.injEq] at e
  rw [e.1, holeB_in h (by rw [← hN]; exact L.fN)]
  exact L.bf
theorem line_yes {a b N z k d : Nat} (hN : a * b = N) (hd : d < 4) (hk : k < N) (hb : bit z k = true) {o t : Int} (h : lineN a b z k d = some ((k : Int), o, t)) : (linesOf a b z (bitsOf N z)).contains ((k : Int), o, t) = true := by
  rw [List.contains_iff_mem, mem_lines hN]
  obtain ⟨o', t', h1, h2, h3⟩ := lineN_some h
  exact ⟨k, o', t', d, hd, by rw [hN]; exact hk, hb, h1, h2, h3⟩
theorem line_no {a b N z k : Nat} (hN : a * b = N) {o t : Int} (h : ∀ d, d < 4 → lineN a b z k d ≠ some ((k : Int), o, t)) : (linesOf a b z (bitsOf N z)).contains ((k : Int), o, t) = false := by
  rw [← Bool.not_eq_true, List.contains_iff_mem, mem_lines hN]
  rintro ⟨k', o', t', d, hd, hk, hb, h1, h2, h3⟩
  simp only [Prod.mk.injEq] at h3
  have e : k = k' := by omega
  subst e
  refine h d hd ?_
  rw [h3.2.1, h3.2.2]
  exact lineN_yes h1 h2
set_option maxHeartbeats 1000000 in
set_option maxRecDepth 100000 in
theorem implHasLine {a b N z : Nat} (h : Ok (a : Int) (b : Int) N z) (f o t : Int) (w : World) : Calls Try.prog 65 #[.agg #[.int .i64 a, .int .i64 b, .int .i64 z], .agg #[.int .i64 f, .int .i64 o, .int .i64 t]] w (QB ((linesOf a b z (bitsOf N z)).contains (f, o, t)) w) := by
  obtain ⟨hN, ha, ha7, hb, hb7, hab⟩ := h.nat
  have C1 := Lib.hid (fun w => implHole a b z f w)
  cases h1 : holeB a b z f
  · have E : (linesOf a b z (bitsOf N z)).contains (f, o, t) = false := by
      rw [← Bool.not_eq_true]
      intro hc
      rw [line_hole h hc] at h1
      cases h1
    rw [h1] at C1
    rw [E]
    clear E h1 h hN ha ha7 hb hb7 hab
    go_enter Try.func65, Try.ntmps65
    go_wp2_with fail
    have B0 := Lib.hid (bx2_new a b z f o t 25 58 w)
    generalize (w.alloc (.cells #[.int .i64 (a : Int), .int .i64 (b : Int), .int .i64 (z : Int)] 25)).alloc (.cells #[.int .i64 f, .int .i64 o, .int .i64 t] 58) = W1 at *
    obtain ⟨⟨c0, c1, c2, hlt, hb1⟩, ⟨d0, d1, d2, hlt2, -⟩⟩ := B0.out
    go_wp2_with fail
    refine (C1.out _).mono ?_
    rintro e w1 ⟨rfl, hb⟩
    have B1 := Lib.hid (B0.out.later hb)
    clear c0 c1 c2 hlt hb1 d0 d1 d2 hlt2 hb B0
    go_wp2_with fail
    go_ret
    exact ⟨rfl, B1.out.1.2.2.2.2⟩
  · obtain ⟨k, rfl, hk, hbit⟩ := hole_yes h h1
    rw [h1] at C1
    have C2 := Lib.hid (fun d w (hd : d < 4) => implLineFrom h (show k < a * b by rw [hN]; exact hk) hd w)
    have EY := Lib.hid (fun d (hd : d < 4) (hl : lineN a b z k d = some ((k : Int), o, t)) => line_yes hN hd hk hbit hl)
    have EN := Lib.hid (fun hl => line_no (a := a) (b := b) (N := N) (z := z) (k := k) (o := o) (t := t) hN hl)
    generalize (linesOf a b z (bitsOf N z)).contains ((k : Int), o, t) = R at *
    clear h1 h hN ha ha7 hb hb7 hab hk hbit
    go_enter Try.func65, Try.ntmps65
    go_wp2_with fail
    have B0 := Lib.hid (bx2_new a b z k o t 25 58 w)
    generalize (w.alloc (.cells #[.int .i64 (a : Int), .int .i64 (b : Int), .int .i64 (z : Int)] 25)).alloc (.cells #[.int .i64 (k : Int), .int .i64 o, .int .i64 t] 58) = W1 at *
    obtain ⟨⟨c0, c1, c2, hlt, hb1⟩, ⟨d0, d1, d2, hlt2, -⟩⟩ := B0.out
    go_wp2_with fail
    refine (C1.out _).mono ?_
    rintro e w1 ⟨rfl, hb⟩
    have B1 := Lib.hid (B0.out.later hb)
    clear c0 c1 c2 hlt hb1 d0 d1 d2 hlt2 hb B0
    go_wp2_with fail
    go_loopw [13] (fun i wr => ∃ d : Nat, d ≤ 4 ∧ i = .int .i64 d ∧ Hid (∀ d', d' < d → lineN a b z k d' ≠ some ((k : Int), o, t)) ∧ Hid (Bx2 a b z k o t w wr)) (fun i _ => 4 - (intOf i).toNat)
    case atStart => exact ⟨0, by omega, rfl, fun d' h => absurd h (Nat.not_lt_zero _), B1⟩
    case round =>
      clear B1
      obtain ⟨d, hd, rfl, hno, B2⟩ := hrel
      obtain ⟨⟨c0, c1, c2, hlt, hb1⟩, ⟨d0, d1, d2, hlt2, -⟩⟩ := B2.out
      by_cases hd4 : d < 4
      · go_wp2_with fail
        refine (C2.out d _ hd4).mono ?_
        rintro e w5 ⟨rfl, hb5⟩
        have B5 := Lib.hid (B2.out.later hb5)
        clear B2 c0 c1 c2 hlt hb1 d0 d1 d2 hlt2 hb5
        obtain ⟨⟨c0, c1, c2, hlt, hb1⟩, ⟨d0, d1, d2, hlt2, -⟩⟩ := B5.out
        cases hln : lineN a b z k d with
        | none =>
          have HR : Hid (∀ d', d' < d + 1 → lineN a b z k d' ≠ some ((k : Int), o, t)) := fun d' h e => by
            by_cases hh : d' = d
            · subst hh; rw [hln] at e; cases e
            · exact hno.out d' (by omega) e
          clear hln hno
          unfold lineV
          go_wp2_with fail
          have B6 := Lib.hid (B5.out.later ((Below.refl _ _).alloc (Nat.le_refl _) (.cells #[.int .i64 0, .int .i64 0, .int .i64 0] 58)))
          clear B5 c0 c1 c2 hlt hb1 d0 d1 d2 hlt2
          go_roundw
          case rel => exact ⟨d + 1, by omega, by go_num, HR, B6⟩
          case measure => simp [intOf]; omega
        | some l =>
          obtain ⟨o', t', -, -, hl3⟩ := lineN_some hln
          have HR : Hid (((o' : Int) = o → ¬ (t' : Int) = t) → ∀ d', d' < d + 1 → lineN a b z k d' ≠ some ((k : Int), o, t)) := fun hne d' h e => by
            by_cases hh : d' = d
            · subst hh
              rw [hln, hl3] at e
              simp only [Option.some.injEq, Prod.mk.injEq, true_and] at e
              exact hne e.1 e.2
            · exact hno.out d' (by omega) e
          have HY : Hid ((o' : Int) = o → (t' : Int) = t → R = true) := fun e1 e2 => EY.out d hd4 (by rw [hln, hl3, e1, e2])
          clear hln hno
          subst hl3
          unfold lineV
          have hbl : Below w5.heap.size w5 (w5.alloc (.cells #[.int .i64 (k : Int), .int .i64 (o' : Int), .int .i64 (t' : Int)] 58)) := (Below.refl _ _).alloc (Nat.le_refl _) _
          have B6 := Lib.hid (B5.out.later hbl)
          clear hbl
          by_cases e1 : (o' : Int) = o
          · by_cases e2 : (t' : Int) = t
            · have HE := Lib.hid (HY.out e1 e2)
              rw [e1, e2] at B6
              go_wp2_with fail
              go_ret
              exact QB.of HE.out.symm B6.out.1.2.2.2.2
            · have HR' := Lib.hid (HR.out (fun _ => e2))
              rw [e1] at B6
              clear HY HR B5
              go_wp2_with fail
              go_roundw
              case rel => exact ⟨d + 1, by omega, by go_num, HR', B6⟩
              case measure => simp [intOf]; omega
          · have HR' := Lib.hid (HR.out (fun h => absurd h e1))
            clear HY HR B5
            go_wp2_with fail
            go_roundw
            case rel => exact ⟨d + 1, by omega, by go_num, HR', B6⟩
            case measure => simp [intOf]; omega
      · obtain rfl : d = 4 := by omega
        have HE := Lib.hid (EN.out hno.out)
        clear B2 hno
        go_wp2_with fail
        go_ret
        exact QB.of HE.out.symm hb1
theorem betw_lns (W H Z : Int) (l : Ln) : (betwL (lnsOf W H Z) l.1 l.2.2 == some l) = (lnsOf W H Z).contains l := by
  cases h : okB W H Z
  · rw [lnsOf_no h]; rfl
  · obtain ⟨a, b, N, z, rfl, rfl, rfl, ho⟩ := okNat h
    obtain ⟨hN, ha, -⟩ := ho.nat
    rw [lnsOf_ok ho]; exact betw_is hN ha l
theorem implHasLine' {W H Z : Int} (h : okB W H Z = true) (f o t : Int) (w : World) : Calls Try.prog 65 #[.agg #[.int .i64 W, .int .i64 H, .int .i64 Z], .agg #[.int .i64 f, .int .i64 o, .int .i64 t]] w (QB ((lnsOf W H Z).contains (f, o, t)) w) := by
  obtain ⟨a, b, N, z, rfl, rfl, rfl, ho⟩ := okNat h
  rw [lnsOf_ok ho]
  exact implHasLine ho f o t w
set_option maxHeartbeats 1000000 in
set_option maxRecDepth 100000 in
theorem specIs (W H Z f o t : Int) (w : World) : Calls Try.prog 68 #[.agg #[.int .i64 W, .int .i64 H, .int .i64 Z], .agg #[.int .i64 f, .int .i64 o, .int .i64 t]] w (QB ((lnsOf W H Z).contains (f, o, t)) w) := by
  have C1 := Lib.hid (fun w => specBetween W H Z f t w)
  have E := Lib.hid (betw_lns W H Z (f, o, t))
  generalize (lnsOf W H Z).contains (f, o, t) = R at *
  generalize hx : betwL (lnsOf W H Z) f t = x at *
  have E' : Hid ((x == some (f, o, t)) = R) := E
  clear E hx
  go_enter Try.func68, Try.ntmps68
  go_wp2_with fail
  have B0 := Lib.hid (bx2_new W H Z f o t 25 58 w)
  generalize (w.alloc (.cells #[.int .i64 W, .int .i64 H, .int .i64 Z] 25)).alloc (.cells #[.int .i64 f, .int .i64 o, .int .i64 t] 58) = W1 at *
  obtain ⟨⟨c0, c1, c2, hlt, hb1⟩, ⟨d0, d1, d2, hlt2, -⟩⟩ := B0.out
  go_wp2_with fail
  refine (C1.out _).mono ?_
  rintro e w1 ⟨rfl, hb⟩
  have B1 := Lib.hid (B0.out.later hb)
  clear c0 c1 c2 hlt hb1 d0 d1 d2 hlt2 hb B0
  obtain ⟨⟨c0, c1, c2, hlt, hb1⟩, ⟨d0, d1, d2, hlt2, -⟩⟩ := B1.out
  rcases x with _ | ⟨f', o', t'⟩
  · have E2 : Hid (R = false) := E'.out.symm
    unfold lineV
    go_wp2_with fail
    go_ret
    exact QB.of E2.out.symm (hb1.alloc hb1.size _)
  · have hb6 := hb1.alloc hb1.size (.cells #[.int .i64 f', .int .i64 o', .int .i64 t'] 58)
    have HB := Lib.hid hb6
    clear hb6
    unfold lineV
    by_cases e0 : f' = f
    · by_cases e1 : o' = o
      · by_cases e2 : t' = t
        · have E2 : Hid (R = true) := by unfold Hid; rw [← E'.out, e0, e1, e2]; simp
          rw [e0, e1, e2] at HB
          go_wp2_with fail
          go_ret
          exact QB.of E2.out.symm HB.out
        · have E2 : Hid (R = false) := by unfold Hid; rw [← E'.out]; simp [e2]
          rw [e0, e1] at HB
          go_wp2_with fail
          go_ret
          exact QB.of E2.out.symm HB.out
      · have E2 : Hid (R = false) := by unfold Hid; rw [← E'.out]; simp [e1]
        rw [e0] at HB
        go_wp2_with fail
        go_ret
        exact QB.of E2.out.symm HB.out
    · have E2 : Hid (R = false) := by unfold Hid; rw [← E'.out]; simp [e0]
      go_wp2_with fail
      go_ret
      exact QB.of E2.out.symm HB.out
end Go.Proofs.Ytdlpfpeblaapdaa
