/- The hole beside a hole, and the line from a hole in a direction: the program's and the model's. -/
import Derived.Test.YtdlpfpeblaapdaaCross
import Derived.Test.YtdlpfpeblaapdaaLines
import Derived.Test.YtdlpfpeblaapdaaScript
import Derived.IntWalk
namespace Go.Proofs.Ytdlpfpeblaapdaa
open Go.RowKit
set_option linter.unusedVariables false
def dxOf (d : Nat) : Int := if d = 0 then 1 else if d = 2 then -1 else 0
def dyOf (d : Nat) : Int := if d = 1 then 1 else if d = 0 ∨ d = 2 then 0 else -1
set_option maxRecDepth 100000 in
theorem implStepD (d : Nat) (hd : d < 4) (w : World) : Calls Try.prog 80 #[.int .i64 d] w fun e w' => e = .returned (.tuple #[.int .i64 (dxOf d), .int .i64 (dyOf d)]) ∧ w = w' := by
  match d, hd with
  | 0, _ | 1, _ | 2, _ | 3, _ =>
    go_enter Try.func80, Try.ntmps80
    go_wp2
    go_ret2
    exact ⟨rfl, rfl⟩
set_option maxRecDepth 100000 in
theorem implIndex (W H Z x y m N : Int) (w : World) (h0 : y * W = m) (h : m + x = N) (hx : 0 ≤ x) (hx' : x ≤ 7) (hm : m ≤ 49) (hm' : 0 ≤ m) : Calls Try.prog 81 #[.agg #[.int .i64 W, .int .i64 H, .int .i64 Z], .int .i64 x, .int .i64 y] w fun e w' => e = .returned (.int .i64 N) ∧ Below w.heap.size w w' := by
  go_enter Try.func81, Try.ntmps81
  go_wp2
  go_ret
  exact ⟨rfl, (Below.refl _ _).alloc (Nat.le_refl _) _⟩
set_option maxRecDepth 100000 in
theorem beside_out {W H : Int} {z k d : Nat} {x y dx dy X Y : Int} (w : World) (hw7 : W ≤ 7) (hh7 : H ≤ 7) (hd : d < 4)
    (hp : Hid (∀ w, Calls Try.prog 79 #[.agg #[.int .i64 W, .int .i64 H, .int .i64 z], .int .i64 k] w fun e w' => e = .returned (.tuple #[.int .i64 x, .int .i64 y]) ∧ Below w.heap.size w w'))
    (hs : Hid (∀ w, Calls Try.prog 80 #[.int .i64 d] w fun e w' => e = .returned (.tuple #[.int .i64 dx, .int .i64 dy]) ∧ w = w'))
    (hX : x + dx = X) (hY : y + dy = Y) (x0 : -1 ≤ X) (x7 : X ≤ 7) (y0 : -1 ≤ Y) (y7 : Y ≤ 7) (hout : X < 0 ∨ W ≤ X ∨ Y < 0 ∨ H ≤ Y) :
    Calls Try.prog 78 #[.agg #[.int .i64 W, .int .i64 H, .int .i64 z], .int .i64 k, .int .i64 d] w fun e w' => e = .returned (.tuple #[.int .i64 0, .bool false]) ∧ Below w.heap.size w w' := by
  by_cases c0 : X < 0
  · go_enter Try.func78, Try.ntmps78
    go_wp2_with fail
    have B0 := Lib.hid (box_new W H z w)
    generalize w.alloc (.cells #[.int .i64 W, .int .i64 H, .int .i64 z] 25) = W1 at *
    refine (hp.out _).mono ?_
    rintro e w1 ⟨rfl, hb⟩
    obtain ⟨c0, c1, c2, hlt, hb1⟩ := B0.out.later hb
    clear hb B0
    go_wp2_with fail
    refine (hs.out _).mono ?_
    rintro e w2 ⟨rfl, rfl⟩
    go_wp2_with fail
    go_ret2
    exact ⟨rfl, hb1⟩
  · have hout' : W ≤ X ∨ Y < 0 ∨ H ≤ Y := by omega
    clear hout
    by_cases c1 : W ≤ X
    · go_enter Try.func78, Try.ntmps78
      go_wp2_with fail
      have B0 := Lib.hid (box_new W H z w)
      generalize w.alloc (.cells #[.int .i64 W, .int .i64 H, .int .i64 z] 25) = W1 at *
      refine (hp.out _).mono ?_
      rintro e w1 ⟨rfl, hb⟩
      obtain ⟨c0, c1, c2, hlt, hb1⟩ := B0.out.later hb
      clear hb B0
      go_wp2_with fail
      refine (hs.out _).mono ?_
      rintro e w2 ⟨rfl, rfl⟩
      go_wp2_with fail
      go_ret2
      exact ⟨rfl, hb1⟩
    · have hout : Y < 0 ∨ H ≤ Y := by omega
      clear hout'
      by_cases c2 : Y < 0
      · go_enter Try.func78, Try.ntmps78
        go_wp2_with fail
        have B0 := Lib.hid (box_new W H z w)
        generalize w.alloc (.cells #[.int .i64 W, .int .i64 H, .int .i64 z] 25) = W1 at *
        refine (hp.out _).mono ?_
        rintro e w1 ⟨rfl, hb⟩
        obtain ⟨c0, c1, c2, hlt, hb1⟩ := B0.out.later hb
        clear hb B0
        go_wp2_with fail
        refine (hs.out _).mono ?_
        rintro e w2 ⟨rfl, rfl⟩
        go_wp2_with fail
        go_ret2
        exact ⟨rfl, hb1⟩
      · have c3 : H ≤ Y := by omega
        clear hout
        go_enter Try.func78, Try.ntmps78
        go_wp2_with fail
        have B0 := Lib.hid (box_new W H z w)
        generalize w.alloc (.cells #[.int .i64 W, .int .i64 H, .int .i64 z] 25) = W1 at *
        refine (hp.out _).mono ?_
        rintro e w1 ⟨rfl, hb⟩
        obtain ⟨c0, c1, c2, hlt, hb1⟩ := B0.out.later hb
        clear hb B0
        go_wp2_with fail
        refine (hs.out _).mono ?_
        rintro e w2 ⟨rfl, rfl⟩
        go_wp2_with fail
        go_ret2
        exact ⟨rfl, hb1⟩
set_option maxRecDepth 100000 in
theorem beside_in {W H : Int} {z k d j : Nat} {x y dx dy X Y m : Int} (w : World) (hw7 : W ≤ 7) (hh7 : H ≤ 7) (hd : d < 4)
    (hp : Hid (∀ w, Calls Try.prog 79 #[.agg #[.int .i64 W, .int .i64 H, .int .i64 z], .int .i64 k] w fun e w' => e = .returned (.tuple #[.int .i64 x, .int .i64 y]) ∧ Below w.heap.size w w'))
    (hs : Hid (∀ w, Calls Try.prog 80 #[.int .i64 d] w fun e w' => e = .returned (.tuple #[.int .i64 dx, .int .i64 dy]) ∧ w = w'))
    (hX : x + dx = X) (hY : y + dy = Y) (x0 : 0 ≤ X) (x7 : X < W) (y0 : 0 ≤ Y) (y7 : Y < H) (hm : Hid (Y * W = m)) (hj : Hid (m + X = j)) (m0 : 0 ≤ m) (m7 : m ≤ 49) (hj49 : j < 49) (b : Bool) (hbit : Hid (bit z j = b)) :
    Calls Try.prog 78 #[.agg #[.int .i64 W, .int .i64 H, .int .i64 z], .int .i64 k, .int .i64 d] w fun e w' => e = .returned (.tuple #[.int .i64 (if b then (j : Int) else 0), .bool b]) ∧ Below w.heap.size w w' := by
  have C1 := Lib.hid (fun w => implIndex W H z X Y m j w hm.out hj.out x0 (by omega) m7 m0)
  have C2 := Lib.hid (fun w => implBit W H z j w hj49)
  go_enter Try.func78, Try.ntmps78
  go_wp2_with fail
  have B0 := Lib.hid (box_new W H z w)
  generalize w.alloc (.cells #[.int .i64 W, .int .i64 H, .int .i64 z] 25) = W1 at *
  refine (hp.out _).mono ?_
  rintro e w1 ⟨rfl, hb⟩
  have B1 := Lib.hid (B0.out.later hb)
  obtain ⟨c0, c1, c2, hlt, hb1⟩ := B0.out.later hb
  clear hb B0
  go_wp2_with fail
  refine (hs.out _).mono ?_
  rintro e w2 ⟨rfl, rfl⟩
  go_wp2_with fail
  refine (C1.out _).mono ?_
  rintro e w3 ⟨rfl, hb⟩
  have B2 := Lib.hid (B1.out.later hb)
  clear c0 c1 c2 hlt hb1 hb B1
  obtain ⟨c0, c1, c2, hlt, hb1⟩ := B2.out
  go_wp2_with fail
  refine (C2.out _).mono ?_
  rintro e w4 ⟨rfl, hb⟩
  have B3 := Lib.hid (B2.out.later hb)
  clear c0 c1 c2 hlt hb1 hb B2
  rw [hbit.out]
  cases b
  · go_wp2_with fail
    go_ret2
    exact ⟨rfl, B3.out.2.2.2.2⟩
  · go_wp2_with fail
    go_ret2
    exact ⟨rfl, B3.out.2.2.2.2⟩
theorem nbr0 (a b k : Nat) : nbr a b k 0 = if k % a + 1 < a then some (k + 1) else none := rfl
theorem nbr1 (a b k : Nat) : nbr a b k 1 = if k / a + 1 < b then some (k + a) else none := rfl
theorem nbr2 (a b k : Nat) : nbr a b k 2 = if 1 ≤ k % a then some (k - 1) else none := rfl
theorem nbr3 (a b k : Nat) : nbr a b k 3 = if 1 ≤ k / a then some (k - a) else none := rfl
theorem nbr_cases {a b k d : Nat} (ha : 0 < a) (hk : k < a * b) (hd : d < 4) :
    (nbr a b k d = none ∧ (((k % a : Nat) : Int) + dxOf d < 0 ∨ (a : Int) ≤ ((k % a : Nat) : Int) + dxOf d ∨ ((k / a : Nat) : Int) + dyOf d < 0 ∨ (b : Int) ≤ ((k / a : Nat) : Int) + dyOf d)) ∨
    ∃ j m : Nat, nbr a b k d = some j ∧ j < a * b ∧ 0 ≤ ((k % a : Nat) : Int) + dxOf d ∧ ((k % a : Nat) : Int) + dxOf d < a ∧ 0 ≤ ((k / a : Nat) : Int) + dyOf d ∧ ((k / a : Nat) : Int) + dyOf d < b ∧ (((k / a : Nat) : Int) + dyOf d) * a = m ∧ (m : Int) + (((k % a : Nat) : Int) + dxOf d) = j := by
  obtain ⟨h1, h2, h3⟩ := place_of ha hk
  have hlt := fun j => nbr_lt (d := d) (j := j) ha hk
  match d, hd with
  | 0, _ =>
    rw [nbr0] at *
    rw [show dxOf 0 = 1 from rfl, show dyOf 0 = 0 from rfl]
    generalize k % a = x at *
    generalize k / a = y at *
    by_cases h : x + 1 < a
    · rw [if_pos h] at *
      exact .inr ⟨k + 1, y * a, rfl, hlt _ rfl, by omega, by omega, by omega, by omega, by simp, by omega⟩
    · rw [if_neg h]; exact .inl ⟨rfl, by omega⟩
  | 1, _ =>
    rw [nbr1] at *
    rw [show dxOf 1 = 0 from rfl, show dyOf 1 = 1 from rfl]
    generalize k % a = x at *
    generalize k / a = y at *
    by_cases h : y + 1 < b
    · rw [if_pos h] at *
      exact .inr ⟨k + a, (y + 1) * a, rfl, hlt _ rfl, by omega, by omega, by omega, by omega, by simp, by rw [Nat.succ_mul]; omega⟩
    · rw [if_neg h]; exact .inl ⟨rfl, by omega⟩
  | 2, _ =>
    rw [nbr2] at *
    rw [show dxOf 2 = -1 from rfl, show dyOf 2 = 0 from rfl]
    generalize k % a = x at *
    generalize k / a = y at *
    by_cases h : 1 ≤ x
    · rw [if_pos h] at *
      exact .inr ⟨k - 1, y * a, rfl, hlt _ rfl, by omega, by omega, by omega, by omega, by simp, by omega⟩
    · rw [if_neg h]; exact .inl ⟨rfl, by omega⟩
  | 3, _ =>
    rw [nbr3] at *
    rw [show dxOf 3 = 0 from rfl, show dyOf 3 = -1 from rfl]
    generalize k % a = x at *
    generalize k / a = y at *
    by_cases h : 1 ≤ y
    · rw [if_pos h] at *
      obtain ⟨y', rfl⟩ : ∃ y', y = y' + 1 := ⟨y - 1, by omega⟩
      rw [Nat.succ_mul] at h3
      exact .inr ⟨k - a, y' * a, rfl, hlt _ rfl, by omega, by omega, by omega, by omega, by rw [show ((y' + 1 : Nat) : Int) + -1 = (y' : Int) from by omega]; simp, by omega⟩
    · rw [if_neg h]; exact .inl ⟨rfl, by omega⟩
theorem dx_bd (d : Nat) : -1 ≤ dxOf d ∧ dxOf d ≤ 1 ∧ -1 ≤ dyOf d ∧ dyOf d ≤ 1 := by
  unfold dxOf dyOf
  repeat' split
  all_goals omega
theorem stepN_nbr {a b z k d j : Nat} (h : nbr a b k d = some j) : stepN a b z k d = if bit z j then some j else none := by simp [stepN, h]
theorem stepN_out {a b z k d : Nat} (h : nbr a b k d = none) : stepN a b z k d = none := by simp [stepN, h]
theorem Ok.nat {a b N z : Nat} (h : Ok (a : Int) (b : Int) N z) : a * b = N ∧ 0 < a ∧ a ≤ 7 ∧ 0 < b ∧ b ≤ 7 ∧ a * b ≤ 49 := by
  have h1 := h.wh; have h2 := h.w1; have h3 := h.w7; have h4 := h.h1; have h5 := h.h7; have h6 := h.n49
  have e : a * b = N := by have : ((a * b : Nat) : Int) = (N : Int) := by rw [Int.natCast_mul]; exact h1
                           omega
  omega
theorem implPlaceN {a b N z k : Nat} (h : Ok (a : Int) (b : Int) N z) (hk : k < a * b) (w : World) : Calls Try.prog 79 #[.agg #[.int .i64 a, .int .i64 b, .int .i64 z], .int .i64 k] w fun e w' => e = .returned (.tuple #[.int .i64 ((k % a : Nat) : Int), .int .i64 ((k / a : Nat) : Int)]) ∧ Below w.heap.size w w' := by
  have hn := h.nat
  have := implPlace (a : Int) (b : Int) (z : Int) k w (by omega) (by omega) (by omega)
  rw [← Int.natCast_emod, ← Int.natCast_ediv] at this
  exact this
def besideV (o : Option Nat) : Value := match o with
  | some j => .tuple #[.int .i64 j, .bool true]
  | none => .tuple #[.int .i64 0, .bool false]
theorem implBeside {a b N z k d : Nat} (h : Ok (a : Int) (b : Int) N z) (hk : k < a * b) (hd : d < 4) (w : World) :
    Calls Try.prog 78 #[.agg #[.int .i64 a, .int .i64 b, .int .i64 z], .int .i64 k, .int .i64 d] w fun e w' => e = .returned (besideV (stepN a b z k d)) ∧ Below w.heap.size w w' := by
  obtain ⟨hN, ha, ha7, hb, hb7, hab⟩ := h.nat
  obtain ⟨p1, p2, p3⟩ := place_of ha hk
  have hp := Lib.hid (fun w => implPlaceN h hk w)
  have hs := Lib.hid (fun w => implStepD d hd w)
  obtain ⟨d1, d2, d3, d4⟩ := dx_bd d
  have hc := nbr_cases ha hk hd
  generalize k % a = x at *
  generalize k / a = y at *
  rcases hc with ⟨h1, h2⟩ | ⟨j, m, h1, h2, x0, x1, y0, y1, hm, hj⟩
  · rw [stepN_out h1]
    exact beside_out w (by omega) (by omega) hd hp hs rfl rfl (by omega) (by omega) (by omega) (by omega) h2
  · rw [stepN_nbr h1]
    have hx := beside_in w (by omega) (by omega) hd hp hs rfl rfl x0 x1 y0 y1 hm hj (by omega) (by omega) (by omega) _ rfl
    cases hbit : bit z j
    · rw [hbit] at hx; exact hx
    · rw [hbit] at hx; exact hx
theorem stepN_at {a b z k d j : Nat} (ha : 0 < a) (hk : k < a * b) (h : stepN a b z k d = some j) : j < a * b := stepN_lt ha hk h
def lineV (o : Option Ln) : Value := match o with
  | some l => .tuple #[.agg #[.int .i64 l.1, .int .i64 l.2.1, .int .i64 l.2.2], .bool true]
  | none => .tuple #[.agg #[.int .i64 0, .int .i64 0, .int .i64 0], .bool false]
/-- A board's block and, behind it, the block of a line that is the result. -/
def Two (W H Z : Int) (w0 w : World) : Prop := Box w0.heap.size W H Z w0 w ∧ w.heap[w0.heap.size + 1]? = some (.cells #[.int .i64 0, .int .i64 0, .int .i64 0] 58 (0, 0)) ∧ w0.heap.size + 1 < w.heap.size
theorem two_new (W H Z : Int) (w : World) : Two W H Z w ((w.alloc (.cells #[.int .i64 W, .int .i64 H, .int .i64 Z] 25)).alloc (.cells #[.int .i64 0, .int .i64 0, .int .i64 0] 58)) := by
  refine ⟨(box_new W H Z w).later ((Below.refl _ _).alloc (Nat.le_refl _) _), ?_, by simp⟩
  have := heap_alloc_new (w.alloc (.cells #[.int .i64 W, .int .i64 H, .int .i64 Z] 25)) (.cells #[.int .i64 0, .int .i64 0, .int .i64 0] 58)
  rw [show (w.alloc (.cells #[.int .i64 W, .int .i64 H, .int .i64 Z] 25)).heap.size = w.heap.size + 1 from by simp] at this
  exact this
theorem Two.later {W H Z : Int} {w0 w w' : World} (h : Two W H Z w0 w) (hb : Below w.heap.size w w') : Two W H Z w0 w' :=
  ⟨h.1.later hb, row_later h.2.1 hb h.2.2, Nat.lt_of_lt_of_le h.2.2 hb.size⟩
set_option maxRecDepth 100000 in
theorem implLineFrom {a b N z k d : Nat} (h : Ok (a : Int) (b : Int) N z) (hk : k < a * b) (hd : d < 4) (w : World) :
    Calls Try.prog 73 #[.agg #[.int .i64 a, .int .i64 b, .int .i64 z], .int .i64 k, .int .i64 d] w fun e w' => e = .returned (lineV (lineN a b z k d)) ∧ Below w.heap.size w w' := by
  obtain ⟨hN, ha, ha7, hb, hb7, hab⟩ := h.nat
  have C1 := Lib.hid (fun w => implBeside h hk hd w)
  cases h1 : stepN a b z k d with
  | none =>
    have e1 : Hid (lineN a b z k d = none) := by unfold Hid; simp [lineN, h1]
    rw [h1] at C1
    clear h1 h hk hN
    go_enter Try.func73, Try.ntmps73
    go_wp2_with fail
    have B0 := Lib.hid (two_new a b z w)
    generalize (w.alloc (.cells #[.int .i64 (a : Int), .int .i64 (b : Int), .int .i64 (z : Int)] 25)).alloc (.cells #[.int .i64 0, .int .i64 0, .int .i64 0] 58) = W1 at *
    refine (C1.out _).mono ?_
    rintro e w1 ⟨rfl, hb1⟩
    have B1 := Lib.hid (B0.out.later hb1)
    clear hb1 B0
    unfold besideV
    obtain ⟨⟨c0, c1, c2, hlt, hbw⟩, hr, hlt2⟩ := B1.out
    obtain ⟨r0, r1, r2, f0, f1, f2⟩ := row_facts hr
    clear hr
    go_wp2_with fail
    rw [e1.out]
    exact bodyPost_ret (v := lineV none) (by simp [results, Try.results73, go_sem, lineV, r0, r1, r2]) rfl ⟨rfl, by repeat (first | exact hbw | refine set_below ?_ (by omega))⟩
  | some o =>
    have ho := stepN_at ha hk h1
    have C2 := Lib.hid (fun w => implBeside h ho hd w)
    cases h2 : stepN a b z o d with
    | none =>
      have e1 : Hid (lineN a b z k d = none) := by unfold Hid; simp [lineN, h1, h2]
      rw [h1] at C1
      rw [h2] at C2
      clear h1 h2 h hk hN
      go_enter Try.func73, Try.ntmps73
      go_wp2_with fail
      have B0 := Lib.hid (two_new a b z w)
      generalize (w.alloc (.cells #[.int .i64 (a : Int), .int .i64 (b : Int), .int .i64 (z : Int)] 25)).alloc (.cells #[.int .i64 0, .int .i64 0, .int .i64 0] 58) = W1 at *
      refine (C1.out _).mono ?_
      rintro e w1 ⟨rfl, hb1⟩
      have B1 := Lib.hid (B0.out.later hb1)
      clear hb1 B0
      unfold besideV
      obtain ⟨⟨c0, c1, c2, hlt, hbw⟩, hr, hlt2⟩ := B1.out
      obtain ⟨r0, r1, r2, f0, f1, f2⟩ := row_facts hr
      clear hr
      go_wp2_with fail
      refine (C2.out _).mono ?_
      rintro e w2 ⟨rfl, hb1⟩
      clear c0 c1 c2 hlt hbw r0 r1 r2 f0 f1 f2 hlt2
      have B2 := Lib.hid (B1.out.later hb1)
      clear hb1 B1
      unfold besideV
      obtain ⟨⟨c0, c1, c2, hlt, hbw⟩, hr, hlt2⟩ := B2.out
      obtain ⟨r0, r1, r2, f0, f1, f2⟩ := row_facts hr
      clear hr
      go_wp2_with fail
      rw [e1.out]
      exact bodyPost_ret (v := lineV none) (by simp [results, Try.results73, go_sem, lineV, r0, r1, r2]) rfl ⟨rfl, by repeat (first | exact hbw | refine set_below ?_ (by omega))⟩
    | some t =>
      have e1 : Hid (lineN a b z k d = some ((k : Int), (o : Int), (t : Int))) := by unfold Hid; simp [lineN, h1, h2]
      rw [h1] at C1
      rw [h2] at C2
      clear h1 h2 h hk hN
      go_enter Try.func73, Try.ntmps73
      go_wp2_with fail
      have B0 := Lib.hid (two_new a b z w)
      generalize (w.alloc (.cells #[.int .i64 (a : Int), .int .i64 (b : Int), .int .i64 (z : Int)] 25)).alloc (.cells #[.int .i64 0, .int .i64 0, .int .i64 0] 58) = W1 at *
      refine (C1.out _).mono ?_
      rintro e w1 ⟨rfl, hb1⟩
      have B1 := Lib.hid (B0.out.later hb1)
      clear hb1 B0
      unfold besideV
      obtain ⟨⟨c0, c1, c2, hlt, hbw⟩, hr, hlt2⟩ := B1.out
      obtain ⟨r0, r1, r2, f0, f1, f2⟩ := row_facts hr
      clear hr
      go_wp2_with fail
      refine (C2.out _).mono ?_
      rintro e w2 ⟨rfl, hb1⟩
      clear c0 c1 c2 hlt hbw r0 r1 r2 f0 f1 f2 hlt2
      have B2 := Lib.hid (B1.out.later hb1)
      clear hb1 B1
      unfold besideV
      obtain ⟨⟨c0, c1, c2, hlt, hbw⟩, hr, hlt2⟩ := B2.out
      obtain ⟨r0, r1, r2, f0, f1, f2⟩ := row_facts hr
      clear hr
      go_wp2_with fail
      rw [e1.out]
      exact bodyPost_ret (v := lineV (some ((k : Int), (o : Int), (t : Int)))) (by simp [results, Try.results73, go_sem, lineV, r0, r1, r2]) rfl ⟨rfl, by repeat (first | exact hbw | refine set_below ?_ (by omega))⟩
end Go.Proofs.Ytdlpfpeblaapdaa
