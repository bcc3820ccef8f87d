/- A line of a board and its pegs: hasLine, isBeforeJump, isAfterJump, flipLine of the program, l05Is and l05Bits of the model. -/
import Derived.Test.YtdlpfpeblaapdaaPegs
import Derived.Test.YtdlpfpeblaapdaaJumpMath
import Derived.Test.YtdlpfpeblaapdaaLinesE
namespace Go.Proofs.Ytdlpfpeblaapdaa
open Go.RowKit
set_option linter.unusedVariables false
set_option linter.unusedSimpArgs false
theorem lineM_lt {f o t : Nat} (hf : f < 49) (ho : o < 49) (ht : t < 49) : lineM f o t < 562949953421312 := by
  have p := fun {k : Nat} (h : k < 49) => (Nat.pow_lt_pow_right (by decide : 1 < 2) h : 2 ^ k < 2 ^ 49)
  exact Nat.or_lt_two_pow (Nat.or_lt_two_pow (p hf) (p ho)) (p ht)
theorem flipN_lt {p f o t : Nat} (hp : p < 562949953421312) (hf : f < 49) (ho : o < 49) (ht : t < 49) : flipN p f o t < 562949953421312 :=
  Nat.xor_lt_two_pow (n := 49) hp (lineM_lt hf ho ht)
theorem xor63 {a b : Nat} (ha : a < 9223372036854775808) (hb : b < 9223372036854775808) : bits .xor .i64 a b = ((a ^^^ b : Nat) : Int) := by
  show IntKind.i64.wrap ((BitVec.ofInt 64 a ^^^ BitVec.ofInt 64 b).toNat : Nat) = _
  rw [BitVec.ofInt_natCast, BitVec.ofInt_natCast, BitVec.toNat_xor, BitVec.toNat_ofNat, BitVec.toNat_ofNat, Nat.mod_eq_of_lt (show a < 2 ^ 64 by omega), Nat.mod_eq_of_lt (show b < 2 ^ 64 by omega)]
  have h2 : a ^^^ b < 2 ^ 63 := Nat.xor_lt_two_pow ha hb
  exact wrap63 _ (by omega) (by omega)
/-- A board and a line in the first two blocks. -/
def Bx2 (W H Z f o t : Int) (w0 w : World) : Prop := Box w0.heap.size W H Z w0 w ∧ Box (w0.heap.size + 1) f o t w0 w
theorem Bx2.later {W H Z f o t : Int} {w0 w w' : World} (h : Bx2 W H Z f o t w0 w) (hb : Below w.heap.size w w') : Bx2 W H Z f o t w0 w' := ⟨h.1.later hb, h.2.later hb⟩
theorem bx2_new (W H Z f o t : Int) (T T' : TypeId) (w : World) : Bx2 W H Z f o t w ((w.alloc (.cells #[.int .i64 W, .int .i64 H, .int .i64 Z] T)).alloc (.cells #[.int .i64 f, .int .i64 o, .int .i64 t] T')) := by
  have h1 := box_newT T W H Z w
  have h2 := box_newT T' f o t (w.alloc (.cells #[.int .i64 W, .int .i64 H, .int .i64 Z] T))
  have hs : (w.alloc (.cells #[.int .i64 W, .int .i64 H, .int .i64 Z] T)).heap.size = w.heap.size + 1 := by simp
  have h3 := h1.later ((Below.refl _ _).alloc (Nat.le_refl _) (.cells #[.int .i64 f, .int .i64 o, .int .i64 t] T'))
  rw [hs] at h2
  exact ⟨h3, h2.1, h2.2.1, h2.2.2.1, h2.2.2.2.1, h3.2.2.2.2⟩
set_option maxRecDepth 100000 in
theorem implBef (p f o t : Nat) (hf : f < 49) (ho : o < 49) (ht : t < 49) (w : World) : Calls Try.prog 66 #[.int .i64 p, .agg #[.int .i64 f, .int .i64 o, .int .i64 t]] w (QB (befN p f o t) w) := by
  have C1 := Lib.hid (fun w => isPeg p f hf w)
  have C2 := Lib.hid (fun w => isPeg p o ho w)
  have C3 := Lib.hid (fun w => isPeg p t ht w)
  unfold befN
  generalize bit p f = b1 at *
  generalize bit p o = b2 at *
  generalize bit p t = b3 at *
  cases b1
  · go_enter Try.func66, Try.ntmps66
    go_wp2_with fail
    have B0 := Lib.hid (box_newT 58 f o t w)
    generalize w.alloc (.cells #[.int .i64 (f : Int), .int .i64 (o : Int), .int .i64 (t : Int)] 58) = W1 at *
    obtain ⟨c0, c1, c2, hlt, hb1⟩ := B0.out
    go_wp2_with fail
    refine (C1.out _).mono ?_
    rintro e w1 ⟨rfl, rfl⟩
    go_wp2_with fail
    go_ret
    exact ⟨rfl, hb1⟩
  · cases b2
    · go_enter Try.func66, Try.ntmps66
      go_wp2_with fail
      have B0 := Lib.hid (box_newT 58 f o t w)
      generalize w.alloc (.cells #[.int .i64 (f : Int), .int .i64 (o : Int), .int .i64 (t : Int)] 58) = W1 at *
      obtain ⟨c0, c1, c2, hlt, hb1⟩ := B0.out
      go_wp2_with fail
      refine (C1.out _).mono ?_
      rintro e w1 ⟨rfl, rfl⟩
      go_wp2_with fail
      refine (C2.out _).mono ?_
      rintro e w1 ⟨rfl, rfl⟩
      go_wp2_with fail
      go_ret
      exact ⟨rfl, hb1⟩
    · go_enter Try.func66, Try.ntmps66
      go_wp2_with fail
      have B0 := Lib.hid (box_newT 58 f o t w)
      generalize w.alloc (.cells #[.int .i64 (f : Int), .int .i64 (o : Int), .int .i64 (t : Int)] 58) = W1 at *
      obtain ⟨c0, c1, c2, hlt, hb1⟩ := B0.out
      go_wp2_with fail
      refine (C1.out _).mono ?_
      rintro e w1 ⟨rfl, rfl⟩
      go_wp2_with fail
      refine (C2.out _).mono ?_
      rintro e w1 ⟨rfl, rfl⟩
      go_wp2_with fail
      refine (C3.out _).mono ?_
      rintro e w1 ⟨rfl, rfl⟩
      go_wp2_with fail
      go_ret
      exact ⟨rfl, hb1⟩
set_option maxRecDepth 100000 in
theorem implAft (p f o t : Nat) (hf : f < 49) (ho : o < 49) (ht : t < 49) (w : World) : Calls Try.prog 67 #[.int .i64 p, .agg #[.int .i64 f, .int .i64 o, .int .i64 t]] w (QB (aftN p f o t) w) := by
  have C1 := Lib.hid (fun w => isPeg p f hf w)
  have C2 := Lib.hid (fun w => isPeg p o ho w)
  have C3 := Lib.hid (fun w => isPeg p t ht w)
  unfold aftN
  generalize bit p f = b1 at *
  generalize bit p o = b2 at *
  generalize bit p t = b3 at *
  cases b3
  · go_enter Try.func67, Try.ntmps67
    go_wp2_with fail
    have B0 := Lib.hid (box_newT 58 f o t w)
    generalize w.alloc (.cells #[.int .i64 (f : Int), .int .i64 (o : Int), .int .i64 (t : Int)] 58) = W1 at *
    obtain ⟨c0, c1, c2, hlt, hb1⟩ := B0.out
    go_wp2_with fail
    refine (C3.out _).mono ?_
    rintro e w1 ⟨rfl, rfl⟩
    go_wp2_with fail
    go_ret
    exact ⟨rfl, hb1⟩
  · cases b1
    · go_enter Try.func67, Try.ntmps67
      go_wp2_with fail
      have B0 := Lib.hid (box_newT 58 f o t w)
      generalize w.alloc (.cells #[.int .i64 (f : Int), .int .i64 (o : Int), .int .i64 (t : Int)] 58) = W1 at *
      obtain ⟨c0, c1, c2, hlt, hb1⟩ := B0.out
      go_wp2_with fail
      refine (C3.out _).mono ?_
      rintro e w1 ⟨rfl, rfl⟩
      go_wp2_with fail
      refine (C1.out _).mono ?_
      rintro e w1 ⟨rfl, rfl⟩
      go_wp2_with fail
      refine (C2.out _).mono ?_
      rintro e w1 ⟨rfl, rfl⟩
      go_wp2_with fail
      go_ret
      exact ⟨rfl, hb1⟩
    · go_enter Try.func67, Try.ntmps67
      go_wp2_with fail
      have B0 := Lib.hid (box_newT 58 f o t w)
      generalize w.alloc (.cells #[.int .i64 (f : Int), .int .i64 (o : Int), .int .i64 (t : Int)] 58) = W1 at *
      obtain ⟨c0, c1, c2, hlt, hb1⟩ := B0.out
      go_wp2_with fail
      refine (C3.out _).mono ?_
      rintro e w1 ⟨rfl, rfl⟩
      go_wp2_with fail
      refine (C1.out _).mono ?_
      rintro e w1 ⟨rfl, rfl⟩
      go_wp2_with fail
      go_ret
      exact ⟨rfl, hb1⟩
set_option maxRecDepth 100000 in
theorem specBits (f o t : Nat) (hf : f < 49) (ho : o < 49) (ht : t < 49) (w : World) : Calls Try.prog 60 #[.agg #[.int .i64 f, .int .i64 o, .int .i64 t]] w (QI (lineM f o t : Nat) w) := by
  have hm := lineM_lt hf ho ht
  obtain ⟨q1, e1, n1, l1, u1⟩ := pow_nat f hf
  obtain ⟨q2, e2, n2, l2, u2⟩ := pow_nat o ho
  obtain ⟨q3, e3, n3, l3, u3⟩ := pow_nat t ht
  have h12 : q1 ||| q2 < 2 ^ 63 := Nat.or_lt_two_pow (by omega) (by omega)
  have hor1 := or63 (a := q1) (b := q2) (by omega) (by omega)
  have hor2 := or63 (a := q1 ||| q2) (b := q3) h12 (by omega)
  rw [show q1 ||| q2 ||| q3 = lineM f o t by rw [lineM, n1, n2, n3]] at hor2
  have hw1 : IntKind.i64.wrap (q1 : Int) = (q1 : Int) := IntWalk.i64_in _ (by omega)
  have hw2 : IntKind.i64.wrap (q2 : Int) = (q2 : Int) := IntWalk.i64_in _ (by omega)
  have hw3 : IntKind.i64.wrap (q3 : Int) = (q3 : Int) := IntWalk.i64_in _ (by omega)
  generalize q1 ||| q2 = r at *
  generalize lineM f o t = m at *
  clear n1 n2 n3
  go_enter Try.func60, Try.ntmps60
  go_wp2_with fail
  have B0 := Lib.hid (box_newT 58 f o t w)
  generalize w.alloc (.cells #[.int .i64 (f : Int), .int .i64 (o : Int), .int .i64 (t : Int)] 58) = W1 at *
  refine wp_region_script (by kernel_rfl) (by kernel_rfl) ?_
  refine Script.load (i := 0) (v := ?_) rfl (by kernel_rfl) (by kernel_rfl) (fun _ _ _ h => h) (by kernel_rfl) ?_ ?_
  rotate_left
  · (intro wS hSw; obtain ⟨c0, c1, c2, -, -⟩ := B0.out.later (After.trans (After.drew (After.refl _)) hSw); go_simp; try with_reducible rfl)
  try simp only [Act.put, List.getElem_toArray, List.getElem_cons_succ, List.getElem_cons_zero, List.setIfInBounds_toArray, List.set_cons_zero, List.set_cons_succ]
  refine Script.load (i := 1) (v := ?_) rfl (by kernel_rfl) (by kernel_rfl) (fun _ _ _ h => h) (by kernel_rfl) ?_ ?_
  rotate_left
  · (intro wS hSw; obtain ⟨c0, c1, c2, -, -⟩ := B0.out.later (After.trans (After.drew (After.refl _)) hSw); go_simp; try with_reducible rfl)
  try simp only [Act.put, List.getElem_toArray, List.getElem_cons_succ, List.getElem_cons_zero, List.setIfInBounds_toArray, List.set_cons_zero, List.set_cons_succ]
  refine Script.load (i := 2) (v := ?_) rfl (by kernel_rfl) (by kernel_rfl) (fun _ _ _ h => h) (by kernel_rfl) ?_ ?_
  rotate_left
  · (intro wS hSw; obtain ⟨c0, c1, c2, -, -⟩ := B0.out.later (After.trans (After.drew (After.refl _)) hSw); go_simp; try with_reducible rfl)
  try simp only [Act.put, List.getElem_toArray, List.getElem_cons_succ, List.getElem_cons_zero, List.setIfInBounds_toArray, List.set_cons_zero, List.set_cons_succ]
  refine Script.load (i := 3) (v := ?_) rfl (by kernel_rfl) (by kernel_rfl) (fun _ _ _ h => h) (by kernel_rfl) ?_ ?_
  rotate_left
  · (intro wS hSw; obtain ⟨c0, c1, c2, -, -⟩ := B0.out.later (After.trans (After.drew (After.refl _)) hSw); go_simp; try with_reducible rfl)
  try simp only [Act.put, List.getElem_toArray, List.getElem_cons_succ, List.getElem_cons_zero, List.setIfInBounds_toArray, List.set_cons_zero, List.set_cons_succ]
  refine Script.load (i := 4) (v := ?_) rfl (by kernel_rfl) (by kernel_rfl) (fun _ _ _ h => h) (by kernel_rfl) ?_ ?_
  rotate_left
  · (intro wS hSw; obtain ⟨c0, c1, c2, -, -⟩ := B0.out.later (After.trans (After.drew (After.refl _)) hSw); go_simp; try with_reducible rfl)
  try simp only [Act.put, List.getElem_toArray, List.getElem_cons_succ, List.getElem_cons_zero, List.setIfInBounds_toArray, List.set_cons_zero, List.set_cons_succ]
  refine Script.load (i := 5) (v := ?_) rfl (by kernel_rfl) (by kernel_rfl) (fun _ _ _ h => h) (by kernel_rfl) ?_ ?_
  rotate_left
  · (intro wS hSw; obtain ⟨c0, c1, c2, -, -⟩ := B0.out.later (After.trans (After.drew (After.refl _)) hSw); go_simp; try with_reducible rfl)
  try simp only [Act.put, List.getElem_toArray, List.getElem_cons_succ, List.getElem_cons_zero, List.setIfInBounds_toArray, List.set_cons_zero, List.set_cons_succ]
  refine Script.load (i := 6) (v := ?_) rfl (by kernel_rfl) (by kernel_rfl) (fun _ _ _ h => h) (by kernel_rfl) ?_ ?_
  rotate_left
  · (intro wS hSw; obtain ⟨c0, c1, c2, -, -⟩ := B0.out.later (After.trans (After.drew (After.refl _)) hSw); go_simp; try with_reducible rfl)
  try simp only [Act.put, List.getElem_toArray, List.getElem_cons_succ, List.getElem_cons_zero, List.setIfInBounds_toArray, List.set_cons_zero, List.set_cons_succ]
  refine Script.load (i := 7) (v := ?_) rfl (by kernel_rfl) (by kernel_rfl) (fun _ _ _ h => h) (by kernel_rfl) ?_ ?_
  rotate_left
  · (intro wS hSw; obtain ⟨c0, c1, c2, -, -⟩ := B0.out.later (After.trans (After.drew (After.refl _)) hSw); go_simp; try with_reducible rfl)
  try simp only [Act.put, List.getElem_toArray, List.getElem_cons_succ, List.getElem_cons_zero, List.setIfInBounds_toArray, List.set_cons_zero, List.set_cons_succ]
  refine Script.load (i := 8) (v := ?_) rfl (by kernel_rfl) (by kernel_rfl) (fun _ _ _ h => h) (by kernel_rfl) ?_ ?_
  rotate_left
  · (intro wS hSw; obtain ⟨c0, c1, c2, -, -⟩ := B0.out.later (After.trans (After.drew (After.refl _)) hSw); go_simp; try with_reducible rfl)
  try simp only [Act.put, List.getElem_toArray, List.getElem_cons_succ, List.getElem_cons_zero, List.setIfInBounds_toArray, List.set_cons_zero, List.set_cons_succ]
  refine Script.load (i := 9) (v := ?_) rfl (by kernel_rfl) (by kernel_rfl) (fun _ _ _ h => h) (by kernel_rfl) ?_ ?_
  rotate_left
  · (intro wS hSw; obtain ⟨c0, c1, c2, -, -⟩ := B0.out.later (After.trans (After.drew (After.refl _)) hSw); go_simp; try with_reducible rfl)
  try simp only [Act.put, List.getElem_toArray, List.getElem_cons_succ, List.getElem_cons_zero, List.setIfInBounds_toArray, List.set_cons_zero, List.set_cons_succ]
  refine Script.load (i := 10) (v := ?_) rfl (by kernel_rfl) (by kernel_rfl) (fun _ _ _ h => h) (by kernel_rfl) ?_ ?_
  rotate_left
  · (intro wS hSw; obtain ⟨c0, c1, c2, -, -⟩ := B0.out.later (After.trans (After.drew (After.refl _)) hSw); go_simp; try with_reducible rfl)
  try simp only [Act.put, List.getElem_toArray, List.getElem_cons_succ, List.getElem_cons_zero, List.setIfInBounds_toArray, List.set_cons_zero, List.set_cons_succ]
  refine Script.load (i := 11) (v := ?_) rfl (by kernel_rfl) (by kernel_rfl) (fun _ _ _ h => h) (by kernel_rfl) ?_ ?_
  rotate_left
  · (intro wS hSw; obtain ⟨c0, c1, c2, -, -⟩ := B0.out.later (After.trans (After.drew (After.refl _)) hSw); go_simp; try with_reducible rfl)
  try simp only [Act.put, List.getElem_toArray, List.getElem_cons_succ, List.getElem_cons_zero, List.setIfInBounds_toArray, List.set_cons_zero, List.set_cons_succ]
  refine Script.done (by kernel_rfl) ?_
  intro wD hD hG
  have B1 := Lib.hid (B0.out.later (After.trans (After.drew (After.refl _)) hD))
  clear hD hG B0
  go_wp2_with fail
  go_ret
  exact ⟨rfl, B1.out.2.2.2.2⟩
set_option maxRecDepth 100000 in
theorem implFlip (p f o t : Nat) (hp : p < 562949953421312) (hf : f < 49) (ho : o < 49) (ht : t < 49) (w : World) : Calls Try.prog 40 #[.int .i64 p, .agg #[.int .i64 f, .int .i64 o, .int .i64 t]] w (QI (flipN p f o t : Nat) w) := by
  have hm := lineM_lt hf ho ht
  obtain ⟨q1, e1, n1, l1, u1⟩ := pow_nat f hf
  obtain ⟨q2, e2, n2, l2, u2⟩ := pow_nat o ho
  obtain ⟨q3, e3, n3, l3, u3⟩ := pow_nat t ht
  have h12 : q1 ||| q2 < 2 ^ 63 := Nat.or_lt_two_pow (by omega) (by omega)
  have hor1 := or63 (a := q1) (b := q2) (by omega) (by omega)
  have hor2 := or63 (a := q1 ||| q2) (b := q3) h12 (by omega)
  rw [show q1 ||| q2 ||| q3 = lineM f o t by rw [lineM, n1, n2, n3]] at hor2
  have hxor := xor63 (a := p) (b := lineM f o t) (by omega) (by omega)
  unfold flipN
  have hw1 : IntKind.i64.wrap (q1 : Int) = (q1 : Int) := IntWalk.i64_in _ (by omega)
  have hw2 : IntKind.i64.wrap (q2 : Int) = (q2 : Int) := IntWalk.i64_in _ (by omega)
  have hw3 : IntKind.i64.wrap (q3 : Int) = (q3 : Int) := IntWalk.i64_in _ (by omega)
  generalize q1 ||| q2 = r at *
  generalize lineM f o t = m at *
  generalize p ^^^ m = x at *
  clear n1 n2 n3
  go_enter Try.func40, Try.ntmps40
  go_wp2_with fail
  have B0 := Lib.hid (box_newT 58 f o t w)
  generalize w.alloc (.cells #[.int .i64 (f : Int), .int .i64 (o : Int), .int .i64 (t : Int)] 58) = W1 at *
  refine wp_region_script (by kernel_rfl) (by kernel_rfl) ?_
  refine Script.load (i := 0) (v := ?_) rfl (by kernel_rfl) (by kernel_rfl) (fun _ _ _ h => h) (by kernel_rfl) ?_ ?_
  rotate_left
  · (intro wS hSw; obtain ⟨c0, c1, c2, -, -⟩ := B0.out.later (After.trans (After.drew (After.refl _)) hSw); go_simp; try with_reducible rfl)
  try simp only [Act.put, List.getElem_toArray, List.getElem_cons_succ, List.getElem_cons_zero, List.setIfInBounds_toArray, List.set_cons_zero, List.set_cons_succ]
  refine Script.load (i := 1) (v := ?_) rfl (by kernel_rfl) (by kernel_rfl) (fun _ _ _ h => h) (by kernel_rfl) ?_ ?_
  rotate_left
  · (intro wS hSw; obtain ⟨c0, c1, c2, -, -⟩ := B0.out.later (After.trans (After.drew (After.refl _)) hSw); go_simp; try with_reducible rfl)
  try simp only [Act.put, List.getElem_toArray, List.getElem_cons_succ, List.getElem_cons_zero, List.setIfInBounds_toArray, List.set_cons_zero, List.set_cons_succ]
  refine Script.load (i := 2) (v := ?_) rfl (by kernel_rfl) (by kernel_rfl) (fun _ _ _ h => h) (by kernel_rfl) ?_ ?_
  rotate_left
  · (intro wS hSw; obtain ⟨c0, c1, c2, -, -⟩ := B0.out.later (After.trans (After.drew (After.refl _)) hSw); go_simp; try with_reducible rfl)
  try simp only [Act.put, List.getElem_toArray, List.getElem_cons_succ, List.getElem_cons_zero, List.setIfInBounds_toArray, List.set_cons_zero, List.set_cons_succ]
  refine Script.load (i := 3) (v := ?_) rfl (by kernel_rfl) (by kernel_rfl) (fun _ _ _ h => h) (by kernel_rfl) ?_ ?_
  rotate_left
  · (intro wS hSw; obtain ⟨c0, c1, c2, -, -⟩ := B0.out.later (After.trans (After.drew (After.refl _)) hSw); go_simp; try with_reducible rfl)
  try simp only [Act.put, List.getElem_toArray, List.getElem_cons_succ, List.getElem_cons_zero, List.setIfInBounds_toArray, List.set_cons_zero, List.set_cons_succ]
  refine Script.load (i := 4) (v := ?_) rfl (by kernel_rfl) (by kernel_rfl) (fun _ _ _ h => h) (by kernel_rfl) ?_ ?_
  rotate_left
  · (intro wS hSw; obtain ⟨c0, c1, c2, -, -⟩ := B0.out.later (After.trans (After.drew (After.refl _)) hSw); go_simp; try with_reducible rfl)
  try simp only [Act.put, List.getElem_toArray, List.getElem_cons_succ, List.getElem_cons_zero, List.setIfInBounds_toArray, List.set_cons_zero, List.set_cons_succ]
  refine Script.load (i := 5) (v := ?_) rfl (by kernel_rfl) (by kernel_rfl) (fun _ _ _ h => h) (by kernel_rfl) ?_ ?_
  rotate_left
  · (intro wS hSw; obtain ⟨c0, c1, c2, -, -⟩ := B0.out.later (After.trans (After.drew (After.refl _)) hSw); go_simp; try with_reducible rfl)
  try simp only [Act.put, List.getElem_toArray, List.getElem_cons_succ, List.getElem_cons_zero, List.setIfInBounds_toArray, List.set_cons_zero, List.set_cons_succ]
  refine Script.load (i := 6) (v := ?_) rfl (by kernel_rfl) (by kernel_rfl) (fun _ _ _ h => h) (by kernel_rfl) ?_ ?_
  rotate_left
  · (intro wS hSw; obtain ⟨c0, c1, c2, -, -⟩ := B0.out.later (After.trans (After.drew (After.refl _)) hSw); go_simp; try with_reducible rfl)
  try simp only [Act.put, List.getElem_toArray, List.getElem_cons_succ, List.getElem_cons_zero, List.setIfInBounds_toArray, List.set_cons_zero, List.set_cons_succ]
  refine Script.load (i := 7) (v := ?_) rfl (by kernel_rfl) (by kernel_rfl) (fun _ _ _ h => h) (by kernel_rfl) ?_ ?_
  rotate_left
  · (intro wS hSw; obtain ⟨c0, c1, c2, -, -⟩ := B0.out.later (After.trans (After.drew (After.refl _)) hSw); go_simp; try with_reducible rfl)
  try simp only [Act.put, List.getElem_toArray, List.getElem_cons_succ, List.getElem_cons_zero, List.setIfInBounds_toArray, List.set_cons_zero, List.set_cons_succ]
  refine Script.load (i := 8) (v := ?_) rfl (by kernel_rfl) (by kernel_rfl) (fun _ _ _ h => h) (by kernel_rfl) ?_ ?_
  rotate_left
  · (intro wS hSw; obtain ⟨c0, c1, c2, -, -⟩ := B0.out.later (After.trans (After.drew (After.refl _)) hSw); go_simp; try with_reducible rfl)
  try simp only [Act.put, List.getElem_toArray, List.getElem_cons_succ, List.getElem_cons_zero, List.setIfInBounds_toArray, List.set_cons_zero, List.set_cons_succ]
  refine Script.load (i := 9) (v := ?_) rfl (by kernel_rfl) (by kernel_rfl) (fun _ _ _ h => h) (by kernel_rfl) ?_ ?_
  rotate_left
  · (intro wS hSw; obtain ⟨c0, c1, c2, -, -⟩ := B0.out.later (After.trans (After.drew (After.refl _)) hSw); go_simp; try with_reducible rfl)
  try simp only [Act.put, List.getElem_toArray, List.getElem_cons_succ, List.getElem_cons_zero, List.setIfInBounds_toArray, List.set_cons_zero, List.set_cons_succ]
  refine Script.load (i := 10) (v := ?_) rfl (by kernel_rfl) (by kernel_rfl) (fun _ _ _ h => h) (by kernel_rfl) ?_ ?_
  rotate_left
  · (intro wS hSw; obtain ⟨c0, c1, c2, -, -⟩ := B0.out.later (After.trans (After.drew (After.refl _)) hSw); go_simp; try with_reducible rfl)
  try simp only [Act.put, List.getElem_toArray, List.getElem_cons_succ, List.getElem_cons_zero, List.setIfInBounds_toArray, List.set_cons_zero, List.set_cons_succ]
  refine Script.load (i := 11) (v := ?_) rfl (by kernel_rfl) (by kernel_rfl) (fun _ _ _ h => h) (by kernel_rfl) ?_ ?_
  rotate_left
  · (intro wS hSw; obtain ⟨c0, c1, c2, -, -⟩ := B0.out.later (After.trans (After.drew (After.refl _)) hSw); go_simp; try with_reducible rfl)
  try simp only [Act.put, List.getElem_toArray, List.getElem_cons_succ, List.getElem_cons_zero, List.setIfInBounds_toArray, List.set_cons_zero, List.set_cons_succ]
  refine Script.load (i := 12) (v := ?_) rfl (by kernel_rfl) (by kernel_rfl) (fun _ _ _ h => h) (by kernel_rfl) ?_ ?_
  rotate_left
  · (intro wS hSw; obtain ⟨c0, c1, c2, -, -⟩ := B0.out.later (After.trans (After.drew (After.refl _)) hSw); go_simp; try with_reducible rfl)
  try simp only [Act.put, List.getElem_toArray, List.getElem_cons_succ, List.getElem_cons_zero, List.setIfInBounds_toArray, List.set_cons_zero, List.set_cons_succ]
  refine Script.load (i := 13) (v := ?_) rfl (by kernel_rfl) (by kernel_rfl) (fun _ _ _ h => h) (by kernel_rfl) ?_ ?_
  rotate_left
  · (intro wS hSw; obtain ⟨c0, c1, c2, -, -⟩ := B0.out.later (After.trans (After.drew (After.refl _)) hSw); go_simp; try with_reducible rfl)
  try simp only [Act.put, List.getElem_toArray, List.getElem_cons_succ, List.getElem_cons_zero, List.setIfInBounds_toArray, List.set_cons_zero, List.set_cons_succ]
  refine Script.done (by kernel_rfl) ?_
  intro wD hD hG
  have B1 := Lib.hid (B0.out.later (After.trans (After.drew (After.refl _)) hD))
  clear hD hG B0
  go_wp2_with fail
  go_ret
  exact ⟨rfl, B1.out.2.2.2.2⟩
end Go.Proofs.Ytdlpfpeblaapdaa
