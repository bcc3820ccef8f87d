/- Jumps in numbers: the holes of a line as a sum, what a jump needs, what it makes. Of no program. A line of a board and its pegs: hasLine, isBeforeJump, isAfterJump, flipLine of the program, l05Is and l05Bits of the model. Whether a line is one of a board: hasLine of the program, l05Is of the model. Jumps: CanJump, DoJump of both. Undone jumps: CanUndo, UndoJump of both. DoJump, JumpsOf of both. UndoJump, UndosOf of both. JumpsOf of the model. UndosOf of the model. -/
import Derived.Test.YtgkmapemnlgldaaPegsAll
import Derived.Test.YtgkmapemnlgldaaLinesAll
namespace Go.Proofs.Ytgkmapemnlgldaa
/-- The holes of a line as a sum. -/
def lineM (f o t : Nat) : Nat := 2 ^ f ||| 2 ^ o ||| 2 ^ t
def befN (p f o t : Nat) : Bool := bit p f && bit p o && !bit p t
def aftN (p f o t : Nat) : Bool := bit p t && !bit p f && !bit p o
/-- The position with each hole of a line changed. -/
def flipN (p f o t : Nat) : Nat := p ^^^ lineM f o t
theorem bit_line (f o t j : Nat) : bit (lineM f o t) j = (decide (f = j) || decide (o = j) || decide (t = j)) := by rw [lineM, bit_or, bit_or, bit_pow, bit_pow, bit_pow]
theorem bit_flip (p f o t j : Nat) : bit (flipN p f o t) j = (bit p j ^^ (decide (f = j) || decide (o = j) || decide (t = j))) := by rw [flipN, bit_xor, bit_line]
theorem and_bef {p f o t : Nat} (h1 : f ≠ o) (h2 : f ≠ t) (h3 : o ≠ t) : (p &&& lineM f o t == 2 ^ f ||| 2 ^ o) = befN p f o t := by
  have hb : ∀ j, bit (p &&& lineM f o t) j = (bit p j && (decide (f = j) || decide (o = j) || decide (t = j))) := fun j => by rw [bit_and, bit_line]
  have hc : ∀ j, bit (2 ^ f ||| 2 ^ o) j = (decide (f = j) || decide (o = j)) := fun j => by rw [bit_or, bit_pow, bit_pow]
  rw [Bool.eq_iff_iff, beq_iff_eq]
  constructor
  · intro e
    have ef := hb f; have eo := hb o; have et := hb t
    rw [e, hc] at ef eo et
    simp [h1, h2, h3, h1.symm, h2.symm, h3.symm] at ef eo et
    simp [befN, ef, eo, et]
  · intro e
    simp only [befN, Bool.and_eq_true, Bool.not_eq_true'] at e
    refine eq_of_bits fun j => ?_
    rw [hb, hc]
    by_cases j1 : f = j
    · subst j1; simp [e.1.1]
    · by_cases j2 : o = j
      · subst j2; simp [e.1.2]
      · by_cases j3 : t = j
        · subst j3; simp [e.2, h2, h3]
        · simp [j1, j2, j3]
theorem and_aft {p f o t : Nat} (h1 : f ≠ o) (h2 : f ≠ t) (h3 : o ≠ t) : (p &&& lineM f o t == 2 ^ t) = aftN p f o t := by
  have hb : ∀ j, bit (p &&& lineM f o t) j = (bit p j && (decide (f = j) || decide (o = j) || decide (t = j))) := fun j => by rw [bit_and, bit_line]
  rw [Bool.eq_iff_iff, beq_iff_eq]
  constructor
  · intro e
    have ef := hb f; have eo := hb o; have et := hb t
    rw [e, bit_pow] at ef eo et
    simp [h1, h2, h3, h1.symm, h2.symm, h3.symm] at ef eo et
    simp [aftN, ef, eo, ← et]
  · intro e
    simp only [aftN, Bool.and_eq_true, Bool.not_eq_true'] at e
    refine eq_of_bits fun j => ?_
    rw [hb, bit_pow]
    by_cases j1 : f = j
    · subst j1; simp [e.1.2, h2.symm]
    · by_cases j2 : o = j
      · subst j2; simp [e.2, h3.symm]
      · by_cases j3 : t = j
        · subst j3; simp [e.1.1]
        · simp [j1, j2, j3]
theorem flip_flip (p f o t : Nat) : flipN (flipN p f o t) f o t = p := eq_of_bits fun j => by
  rw [bit_flip, bit_flip]
  cases bit p j <;> cases (decide (f = j) || decide (o = j) || decide (t = j)) <;> rfl
theorem part_flip {p z f o t : Nat} (h : Part p z) (hf : bit z f = true) (ho : bit z o = true) (ht : bit z t = true) : Part (flipN p f o t) z := part_of fun j hj => by
  rw [bit_flip] at hj
  by_cases j1 : f = j
  · subst j1; exact hf
  · by_cases j2 : o = j
    · subst j2; exact ho
    · by_cases j3 : t = j
      · subst j3; exact ht
      · simp [j1, j2, j3] at hj; exact h.bit hj
theorem aft_flip {p f o t : Nat} (h : befN p f o t = true) : aftN (flipN p f o t) f o t = true := by
  simp only [befN, Bool.and_eq_true, Bool.not_eq_true'] at h
  simp [aftN, bit_flip, h.1.1, h.1.2, h.2]
theorem bef_flip {p f o t : Nat} (h : aftN p f o t = true) : befN (flipN p f o t) f o t = true := by
  simp only [aftN, Bool.and_eq_true, Bool.not_eq_true'] at h
  simp [befN, bit_flip, h.1.1, h.1.2, h.2]
theorem not_aft {p f o t : Nat} (h : befN p f o t = true) : aftN p f o t = false := by
  simp only [befN, Bool.and_eq_true, Bool.not_eq_true'] at h
  simp [aftN, h.2]
theorem pc_put {p k : Nat} (hb : bit p k = false) : ∀ n, k < n → pc n (putB p k) = pc n p + 1 := by
  have low : ∀ n, n ≤ k → pc n (putB p k) = pc n p := by
    intro n
    induction n with
    | zero => intro _; rfl
    | succ n ih =>
      intro hn
      rw [pc_next, pc_next, ih (by omega), bit_put]
      simp [show ¬ k = n by omega]
  intro n
  induction n with
  | zero => intro h; omega
  | succ n ih =>
    intro hn
    rw [pc_next, pc_next, bit_put]
    by_cases e : k = n
    · subst e; rw [low k (Nat.le_refl _), hb]; simp
    · rw [ih (by omega)]; simp [e]; omega
theorem pc_drop {p k n : Nat} (hb : bit p k = true) (hn : k < n) : pc n (dropB p k) + 1 = pc n p := by
  have h := pc_put (p := dropB p k) (k := k) (by rw [bit_drop]; simp) n hn
  rw [put_drop, put_yes hb] at h
  exact h.symm
/-- A jump removes one peg. -/
theorem pc_flip {p f o t n : Nat} (h1 : f ≠ o) (h2 : f ≠ t) (h3 : o ≠ t) (hf : f < n) (ho : o < n) (ht : t < n) (h : befN p f o t = true) : pc n (flipN p f o t) + 1 = pc n p := by
  simp only [befN, Bool.and_eq_true, Bool.not_eq_true'] at h
  have e : flipN p f o t = putB (dropB (dropB p f) o) t := eq_of_bits fun j => by
    rw [bit_flip, bit_put, bit_drop, bit_drop]
    by_cases j1 : f = j
    · subst j1; simp [h.1.1, h2.symm]
    · by_cases j2 : o = j
      · subst j2; simp [h.1.2, h3.symm]
      · by_cases j3 : t = j
        · subst j3; simp [h.2]
        · simp [j1, j2, j3]
  have a1 := pc_drop h.1.1 hf
  have a2 := pc_drop (p := dropB p f) (k := o) (n := n) (by rw [bit_drop]; simp [h.1.2, h1]) ho
  have a3 := pc_put (p := dropB (dropB p f) o) (k := t) (by rw [bit_drop, bit_drop]; simp [h.2]) n ht
  rw [e]
  omega

/-! lines as triples of integers -/
def befL (P : Int) (l : Ln) : Bool := befN P.toNat l.1.toNat l.2.1.toNat l.2.2.toNat
def aftL (P : Int) (l : Ln) : Bool := aftN P.toNat l.1.toNat l.2.1.toNat l.2.2.toNat
def flipL (P : Int) (l : Ln) : Int := (flipN P.toNat l.1.toNat l.2.1.toNat l.2.2.toNat : Nat)
/-- What is told of a line of a board. -/
structure LnAt (a b z : Nat) (l : Ln) (f o t : Nat) : Prop where
  eq : l = ((f : Int), (o : Int), (t : Int))
  fN : f < a * b
  oN : o < a * b
  tN : t < a * b
  fo : f ≠ o
  ft : f ≠ t
  ot : o ≠ t
  bf : bit z f = true
  bo : bit z o = true
  bt : bit z t = true
theorem isLine.at {a b z : Nat} {l : Ln} (ha : 0 < a) (h : isLine a b z l) : ∃ f o t, LnAt a b z l f o t := by
  obtain ⟨-, m1, m2, m3⟩ := h.mid ha
  obtain ⟨k, o, t, d, hd, hk, hz, h1, h2, rfl⟩ := h
  have ho := stepN_lt ha hk h1
  simp only at m1 m2 m3
  exact ⟨k, o, t, rfl, hk, ho, stepN_lt ha ho h2, by omega, by omega, by omega, hz, (stepN_some h1).2, (stepN_some h2).2⟩
theorem mem_at {a b N z : Nat} (hN : a * b = N) (ha : 0 < a) {l : Ln} (h : l ∈ linesOf a b z (bitsOf N z)) : ∃ f o t, LnAt a b z l f o t := ((mem_lines hN).1 h).at ha
/-- A line is that between its ends. -/
theorem betw_is {a b N z : Nat} (hN : a * b = N) (ha : 0 < a) (l : Ln) : (betwL (linesOf a b z (bitsOf N z)) l.1 l.2.2 == some l) = (linesOf a b z (bitsOf N z)).contains l := by
  cases hc : (linesOf a b z (bitsOf N z)).contains l
  · rw [beq_eq_false_iff_ne]
    intro e
    have := List.mem_of_find?_eq_some e
    rw [← List.contains_iff_mem] at this
    rw [this] at hc; cases hc
  · rw [List.contains_iff_mem] at hc
    rw [betw_self hN ha hc]; simp
end Go.Proofs.Ytgkmapemnlgldaa

namespace Go.Proofs.Ytgkmapemnlgldaa
open Go.RowKit
set_option linter.unusedVariables false
set_option linter.unusedSimpArgs false
theorem lineM_lt {f o t : Nat} (hf : f < 49) (ho : o < 49) (ht : t < 49) : lineM f o t < 562949953421312 := by
  have p := fun {k : Nat} (h : k < 49) => (Nat.pow_lt_pow_right (by decide : 1 < 2) h : 2 ^ k < 2 ^ 49)
  exact Nat.or_lt_two_pow (Nat.or_lt_two_pow (p hf) (p ho)) (p ht)
theorem flipN_lt {p f o t : Nat} (hp : p < 562949953421312) (hf : f < 49) (ho : o < 49) (ht : t < 49) : flipN p f o t < 562949953421312 :=
  Nat.xor_lt_two_pow (n := 49) hp (lineM_lt hf ho ht)
theorem xor63 {a b : Nat} (ha : a < 9223372036854775808) (hb : b < 9223372036854775808) : bits .xor .i64 a b = ((a ^^^ b : Nat) : Int) := by
  show IntKind.i64.wrap ((BitVec.ofInt 64 a ^^^ BitVec.ofInt 64 b).toNat : Nat) = _
  rw [BitVec.ofInt_natCast, BitVec.ofInt_natCast, BitVec.toNat_xor, BitVec.toNat_ofNat, BitVec.toNat_ofNat, Nat.mod_eq_of_lt (show a < 2 ^ 64 by omega), Nat.mod_eq_of_lt (show b < 2 ^ 64 by omega)]
  have h2 : a ^^^ b < 2 ^ 63 := Nat.xor_lt_two_pow ha hb
  exact wrap63 _ (by omega) (by omega)
/-- A board and a line in the first two blocks. -/
def Bx2 (W H Z f o t : Int) (w0 w : World) : Prop := Box w0.heap.size W H Z w0 w ∧ Box (w0.heap.size + 1) f o t w0 w
theorem Bx2.later {W H Z f o t : Int} {w0 w w' : World} (h : Bx2 W H Z f o t w0 w) (hb : Below w.heap.size w w') : Bx2 W H Z f o t w0 w' := ⟨h.1.later hb, h.2.later hb⟩
theorem bx2_new (W H Z f o t : Int) (T T' : TypeId) (w : World) : Bx2 W H Z f o t w ((w.alloc (.cells #[.int .i64 W, .int .i64 H, .int .i64 Z] T)).alloc (.cells #[.int .i64 f, .int .i64 o, .int .i64 t] T')) := by
  have h1 := box_newT T W H Z w
  have h2 := box_newT T' f o t (w.alloc (.cells #[.int .i64 W, .int .i64 H, .int .i64 Z] T))
  have hs : (w.alloc (.cells #[.int .i64 W, .int .i64 H, .int .i64 Z] T)).heap.size = w.heap.size + 1 := by simp
  have h3 := h1.later ((Below.refl _ _).alloc (Nat.le_refl _) (.cells #[.int .i64 f, .int .i64 o, .int .i64 t] T'))
  rw [hs] at h2
  exact ⟨h3, h2.1, h2.2.1, h2.2.2.1, h2.2.2.2.1, h3.2.2.2.2⟩
set_option maxRecDepth 100000 in
theorem implBef (p f o t : Nat) (hf : f < 49) (ho : o < 49) (ht : t < 49) (w : World) : Calls Try.prog 41 #[.int .i64 p, .agg #[.int .i64 f, .int .i64 o, .int .i64 t]] w (QB (befN p f o t) w) := by
  have C1 := Lib.hid (fun w => isPeg p f hf w)
  have C2 := Lib.hid (fun w => isPeg p o ho w)
  have C3 := Lib.hid (fun w => isPeg p t ht w)
  unfold befN
  generalize bit p f = b1 at *
  generalize bit p o = b2 at *
  generalize bit p t = b3 at *
  cases b1
  · go_enter Try.func41, Try.ntmps41
    go_wp2_with fail
    have B0 := Lib.hid (box_newT 76 f o t w)
    generalize w.alloc (.cells #[.int .i64 (f : Int), .int .i64 (o : Int), .int .i64 (t : Int)] 76) = W1 at *
    obtain ⟨c0, c1, c2, hlt, hb1⟩ := B0.out
    go_wp2_with fail
    refine (C1.out _).mono ?_
    rintro e w1 ⟨rfl, rfl⟩
    go_wp2_with fail
    go_ret
    exact ⟨rfl, hb1⟩
  · cases b2
    · go_enter Try.func41, Try.ntmps41
      go_wp2_with fail
      have B0 := Lib.hid (box_newT 76 f o t w)
      generalize w.alloc (.cells #[.int .i64 (f : Int), .int .i64 (o : Int), .int .i64 (t : Int)] 76) = W1 at *
      obtain ⟨c0, c1, c2, hlt, hb1⟩ := B0.out
      go_wp2_with fail
      refine (C1.out _).mono ?_
      rintro e w1 ⟨rfl, rfl⟩
      go_wp2_with fail
      refine (C2.out _).mono ?_
      rintro e w1 ⟨rfl, rfl⟩
      go_wp2_with fail
      go_ret
      exact ⟨rfl, hb1⟩
    · go_enter Try.func41, Try.ntmps41
      go_wp2_with fail
      have B0 := Lib.hid (box_newT 76 f o t w)
      generalize w.alloc (.cells #[.int .i64 (f : Int), .int .i64 (o : Int), .int .i64 (t : Int)] 76) = W1 at *
      obtain ⟨c0, c1, c2, hlt, hb1⟩ := B0.out
      go_wp2_with fail
      refine (C1.out _).mono ?_
      rintro e w1 ⟨rfl, rfl⟩
      go_wp2_with fail
      refine (C2.out _).mono ?_
      rintro e w1 ⟨rfl, rfl⟩
      go_wp2_with fail
      refine (C3.out _).mono ?_
      rintro e w1 ⟨rfl, rfl⟩
      go_wp2_with fail
      go_ret
      exact ⟨rfl, hb1⟩
set_option maxRecDepth 100000 in
theorem implAft (p f o t : Nat) (hf : f < 49) (ho : o < 49) (ht : t < 49) (w : World) : Calls Try.prog 44 #[.int .i64 p, .agg #[.int .i64 f, .int .i64 o, .int .i64 t]] w (QB (aftN p f o t) w) := by
  have C1 := Lib.hid (fun w => isPeg p f hf w)
  have C2 := Lib.hid (fun w => isPeg p o ho w)
  have C3 := Lib.hid (fun w => isPeg p t ht w)
  unfold aftN
  generalize bit p f = b1 at *
  generalize bit p o = b2 at *
  generalize bit p t = b3 at *
  cases b3
  · go_enter Try.func44, Try.ntmps44
    go_wp2_with fail
    have B0 := Lib.hid (box_newT 76 f o t w)
    generalize w.alloc (.cells #[.int .i64 (f : Int), .int .i64 (o : Int), .int .i64 (t : Int)] 76) = W1 at *
    obtain ⟨c0, c1, c2, hlt, hb1⟩ := B0.out
    go_wp2_with fail
    refine (C3.out _).mono ?_
    rintro e w1 ⟨rfl, rfl⟩
    go_wp2_with fail
    go_ret
    exact ⟨rfl, hb1⟩
  · cases b1
    · go_enter Try.func44, Try.ntmps44
      go_wp2_with fail
      have B0 := Lib.hid (box_newT 76 f o t w)
      generalize w.alloc (.cells #[.int .i64 (f : Int), .int .i64 (o : Int), .int .i64 (t : Int)] 76) = W1 at *
      obtain ⟨c0, c1, c2, hlt, hb1⟩ := B0.out
      go_wp2_with fail
      refine (C3.out _).mono ?_
      rintro e w1 ⟨rfl, rfl⟩
      go_wp2_with fail
      refine (C1.out _).mono ?_
      rintro e w1 ⟨rfl, rfl⟩
      go_wp2_with fail
      refine (C2.out _).mono ?_
      rintro e w1 ⟨rfl, rfl⟩
      go_wp2_with fail
      go_ret
      exact ⟨rfl, hb1⟩
    · go_enter Try.func44, Try.ntmps44
      go_wp2_with fail
      have B0 := Lib.hid (box_newT 76 f o t w)
      generalize w.alloc (.cells #[.int .i64 (f : Int), .int .i64 (o : Int), .int .i64 (t : Int)] 76) = W1 at *
      obtain ⟨c0, c1, c2, hlt, hb1⟩ := B0.out
      go_wp2_with fail
      refine (C3.out _).mono ?_
      rintro e w1 ⟨rfl, rfl⟩
      go_wp2_with fail
      refine (C1.out _).mono ?_
      rintro e w1 ⟨rfl, rfl⟩
      go_wp2_with fail
      go_ret
      exact ⟨rfl, hb1⟩
set_option maxRecDepth 100000 in
theorem specBits (f o t : Nat) (hf : f < 49) (ho : o < 49) (ht : t < 49) (w : World) : Calls Try.prog 60 #[.agg #[.int .i64 f, .int .i64 o, .int .i64 t]] w (QI (lineM f o t : Nat) w) := by
  have hm := lineM_lt hf ho ht
  obtain ⟨q1, e1, n1, l1, u1⟩ := pow_nat f hf
  obtain ⟨q2, e2, n2, l2, u2⟩ := pow_nat o ho
  obtain ⟨q3, e3, n3, l3, u3⟩ := pow_nat t ht
  have h12 : q1 ||| q2 < 2 ^ 63 := Nat.or_lt_two_pow (by omega) (by omega)
  have hor1 := or63 (a := q1) (b := q2) (by omega) (by omega)
  have hor2 := or63 (a := q1 ||| q2) (b := q3) h12 (by omega)
  rw [show q1 ||| q2 ||| q3 = lineM f o t by rw [lineM, n1, n2, n3]] at hor2
  have hw1 : IntKind.i64.wrap (q1 : Int) = (q1 : Int) := IntWalk.i64_in _ (by omega)
  have hw2 : IntKind.i64.wrap (q2 : Int) = (q2 : Int) := IntWalk.i64_in _ (by omega)
  have hw3 : IntKind.i64.wrap (q3 : Int) = (q3 : Int) := IntWalk.i64_in _ (by omega)
  generalize q1 ||| q2 = r at *
  generalize lineM f o t = m at *
  clear n1 n2 n3
  go_enter Try.func60, Try.ntmps60
  go_wp2_with fail
  have B0 := Lib.hid (box_newT 76 f o t w)
  generalize w.alloc (.cells #[.int .i64 (f : Int), .int .i64 (o : Int), .int .i64 (t : Int)] 76) = W1 at *
  refine wp_region_script (by kernel_rfl) (by kernel_rfl) ?_
  refine Script.load (i := 0) (v := ?_) rfl (by kernel_rfl) (by kernel_rfl) (fun _ _ _ h => h) (by kernel_rfl) ?_ ?_
  rotate_left
  · (intro wS hSw; obtain ⟨c0, c1, c2, -, -⟩ := B0.out.later (After.trans (After.drew (After.refl _)) hSw); go_simp; try with_reducible rfl)
  try simp only [Act.put, List.getElem_toArray, List.getElem_cons_succ, List.getElem_cons_zero, List.setIfInBounds_toArray, List.set_cons_zero, List.set_cons_succ]
  refine Script.load (i := 1) (v := ?_) rfl (by kernel_rfl) (by kernel_rfl) (fun _ _ _ h => h) (by kernel_rfl) ?_ ?_
  rotate_left
  · (intro wS hSw; obtain ⟨c0, c1, c2, -, -⟩ := B0.out.later (After.trans (After.drew (After.refl _)) hSw); go_simp; try with_reducible rfl)
  try simp only [Act.put, List.getElem_toArray, List.getElem_cons_succ, List.getElem_cons_zero, List.setIfInBounds_toArray, List.set_cons_zero, List.set_cons_succ]
  refine Script.load (i := 2) (v := ?_) rfl (by kernel_rfl) (by kernel_rfl) (fun _ _ _ h => h) (by kernel_rfl) ?_ ?_
  rotate_left
  · (intro wS hSw; obtain ⟨c0, c1, c2, -, -⟩ := B0.out.later (After.trans (After.drew (After.refl _)) hSw); go_simp; try with_reducible rfl)
  try simp only [Act.put, List.getElem_toArray, List.getElem_cons_succ, List.getElem_cons_zero, List.setIfInBounds_toArray, List.set_cons_zero, List.set_cons_succ]
  refine Script.load (i := 3) (v := ?_) rfl (by kernel_rfl) (by kernel_rfl) (fun _ _ _ h => h) (by kernel_rfl) ?_ ?_
  rotate_left
  · (intro wS hSw; obtain ⟨c0, c1, c2, -, -⟩ := B0.out.later (After.trans (After.drew (After.refl _)) hSw); go_simp; try with_reducible rfl)
  try simp only [Act.put, List.getElem_toArray, List.getElem_cons_succ, List.getElem_cons_zero, List.setIfInBounds_toArray, List.set_cons_zero, List.set_cons_succ]
  refine Script.load (i := 4) (v := ?_) rfl (by kernel_rfl) (by kernel_rfl) (fun _ _ _ h => h) (by kernel_rfl) ?_ ?_
  rotate_left
  · (intro wS hSw; obtain ⟨c0, c1, c2, -, -⟩ := B0.out.later (After.trans (After.drew (After.refl _)) hSw); go_simp; try with_reducible rfl)
  try simp only [Act.put, List.getElem_toArray, List.getElem_cons_succ, List.getElem_cons_zero, List.setIfInBounds_toArray, List.set_cons_zero, List.set_cons_succ]
  refine Script.load (i := 5) (v := ?_) rfl (by kernel_rfl) (by kernel_rfl) (fun _ _ _ h => h) (by kernel_rfl) ?_ ?_
  rotate_left
  · (intro wS hSw; obtain ⟨c0, c1, c2, -, -⟩ := B0.out.later (After.trans (After.drew (After.refl _)) hSw); go_simp; try with_reducible rfl)
  try simp only [Act.put, List.getElem_toArray, List.getElem_cons_succ, List.getElem_cons_zero, List.setIfInBounds_toArray, List.set_cons_zero, List.set_cons_succ]
  refine Script.load (i := 6) (v := ?_) rfl (by kernel_rfl) (by kernel_rfl) (fun _ _ _ h => h) (by kernel_rfl) ?_ ?_
  rotate_left
  · (intro wS hSw; obtain ⟨c0, c1, c2, -, -⟩ := B0.out.later (After.trans (After.drew (After.refl _)) hSw); go_simp; try with_reducible rfl)
  try simp only [Act.put, List.getElem_toArray, List.getElem_cons_succ, List.getElem_cons_zero, List.setIfInBounds_toArray, List.set_cons_zero, List.set_cons_succ]
  refine Script.load (i := 7) (v := ?_) rfl (by kernel_rfl) (by kernel_rfl) (fun _ _ _ h => h) (by kernel_rfl) ?_ ?_
  rotate_left
  · (intro wS hSw; obtain ⟨c0, c1, c2, -, -⟩ := B0.out.later (After.trans (After.drew (After.refl _)) hSw); go_simp; try with_reducible rfl)
  try simp only [Act.put, List.getElem_toArray, List.getElem_cons_succ, List.getElem_cons_zero, List.setIfInBounds_toArray, List.set_cons_zero, List.set_cons_succ]
  refine Script.load (i := 8) (v := ?_) rfl (by kernel_rfl) (by kernel_rfl) (fun _ _ _ h => h) (by kernel_rfl) ?_ ?_
  rotate_left
  · (intro wS hSw; obtain ⟨c0, c1, c2, -, -⟩ := B0.out.later (After.trans (After.drew (After.refl _)) hSw); go_simp; try with_reducible rfl)
  try simp only [Act.put, List.getElem_toArray, List.getElem_cons_succ, List.getElem_cons_zero, List.setIfInBounds_toArray, List.set_cons_zero, List.set_cons_succ]
  refine Script.load (i := 9) (v := ?_) rfl (by kernel_rfl) (by kernel_rfl) (fun _ _ _ h => h) (by kernel_rfl) ?_ ?_
  rotate_left
  · (intro wS hSw; obtain ⟨c0, c1, c2, -, -⟩ := B0.out.later (After.trans (After.drew (After.refl _)) hSw); go_simp; try with_reducible rfl)
  try simp only [Act.put, List.getElem_toArray, List.getElem_cons_succ, List.getElem_cons_zero, List.setIfInBounds_toArray, List.set_cons_zero, List.set_cons_succ]
  refine Script.load (i := 10) (v := ?_) rfl (by kernel_rfl) (by kernel_rfl) (fun _ _ _ h => h) (by kernel_rfl) ?_ ?_
  rotate_left
  · (intro wS hSw; obtain ⟨c0, c1, c2, -, -⟩ := B0.out.later (After.trans (After.drew (After.refl _)) hSw); go_simp; try with_reducible rfl)
  try simp only [Act.put, List.getElem_toArray, List.getElem_cons_succ, List.getElem_cons_zero, List.setIfInBounds_toArray, List.set_cons_zero, List.set_cons_succ]
  refine Script.load (i := 11) (v := ?_) rfl (by kernel_rfl) (by kernel_rfl) (fun _ _ _ h => h) (by kernel_rfl) ?_ ?_
  rotate_left
  · (intro wS hSw; obtain ⟨c0, c1, c2, -, -⟩ := B0.out.later (After.trans (After.drew (After.refl _)) hSw); go_simp; try with_reducible rfl)
  try simp only [Act.put, List.getElem_toArray, List.getElem_cons_succ, List.getElem_cons_zero, List.setIfInBounds_toArray, List.set_cons_zero, List.set_cons_succ]
  refine Script.done (by kernel_rfl) ?_
  intro wD hD hG
  have B1 := Lib.hid (B0.out.later (After.trans (After.drew (After.refl _)) hD))
  clear hD hG B0
  go_wp2_with fail
  go_ret
  exact ⟨rfl, B1.out.2.2.2.2⟩
set_option maxRecDepth 100000 in
theorem implFlip (p f o t : Nat) (hp : p < 562949953421312) (hf : f < 49) (ho : o < 49) (ht : t < 49) (w : World) : Calls Try.prog 66 #[.int .i64 p, .agg #[.int .i64 f, .int .i64 o, .int .i64 t]] w (QI (flipN p f o t : Nat) w) := by
  have hm := lineM_lt hf ho ht
  obtain ⟨q1, e1, n1, l1, u1⟩ := pow_nat f hf
  obtain ⟨q2, e2, n2, l2, u2⟩ := pow_nat o ho
  obtain ⟨q3, e3, n3, l3, u3⟩ := pow_nat t ht
  have h12 : q1 ||| q2 < 2 ^ 63 := Nat.or_lt_two_pow (by omega) (by omega)
  have hor1 := or63 (a := q1) (b := q2) (by omega) (by omega)
  have hor2 := or63 (a := q1 ||| q2) (b := q3) h12 (by omega)
  rw [show q1 ||| q2 ||| q3 = lineM f o t by rw [lineM, n1, n2, n3]] at hor2
  have hxor := xor63 (a := p) (b := lineM f o t) (by omega) (by omega)
  unfold flipN
  have hw1 : IntKind.i64.wrap (q1 : Int) = (q1 : Int) := IntWalk.i64_in _ (by omega)
  have hw2 : IntKind.i64.wrap (q2 : Int) = (q2 : Int) := IntWalk.i64_in _ (by omega)
  have hw3 : IntKind.i64.wrap (q3 : Int) = (q3 : Int) := IntWalk.i64_in _ (by omega)
  generalize q1 ||| q2 = r at *
  generalize lineM f o t = m at *
  generalize p ^^^ m = x at *
  clear n1 n2 n3
  go_enter Try.func66, Try.ntmps66
  go_wp2_with fail
  have B0 := Lib.hid (box_newT 76 f o t w)
  generalize w.alloc (.cells #[.int .i64 (f : Int), .int .i64 (o : Int), .int .i64 (t : Int)] 76) = W1 at *
  refine wp_region_script (by kernel_rfl) (by kernel_rfl) ?_
  refine Script.load (i := 0) (v := ?_) rfl (by kernel_rfl) (by kernel_rfl) (fun _ _ _ h => h) (by kernel_rfl) ?_ ?_
  rotate_left
  · (intro wS hSw; obtain ⟨c0, c1, c2, -, -⟩ := B0.out.later (After.trans (After.drew (After.refl _)) hSw); go_simp; try with_reducible rfl)
  try simp only [Act.put, List.getElem_toArray, List.getElem_cons_succ, List.getElem_cons_zero, List.setIfInBounds_toArray, List.set_cons_zero, List.set_cons_succ]
  refine Script.load (i := 1) (v := ?_) rfl (by kernel_rfl) (by kernel_rfl) (fun _ _ _ h => h) (by kernel_rfl) ?_ ?_
  rotate_left
  · (intro wS hSw; obtain ⟨c0, c1, c2, -, -⟩ := B0.out.later (After.trans (After.drew (After.refl _)) hSw); go_simp; try with_reducible rfl)
  try simp only [Act.put, List.getElem_toArray, List.getElem_cons_succ, List.getElem_cons_zero, List.setIfInBounds_toArray, List.set_cons_zero, List.set_cons_succ]
  refine Script.load (i := 2) (v := ?_) rfl (by kernel_rfl) (by kernel_rfl) (fun _ _ _ h => h) (by kernel_rfl) ?_ ?_
  rotate_left
  · (intro wS hSw; obtain ⟨c0, c1, c2, -, -⟩ := B0.out.later (After.trans (After.drew (After.refl _)) hSw); go_simp; try with_reducible rfl)
  try simp only [Act.put, List.getElem_toArray, List.getElem_cons_succ, List.getElem_cons_zero, List.setIfInBounds_toArray, List.set_cons_zero, List.set_cons_succ]
  refine Script.load (i := 3) (v := ?_) rfl (by kernel_rfl) (by kernel_rfl) (fun _ _ _ h => h) (by kernel_rfl) ?_ ?_
  rotate_left
  · (intro wS hSw; obtain ⟨c0, c1, c2, -, -⟩ := B0.out.later (After.trans (After.drew (After.refl _)) hSw); go_simp; try with_reducible rfl)
  try simp only [Act.put, List.getElem_toArray, List.getElem_cons_succ, List.getElem_cons_zero, List.setIfInBounds_toArray, List.set_cons_zero, List.set_cons_succ]
  refine Script.load (i := 4) (v := ?_) rfl (by kernel_rfl) (by kernel_rfl) (fun _ _ _ h => h) (by kernel_rfl) ?_ ?_
  rotate_left
  · (intro wS hSw; obtain ⟨c0, c1, c2, -, -⟩ := B0.out.later (After.trans (After.drew (After.refl _)) hSw); go_simp; try with_reducible rfl)
  try simp only [Act.put, List.getElem_toArray, List.getElem_cons_succ, List.getElem_cons_zero, List.setIfInBounds_toArray, List.set_cons_zero, List.set_cons_succ]
  refine Script.load (i := 5) (v := ?_) rfl (by kernel_rfl) (by kernel_rfl) (fun _ _ _ h => h) (by kernel_rfl) ?_ ?_
  rotate_left
  · (intro wS hSw; obtain ⟨c0, c1, c2, -, -⟩ := B0.out.later (After.trans (After.drew (After.refl _)) hSw); go_simp; try with_reducible rfl)
  try simp only [Act.put, List.getElem_toArray, List.getElem_cons_succ, List.getElem_cons_zero, List.setIfInBounds_toArray, List.set_cons_zero, List.set_cons_succ]
  refine Script.load (i := 6) (v := ?_) rfl (by kernel_rfl) (by kernel_rfl) (fun _ _ _ h => h) (by kernel_rfl) ?_ ?_
  rotate_left
  · (intro wS hSw; obtain ⟨c0, c1, c2, -, -⟩ := B0.out.later (After.trans (After.drew (After.refl _)) hSw); go_simp; try with_reducible rfl)
  try simp only [Act.put, List.getElem_toArray, List.getElem_cons_succ, List.getElem_cons_zero, List.setIfInBounds_toArray, List.set_cons_zero, List.set_cons_succ]
  refine Script.load (i := 7) (v := ?_) rfl (by kernel_rfl) (by kernel_rfl) (fun _ _ _ h => h) (by kernel_rfl) ?_ ?_
  rotate_left
  · (intro wS hSw; obtain ⟨c0, c1, c2, -, -⟩ := B0.out.later (After.trans (After.drew (After.refl _)) hSw); go_simp; try with_reducible rfl)
  try simp only [Act.put, List.getElem_toArray, List.getElem_cons_succ, List.getElem_cons_zero, List.setIfInBounds_toArray, List.set_cons_zero, List.set_cons_succ]
  refine Script.load (i := 8) (v := ?_) rfl (by kernel_rfl) (by kernel_rfl) (fun _ _ _ h => h) (by kernel_rfl) ?_ ?_
  rotate_left
  · (intro wS hSw; obtain ⟨c0, c1, c2, -, -⟩ := B0.out.later (After.trans (After.drew (After.refl _)) hSw); go_simp; try with_reducible rfl)
  try simp only [Act.put, List.getElem_toArray, List.getElem_cons_succ, List.getElem_cons_zero, List.setIfInBounds_toArray, List.set_cons_zero, List.set_cons_succ]
  refine Script.load (i := 9) (v := ?_) rfl (by kernel_rfl) (by kernel_rfl) (fun _ _ _ h => h) (by kernel_rfl) ?_ ?_
  rotate_left
  · (intro wS hSw; obtain ⟨c0, c1, c2, -, -⟩ := B0.out.later (After.trans (After.drew (After.refl _)) hSw); go_simp; try with_reducible rfl)
  try simp only [Act.put, List.getElem_toArray, List.getElem_cons_succ, List.getElem_cons_zero, List.setIfInBounds_toArray, List.set_cons_zero, List.set_cons_succ]
  refine Script.load (i := 10) (v := ?_) rfl (by kernel_rfl) (by kernel_rfl) (fun _ _ _ h => h) (by kernel_rfl) ?_ ?_
  rotate_left
  · (intro wS hSw; obtain ⟨c0, c1, c2, -, -⟩ := B0.out.later (After.trans (After.drew (After.refl _)) hSw); go_simp; try with_reducible rfl)
  try simp only [Act.put, List.getElem_toArray, List.getElem_cons_succ, List.getElem_cons_zero, List.setIfInBounds_toArray, List.set_cons_zero, List.set_cons_succ]
  refine Script.load (i := 11) (v := ?_) rfl (by kernel_rfl) (by kernel_rfl) (fun _ _ _ h => h) (by kernel_rfl) ?_ ?_
  rotate_left
  · (intro wS hSw; obtain ⟨c0, c1, c2, -, -⟩ := B0.out.later (After.trans (After.drew (After.refl _)) hSw); go_simp; try with_reducible rfl)
  try simp only [Act.put, List.getElem_toArray, List.getElem_cons_succ, List.getElem_cons_zero, List.setIfInBounds_toArray, List.set_cons_zero, List.set_cons_succ]
  refine Script.load (i := 12) (v := ?_) rfl (by kernel_rfl) (by kernel_rfl) (fun _ _ _ h => h) (by kernel_rfl) ?_ ?_
  rotate_left
  · (intro wS hSw; obtain ⟨c0, c1, c2, -, -⟩ := B0.out.later (After.trans (After.drew (After.refl _)) hSw); go_simp; try with_reducible rfl)
  try simp only [Act.put, List.getElem_toArray, List.getElem_cons_succ, List.getElem_cons_zero, List.setIfInBounds_toArray, List.set_cons_zero, List.set_cons_succ]
  refine Script.load (i := 13) (v := ?_) rfl (by kernel_rfl) (by kernel_rfl) (fun _ _ _ h => h) (by kernel_rfl) ?_ ?_
  rotate_left
  · (intro wS hSw; obtain ⟨c0, c1, c2, -, -⟩ := B0.out.later (After.trans (After.drew (After.refl _)) hSw); go_simp; try with_reducible rfl)
  try simp only [Act.put, List.getElem_toArray, List.getElem_cons_succ, List.getElem_cons_zero, List.setIfInBounds_toArray, List.set_cons_zero, List.set_cons_succ]
  refine Script.done (by kernel_rfl) ?_
  intro wD hD hG
  have B1 := Lib.hid (B0.out.later (After.trans (After.drew (After.refl _)) hD))
  clear hD hG B0
  go_wp2_with fail
  go_ret
  exact ⟨rfl, B1.out.2.2.2.2⟩
end Go.Proofs.Ytgkmapemnlgldaa

namespace Go.Proofs.Ytgkmapemnlgldaa
open Go.RowKit
set_option linter.unusedVariables false
set_option linter.unusedSimpArgs false
theorem line_hole {a b N z : Nat} (h : Ok (a : Int) (b : Int) N z) {f o t : Int} (hl : (linesOf a b z (bitsOf N z)).contains (f, o, t) = true) : holeB a b z f = true := by
  obtain ⟨hN, ha, -⟩ := h.nat
  rw [List.contains_iff_mem] at hl
  obtain ⟨f', o', t', L⟩ := mem_at hN ha hl
  have e := L.eq
  simp only [Prod.mk.injEq] at e
  rw [e.1, holeB_in h (by rw [← hN]; exact L.fN)]
  exact L.bf
theorem line_yes {a b N z k d : Nat} (hN : a * b = N) (hd : d < 4) (hk : k < N) (hb : bit z k = true) {o t : Int} (h : lineN a b z k d = some ((k : Int), o, t)) : (linesOf a b z (bitsOf N z)).contains ((k : Int), o, t) = true := by
  rw [List.contains_iff_mem, mem_lines hN]
  obtain ⟨o', t', h1, h2, h3⟩ := lineN_some h
  exact ⟨k, o', t', d, hd, by rw [hN]; exact hk, hb, h1, h2, h3⟩
theorem line_no {a b N z k : Nat} (hN : a * b = N) {o t : Int} (h : ∀ d, d < 4 → lineN a b z k d ≠ some ((k : Int), o, t)) : (linesOf a b z (bitsOf N z)).contains ((k : Int), o, t) = false := by
  rw [← Bool.not_eq_true, List.contains_iff_mem, mem_lines hN]
  rintro ⟨k', o', t', d, hd, hk, hb, h1, h2, h3⟩
  simp only [Prod.mk.injEq] at h3
  have e : k = k' := by omega
  subst e
  refine h d hd ?_
  rw [h3.2.1, h3.2.2]
  exact lineN_yes h1 h2
theorem betw_lns (W H Z : Int) (l : Ln) : (betwL (lnsOf W H Z) l.1 l.2.2 == some l) = (lnsOf W H Z).contains l := by
  cases h : okB W H Z
  · rw [lnsOf_no h]; rfl
  · obtain ⟨a, b, N, z, rfl, rfl, rfl, ho⟩ := okNat h
    obtain ⟨hN, ha, -⟩ := ho.nat
    rw [lnsOf_ok ho]; exact betw_is hN ha l
set_option maxHeartbeats 1000000 in
set_option maxRecDepth 100000 in
theorem specIs (W H Z f o t : Int) (w : World) : Calls Try.prog 91 #[.agg #[.int .i64 W, .int .i64 H, .int .i64 Z], .agg #[.int .i64 f, .int .i64 o, .int .i64 t]] w (QB ((lnsOf W H Z).contains (f, o, t)) w) := by
  have C1 := Lib.hid (fun w => specBetween W H Z f t w)
  have E := Lib.hid (betw_lns W H Z (f, o, t))
  generalize (lnsOf W H Z).contains (f, o, t) = R at *
  generalize hx : betwL (lnsOf W H Z) f t = x at *
  have E' : Hid ((x == some (f, o, t)) = R) := E
  clear E hx
  go_enter Try.func91, Try.ntmps91
  go_wp2_with fail
  have B0 := Lib.hid (bx2_new W H Z f o t 25 76 w)
  generalize (w.alloc (.cells #[.int .i64 W, .int .i64 H, .int .i64 Z] 25)).alloc (.cells #[.int .i64 f, .int .i64 o, .int .i64 t] 76) = W1 at *
  obtain ⟨⟨c0, c1, c2, hlt, hb1⟩, ⟨d0, d1, d2, hlt2, -⟩⟩ := B0.out
  go_wp2_with fail
  refine (C1.out _).mono ?_
  rintro e w1 ⟨rfl, hb⟩
  have B1 := Lib.hid (B0.out.later hb)
  clear c0 c1 c2 hlt hb1 d0 d1 d2 hlt2 hb B0
  obtain ⟨⟨c0, c1, c2, hlt, hb1⟩, ⟨d0, d1, d2, hlt2, -⟩⟩ := B1.out
  rcases x with _ | ⟨f', o', t'⟩
  · have E2 : Hid (R = false) := E'.out.symm
    unfold lineV
    go_wp2_with fail
    go_ret
    exact QB.of E2.out.symm (hb1.alloc hb1.size _)
  · have hb6 := hb1.alloc hb1.size (.cells #[.int .i64 f', .int .i64 o', .int .i64 t'] 76)
    have HB := Lib.hid hb6
    clear hb6
    unfold lineV
    by_cases e0 : f' = f
    · by_cases e1 : o' = o
      · by_cases e2 : t' = t
        · have E2 : Hid (R = true) := by unfold Hid; rw [← E'.out, e0, e1, e2]; simp
          rw [e0, e1, e2] at HB
          go_wp2_with fail
          go_ret
          exact QB.of E2.out.symm HB.out
        · have E2 : Hid (R = false) := by unfold Hid; rw [← E'.out]; simp [e2]
          rw [e0, e1] at HB
          go_wp2_with fail
          go_ret
          exact QB.of E2.out.symm HB.out
      · have E2 : Hid (R = false) := by unfold Hid; rw [← E'.out]; simp [e1]
        rw [e0] at HB
        go_wp2_with fail
        go_ret
        exact QB.of E2.out.symm HB.out
    · have E2 : Hid (R = false) := by unfold Hid; rw [← E'.out]; simp [e0]
      go_wp2_with fail
      go_ret
      exact QB.of E2.out.symm HB.out
end Go.Proofs.Ytgkmapemnlgldaa

namespace Go.Proofs.Ytgkmapemnlgldaa
open Go.RowKit
set_option linter.unusedVariables false
set_option linter.unusedSimpArgs false
/-- Whether there is a jump on a line. -/
def jumpB (W H Z P : Int) (l : Ln) : Bool := posB W H Z P && (lnsOf W H Z).contains l && befL P l
def doB (W H Z P : Int) (l : Ln) : Int × Bool := if jumpB W H Z P l = true then (flipL P l, true) else (P, false)
theorem specIs_is {R : Bool} {W H Z f o t : Int} (h : (lnsOf W H Z).contains (f, o, t) = R) (w : World) : Calls Try.prog 91 #[.agg #[.int .i64 W, .int .i64 H, .int .i64 Z], .agg #[.int .i64 f, .int .i64 o, .int .i64 t]] w (QB R w) := by rw [← h]; exact specIs W H Z f o t w
theorem posB_ok {W H Z P : Int} (h : posB W H Z P = true) : okB W H Z = true := by
  obtain ⟨N, z, p, rfl, rfl, ho, -⟩ := pos_yes h
  exact ho.ok
/-- What is told of a position and a line that are valid. -/
structure Set5 (W H Z P : Int) (l : Ln) (a b N z p f o t : Nat) : Prop where
  eW : W = a
  eH : H = b
  eZ : Z = z
  eP : P = p
  ok : Ok (a : Int) (b : Int) N z
  part : Part p z
  at' : LnAt a b z l f o t
theorem set5 {W H Z P : Int} {l : Ln} (hp : posB W H Z P = true) (hl : (lnsOf W H Z).contains l = true) : ∃ a b N z p f o t, Set5 W H Z P l a b N z p f o t := by
  obtain ⟨N, z, p, rfl, rfl, ho, hpart⟩ := pos_yes hp
  obtain ⟨a, b, N', z', rfl, rfl, hz, ho'⟩ := okNat ho.ok
  obtain ⟨hN, ha, -⟩ := ho.nat
  rw [lnsOf_ok ho, List.contains_iff_mem] at hl
  obtain ⟨f, o, t, L⟩ := mem_at hN ha hl
  exact ⟨a, b, N, z, p, f, o, t, rfl, rfl, rfl, rfl, ho, hpart, L⟩
theorem Set5.bounds {W H Z P : Int} {l : Ln} {a b N z p f o t : Nat} (h : Set5 W H Z P l a b N z p f o t) : p < 562949953421312 ∧ f < 49 ∧ o < 49 ∧ t < 49 := by
  obtain ⟨hN, -⟩ := h.ok.nat
  have := h.ok.n49
  have h1 := h.at'.fN; have h2 := h.at'.oN; have h3 := h.at'.tN
  rw [hN] at h1 h2 h3
  exact ⟨h.part.big h.ok, by omega, by omega, by omega⟩
theorem Set5.bef {W H Z P : Int} {l : Ln} {a b N z p f o t : Nat} (h : Set5 W H Z P l a b N z p f o t) : befL P l = befN p f o t := by rw [h.eP, h.at'.eq]; rfl
theorem Set5.aft {W H Z P : Int} {l : Ln} {a b N z p f o t : Nat} (h : Set5 W H Z P l a b N z p f o t) : aftL P l = aftN p f o t := by rw [h.eP, h.at'.eq]; rfl
theorem Set5.flip {W H Z P : Int} {l : Ln} {a b N z p f o t : Nat} (h : Set5 W H Z P l a b N z p f o t) : flipL P l = (flipN p f o t : Nat) := by rw [h.eP, h.at'.eq]; rfl
theorem mem_contains {α : Type} [BEq α] [LawfulBEq α] {l : List α} {x : α} (h : x ∈ l) : l.contains x = true := by rw [List.contains_iff_mem]; exact h
set_option maxHeartbeats 1000000 in
set_option maxRecDepth 100000 in
theorem specCan (W H Z P f o t : Int) (hP : P ≤ 9223372036854775807) (w : World) : Calls Try.prog 84 #[.agg #[.int .i64 W, .int .i64 H, .int .i64 Z], .int .i64 P, .agg #[.int .i64 f, .int .i64 o, .int .i64 t]] w (QB (jumpB W H Z P (f, o, t)) w) := by
  cases hp : posB W H Z P
  · rw [show jumpB W H Z P (f, o, t) = false by simp only [jumpB, hp]; rfl]
    have C1 := Lib.hid (specPos_is hP hp)
    clear hp hP
    go_enter Try.func84, Try.ntmps84
    go_wp2_with fail
    have B0 := Lib.hid (bx2_new W H Z f o t 25 76 w)
    generalize (w.alloc (.cells #[.int .i64 W, .int .i64 H, .int .i64 Z] 25)).alloc (.cells #[.int .i64 f, .int .i64 o, .int .i64 t] 76) = W1 at *
    refine wp_region_script (by kernel_rfl) (by kernel_rfl) ?_
    refine Script.load (i := 0) (v := ?_) rfl (by kernel_rfl) (by kernel_rfl) (fun _ _ _ h => h) (by kernel_rfl) ?_ ?_
    rotate_left
    · (intro wS hSw; obtain ⟨⟨c0, c1, c2, -, -⟩, ⟨d0, d1, d2, -, -⟩⟩ := B0.out.later (After.trans (After.drew (After.refl _)) hSw); go_simp; try with_reducible rfl)
    try simp only [Act.put, List.getElem_toArray, List.getElem_cons_succ, List.getElem_cons_zero, List.setIfInBounds_toArray, List.set_cons_zero, List.set_cons_succ]
    refine Script.load (i := 1) (v := ?_) rfl (by kernel_rfl) (by kernel_rfl) (fun _ _ _ h => h) (by kernel_rfl) ?_ ?_
    rotate_left
    · (intro wS hSw; obtain ⟨⟨c0, c1, c2, -, -⟩, ⟨d0, d1, d2, -, -⟩⟩ := B0.out.later (After.trans (After.drew (After.refl _)) hSw); go_simp; try with_reducible rfl)
    try simp only [Act.put, List.getElem_toArray, List.getElem_cons_succ, List.getElem_cons_zero, List.setIfInBounds_toArray, List.set_cons_zero, List.set_cons_succ]
    refine Script.call (i := 2) (v := ?_) rfl (by kernel_rfl) (by kernel_rfl) (fun _ _ _ h => h) (by kernel_rfl) ?_ ?_
    rotate_left
    · (intro wS hSw K hK; obtain ⟨⟨c0, c1, c2, -, -⟩, ⟨d0, d1, d2, -, -⟩⟩ := B0.out.later (After.trans (After.drew (After.refl _)) hSw); go_simp; go_at_call 32; refine (C1.out _).mono ?_; rintro e wc ⟨rfl, hbc⟩; exact hK.out _ hbc)
    try simp only [Act.put, List.getElem_toArray, List.getElem_cons_succ, List.getElem_cons_zero, List.setIfInBounds_toArray, List.set_cons_zero, List.set_cons_succ]
    refine Script.load (i := 3) (v := ?_) rfl (by kernel_rfl) (by kernel_rfl) (fun _ _ _ h => h) (by kernel_rfl) ?_ ?_
    rotate_left
    · (intro wS hSw; obtain ⟨⟨c0, c1, c2, -, -⟩, ⟨d0, d1, d2, -, -⟩⟩ := B0.out.later (After.trans (After.drew (After.refl _)) hSw); go_simp; try with_reducible rfl)
    try simp only [Act.put, List.getElem_toArray, List.getElem_cons_succ, List.getElem_cons_zero, List.setIfInBounds_toArray, List.set_cons_zero, List.set_cons_succ]
    refine Script.skip (i := 4) rfl (by kernel_rfl) (by kernel_rfl) (fun _ _ _ h => h) (by kernel_rfl) ?_
    try simp only [Act.put, List.getElem_toArray, List.getElem_cons_succ, List.getElem_cons_zero, List.setIfInBounds_toArray, List.set_cons_zero, List.set_cons_succ]
    refine Script.skip (i := 5) rfl (by kernel_rfl) (by kernel_rfl) (fun _ _ _ h => h) (by kernel_rfl) ?_
    try simp only [Act.put, List.getElem_toArray, List.getElem_cons_succ, List.getElem_cons_zero, List.setIfInBounds_toArray, List.set_cons_zero, List.set_cons_succ]
    refine Script.skip (i := 6) rfl (by kernel_rfl) (by kernel_rfl) (fun _ _ _ h => h) (by kernel_rfl) ?_
    try simp only [Act.put, List.getElem_toArray, List.getElem_cons_succ, List.getElem_cons_zero, List.setIfInBounds_toArray, List.set_cons_zero, List.set_cons_succ]
    refine Script.load (i := 7) (v := ?_) rfl (by kernel_rfl) (by kernel_rfl) (fun _ _ _ h => h) (by kernel_rfl) ?_ ?_
    rotate_left
    · (intro wS hSw; obtain ⟨⟨c0, c1, c2, -, -⟩, ⟨d0, d1, d2, -, -⟩⟩ := B0.out.later (After.trans (After.drew (After.refl _)) hSw); go_simp; try with_reducible rfl)
    try simp only [Act.put, List.getElem_toArray, List.getElem_cons_succ, List.getElem_cons_zero, List.setIfInBounds_toArray, List.set_cons_zero, List.set_cons_succ]
    refine Script.load (i := 8) (v := ?_) rfl (by kernel_rfl) (by kernel_rfl) (fun _ _ _ h => h) (by kernel_rfl) ?_ ?_
    rotate_left
    · (intro wS hSw; obtain ⟨⟨c0, c1, c2, -, -⟩, ⟨d0, d1, d2, -, -⟩⟩ := B0.out.later (After.trans (After.drew (After.refl _)) hSw); go_simp; try with_reducible rfl)
    try simp only [Act.put, List.getElem_toArray, List.getElem_cons_succ, List.getElem_cons_zero, List.setIfInBounds_toArray, List.set_cons_zero, List.set_cons_succ]
    refine Script.skip (i := 9) rfl (by kernel_rfl) (by kernel_rfl) (fun _ _ _ h => h) (by kernel_rfl) ?_
    try simp only [Act.put, List.getElem_toArray, List.getElem_cons_succ, List.getElem_cons_zero, List.setIfInBounds_toArray, List.set_cons_zero, List.set_cons_succ]
    refine Script.skip (i := 10) rfl (by kernel_rfl) (by kernel_rfl) (fun _ _ _ h => h) (by kernel_rfl) ?_
    try simp only [Act.put, List.getElem_toArray, List.getElem_cons_succ, List.getElem_cons_zero, List.setIfInBounds_toArray, List.set_cons_zero, List.set_cons_succ]
    refine Script.skip (i := 11) rfl (by kernel_rfl) (by kernel_rfl) (fun _ _ _ h => h) (by kernel_rfl) ?_
    try simp only [Act.put, List.getElem_toArray, List.getElem_cons_succ, List.getElem_cons_zero, List.setIfInBounds_toArray, List.set_cons_zero, List.set_cons_succ]
    refine Script.skip (i := 12) rfl (by kernel_rfl) (by kernel_rfl) (fun _ _ _ h => h) (by kernel_rfl) ?_
    try simp only [Act.put, List.getElem_toArray, List.getElem_cons_succ, List.getElem_cons_zero, List.setIfInBounds_toArray, List.set_cons_zero, List.set_cons_succ]
    refine Script.skip (i := 13) rfl (by kernel_rfl) (by kernel_rfl) (fun _ _ _ h => h) (by kernel_rfl) ?_
    try simp only [Act.put, List.getElem_toArray, List.getElem_cons_succ, List.getElem_cons_zero, List.setIfInBounds_toArray, List.set_cons_zero, List.set_cons_succ]
    refine Script.skip (i := 14) rfl (by kernel_rfl) (by kernel_rfl) (fun _ _ _ h => h) (by kernel_rfl) ?_
    try simp only [Act.put, List.getElem_toArray, List.getElem_cons_succ, List.getElem_cons_zero, List.setIfInBounds_toArray, List.set_cons_zero, List.set_cons_succ]
    refine Script.skip (i := 15) rfl (by kernel_rfl) (by kernel_rfl) (fun _ _ _ h => h) (by kernel_rfl) ?_
    try simp only [Act.put, List.getElem_toArray, List.getElem_cons_succ, List.getElem_cons_zero, List.setIfInBounds_toArray, List.set_cons_zero, List.set_cons_succ]
    refine Script.skip (i := 16) rfl (by kernel_rfl) (by kernel_rfl) (fun _ _ _ h => h) (by kernel_rfl) ?_
    try simp only [Act.put, List.getElem_toArray, List.getElem_cons_succ, List.getElem_cons_zero, List.setIfInBounds_toArray, List.set_cons_zero, List.set_cons_succ]
    refine Script.skip (i := 17) rfl (by kernel_rfl) (by kernel_rfl) (fun _ _ _ h => h) (by kernel_rfl) ?_
    try simp only [Act.put, List.getElem_toArray, List.getElem_cons_succ, List.getElem_cons_zero, List.setIfInBounds_toArray, List.set_cons_zero, List.set_cons_succ]
    refine Script.skip (i := 18) rfl (by kernel_rfl) (by kernel_rfl) (fun _ _ _ h => h) (by kernel_rfl) ?_
    try simp only [Act.put, List.getElem_toArray, List.getElem_cons_succ, List.getElem_cons_zero, List.setIfInBounds_toArray, List.set_cons_zero, List.set_cons_succ]
    refine Script.skip (i := 19) rfl (by kernel_rfl) (by kernel_rfl) (fun _ _ _ h => h) (by kernel_rfl) ?_
    try simp only [Act.put, List.getElem_toArray, List.getElem_cons_succ, List.getElem_cons_zero, List.setIfInBounds_toArray, List.set_cons_zero, List.set_cons_succ]
    refine Script.skip (i := 20) rfl (by kernel_rfl) (by kernel_rfl) (fun _ _ _ h => h) (by kernel_rfl) ?_
    try simp only [Act.put, List.getElem_toArray, List.getElem_cons_succ, List.getElem_cons_zero, List.setIfInBounds_toArray, List.set_cons_zero, List.set_cons_succ]
    refine Script.load (i := 21) (v := ?_) rfl (by kernel_rfl) (by kernel_rfl) (fun _ _ _ h => h) (by kernel_rfl) ?_ ?_
    rotate_left
    · (intro wS hSw; obtain ⟨⟨c0, c1, c2, -, -⟩, ⟨d0, d1, d2, -, -⟩⟩ := B0.out.later (After.trans (After.drew (After.refl _)) hSw); go_simp; try with_reducible rfl)
    try simp only [Act.put, List.getElem_toArray, List.getElem_cons_succ, List.getElem_cons_zero, List.setIfInBounds_toArray, List.set_cons_zero, List.set_cons_succ]
    refine Script.load (i := 22) (v := ?_) rfl (by kernel_rfl) (by kernel_rfl) (fun _ _ _ h => h) (by kernel_rfl) ?_ ?_
    rotate_left
    · (intro wS hSw; obtain ⟨⟨c0, c1, c2, -, -⟩, ⟨d0, d1, d2, -, -⟩⟩ := B0.out.later (After.trans (After.drew (After.refl _)) hSw); go_simp; try with_reducible rfl)
    try simp only [Act.put, List.getElem_toArray, List.getElem_cons_succ, List.getElem_cons_zero, List.setIfInBounds_toArray, List.set_cons_zero, List.set_cons_succ]
    refine Script.done (by kernel_rfl) ?_
    intro wD hD hG
    have B1 := Lib.hid (B0.out.later (After.trans (After.drew (After.refl _)) hD))
    clear hD hG B0
    go_wp2_with fail
    go_ret
    exact ⟨rfl, B1.out.1.2.2.2.2⟩
  · cases hl : (lnsOf W H Z).contains (f, o, t)
    · rw [show jumpB W H Z P (f, o, t) = false by simp only [jumpB, hp, hl]; rfl]
      have C1 := Lib.hid (specPos_is hP hp)
      have C2 := Lib.hid (specIs_is hl)
      clear hp hP hl
      go_enter Try.func84, Try.ntmps84
      go_wp2_with fail
      have B0 := Lib.hid (bx2_new W H Z f o t 25 76 w)
      generalize (w.alloc (.cells #[.int .i64 W, .int .i64 H, .int .i64 Z] 25)).alloc (.cells #[.int .i64 f, .int .i64 o, .int .i64 t] 76) = W1 at *
      refine wp_region_script (by kernel_rfl) (by kernel_rfl) ?_
      refine Script.load (i := 0) (v := ?_) rfl (by kernel_rfl) (by kernel_rfl) (fun _ _ _ h => h) (by kernel_rfl) ?_ ?_
      rotate_left
      · (intro wS hSw; obtain ⟨⟨c0, c1, c2, -, -⟩, ⟨d0, d1, d2, -, -⟩⟩ := B0.out.later (After.trans (After.drew (After.refl _)) hSw); go_simp; try with_reducible rfl)
      try simp only [Act.put, List.getElem_toArray, List.getElem_cons_succ, List.getElem_cons_zero, List.setIfInBounds_toArray, List.set_cons_zero, List.set_cons_succ]
      refine Script.load (i := 1) (v := ?_) rfl (by kernel_rfl) (by kernel_rfl) (fun _ _ _ h => h) (by kernel_rfl) ?_ ?_
      rotate_left
      · (intro wS hSw; obtain ⟨⟨c0, c1, c2, -, -⟩, ⟨d0, d1, d2, -, -⟩⟩ := B0.out.later (After.trans (After.drew (After.refl _)) hSw); go_simp; try with_reducible rfl)
      try simp only [Act.put, List.getElem_toArray, List.getElem_cons_succ, List.getElem_cons_zero, List.setIfInBounds_toArray, List.set_cons_zero, List.set_cons_succ]
      refine Script.call (i := 2) (v := ?_) rfl (by kernel_rfl) (by kernel_rfl) (fun _ _ _ h => h) (by kernel_rfl) ?_ ?_
      rotate_left
      · (intro wS hSw K hK; obtain ⟨⟨c0, c1, c2, -, -⟩, ⟨d0, d1, d2, -, -⟩⟩ := B0.out.later (After.trans (After.drew (After.refl _)) hSw); go_simp; go_at_call 32; refine (C1.out _).mono ?_; rintro e wc ⟨rfl, hbc⟩; exact hK.out _ hbc)
      try simp only [Act.put, List.getElem_toArray, List.getElem_cons_succ, List.getElem_cons_zero, List.setIfInBounds_toArray, List.set_cons_zero, List.set_cons_succ]
      refine Script.load (i := 3) (v := ?_) rfl (by kernel_rfl) (by kernel_rfl) (fun _ _ _ h => h) (by kernel_rfl) ?_ ?_
      rotate_left
      · (intro wS hSw; obtain ⟨⟨c0, c1, c2, -, -⟩, ⟨d0, d1, d2, -, -⟩⟩ := B0.out.later (After.trans (After.drew (After.refl _)) hSw); go_simp; try with_reducible rfl)
      try simp only [Act.put, List.getElem_toArray, List.getElem_cons_succ, List.getElem_cons_zero, List.setIfInBounds_toArray, List.set_cons_zero, List.set_cons_succ]
      refine Script.load (i := 4) (v := ?_) rfl (by kernel_rfl) (by kernel_rfl) (fun _ _ _ h => h) (by kernel_rfl) ?_ ?_
      rotate_left
      · (intro wS hSw; obtain ⟨⟨c0, c1, c2, -, -⟩, ⟨d0, d1, d2, -, -⟩⟩ := B0.out.later (After.trans (After.drew (After.refl _)) hSw); go_simp; try with_reducible rfl)
      try simp only [Act.put, List.getElem_toArray, List.getElem_cons_succ, List.getElem_cons_zero, List.setIfInBounds_toArray, List.set_cons_zero, List.set_cons_succ]
      refine Script.load (i := 5) (v := ?_) rfl (by kernel_rfl) (by kernel_rfl) (fun _ _ _ h => h) (by kernel_rfl) ?_ ?_
      rotate_left
      · (intro wS hSw; obtain ⟨⟨c0, c1, c2, -, -⟩, ⟨d0, d1, d2, -, -⟩⟩ := B0.out.later (After.trans (After.drew (After.refl _)) hSw); go_simp; try with_reducible rfl)
      try simp only [Act.put, List.getElem_toArray, List.getElem_cons_succ, List.getElem_cons_zero, List.setIfInBounds_toArray, List.set_cons_zero, List.set_cons_succ]
      refine Script.call (i := 6) (v := ?_) rfl (by kernel_rfl) (by kernel_rfl) (fun _ _ _ h => h) (by kernel_rfl) ?_ ?_
      rotate_left
      · (intro wS hSw K hK; obtain ⟨⟨c0, c1, c2, -, -⟩, ⟨d0, d1, d2, -, -⟩⟩ := B0.out.later (After.trans (After.drew (After.refl _)) hSw); go_simp; go_at_call 91; refine (C2.out _).mono ?_; rintro e wc ⟨rfl, hbc⟩; exact hK.out _ hbc)
      try simp only [Act.put, List.getElem_toArray, List.getElem_cons_succ, List.getElem_cons_zero, List.setIfInBounds_toArray, List.set_cons_zero, List.set_cons_succ]
      refine Script.load (i := 7) (v := ?_) rfl (by kernel_rfl) (by kernel_rfl) (fun _ _ _ h => h) (by kernel_rfl) ?_ ?_
      rotate_left
      · (intro wS hSw; obtain ⟨⟨c0, c1, c2, -, -⟩, ⟨d0, d1, d2, -, -⟩⟩ := B0.out.later (After.trans (After.drew (After.refl _)) hSw); go_simp; try with_reducible rfl)
      try simp only [Act.put, List.getElem_toArray, List.getElem_cons_succ, List.getElem_cons_zero, List.setIfInBounds_toArray, List.set_cons_zero, List.set_cons_succ]
      refine Script.load (i := 8) (v := ?_) rfl (by kernel_rfl) (by kernel_rfl) (fun _ _ _ h => h) (by kernel_rfl) ?_ ?_
      rotate_left
      · (intro wS hSw; obtain ⟨⟨c0, c1, c2, -, -⟩, ⟨d0, d1, d2, -, -⟩⟩ := B0.out.later (After.trans (After.drew (After.refl _)) hSw); go_simp; try with_reducible rfl)
      try simp only [Act.put, List.getElem_toArray, List.getElem_cons_succ, List.getElem_cons_zero, List.setIfInBounds_toArray, List.set_cons_zero, List.set_cons_succ]
      refine Script.skip (i := 9) rfl (by kernel_rfl) (by kernel_rfl) (fun _ _ _ h => h) (by kernel_rfl) ?_
      try simp only [Act.put, List.getElem_toArray, List.getElem_cons_succ, List.getElem_cons_zero, List.setIfInBounds_toArray, List.set_cons_zero, List.set_cons_succ]
      refine Script.skip (i := 10) rfl (by kernel_rfl) (by kernel_rfl) (fun _ _ _ h => h) (by kernel_rfl) ?_
      try simp only [Act.put, List.getElem_toArray, List.getElem_cons_succ, List.getElem_cons_zero, List.setIfInBounds_toArray, List.set_cons_zero, List.set_cons_succ]
      refine Script.skip (i := 11) rfl (by kernel_rfl) (by kernel_rfl) (fun _ _ _ h => h) (by kernel_rfl) ?_
      try simp only [Act.put, List.getElem_toArray, List.getElem_cons_succ, List.getElem_cons_zero, List.setIfInBounds_toArray, List.set_cons_zero, List.set_cons_succ]
      refine Script.skip (i := 12) rfl (by kernel_rfl) (by kernel_rfl) (fun _ _ _ h => h) (by kernel_rfl) ?_
      try simp only [Act.put, List.getElem_toArray, List.getElem_cons_succ, List.getElem_cons_zero, List.setIfInBounds_toArray, List.set_cons_zero, List.set_cons_succ]
      refine Script.skip (i := 13) rfl (by kernel_rfl) (by kernel_rfl) (fun _ _ _ h => h) (by kernel_rfl) ?_
      try simp only [Act.put, List.getElem_toArray, List.getElem_cons_succ, List.getElem_cons_zero, List.setIfInBounds_toArray, List.set_cons_zero, List.set_cons_succ]
      refine Script.skip (i := 14) rfl (by kernel_rfl) (by kernel_rfl) (fun _ _ _ h => h) (by kernel_rfl) ?_
      try simp only [Act.put, List.getElem_toArray, List.getElem_cons_succ, List.getElem_cons_zero, List.setIfInBounds_toArray, List.set_cons_zero, List.set_cons_succ]
      refine Script.skip (i := 15) rfl (by kernel_rfl) (by kernel_rfl) (fun _ _ _ h => h) (by kernel_rfl) ?_
      try simp only [Act.put, List.getElem_toArray, List.getElem_cons_succ, List.getElem_cons_zero, List.setIfInBounds_toArray, List.set_cons_zero, List.set_cons_succ]
      refine Script.skip (i := 16) rfl (by kernel_rfl) (by kernel_rfl) (fun _ _ _ h => h) (by kernel_rfl) ?_
      try simp only [Act.put, List.getElem_toArray, List.getElem_cons_succ, List.getElem_cons_zero, List.setIfInBounds_toArray, List.set_cons_zero, List.set_cons_succ]
      refine Script.skip (i := 17) rfl (by kernel_rfl) (by kernel_rfl) (fun _ _ _ h => h) (by kernel_rfl) ?_
      try simp only [Act.put, List.getElem_toArray, List.getElem_cons_succ, List.getElem_cons_zero, List.setIfInBounds_toArray, List.set_cons_zero, List.set_cons_succ]
      refine Script.skip (i := 18) rfl (by kernel_rfl) (by kernel_rfl) (fun _ _ _ h => h) (by kernel_rfl) ?_
      try simp only [Act.put, List.getElem_toArray, List.getElem_cons_succ, List.getElem_cons_zero, List.setIfInBounds_toArray, List.set_cons_zero, List.set_cons_succ]
      refine Script.skip (i := 19) rfl (by kernel_rfl) (by kernel_rfl) (fun _ _ _ h => h) (by kernel_rfl) ?_
      try simp only [Act.put, List.getElem_toArray, List.getElem_cons_succ, List.getElem_cons_zero, List.setIfInBounds_toArray, List.set_cons_zero, List.set_cons_succ]
      refine Script.skip (i := 20) rfl (by kernel_rfl) (by kernel_rfl) (fun _ _ _ h => h) (by kernel_rfl) ?_
      try simp only [Act.put, List.getElem_toArray, List.getElem_cons_succ, List.getElem_cons_zero, List.setIfInBounds_toArray, List.set_cons_zero, List.set_cons_succ]
      refine Script.load (i := 21) (v := ?_) rfl (by kernel_rfl) (by kernel_rfl) (fun _ _ _ h => h) (by kernel_rfl) ?_ ?_
      rotate_left
      · (intro wS hSw; obtain ⟨⟨c0, c1, c2, -, -⟩, ⟨d0, d1, d2, -, -⟩⟩ := B0.out.later (After.trans (After.drew (After.refl _)) hSw); go_simp; try with_reducible rfl)
      try simp only [Act.put, List.getElem_toArray, List.getElem_cons_succ, List.getElem_cons_zero, List.setIfInBounds_toArray, List.set_cons_zero, List.set_cons_succ]
      refine Script.load (i := 22) (v := ?_) rfl (by kernel_rfl) (by kernel_rfl) (fun _ _ _ h => h) (by kernel_rfl) ?_ ?_
      rotate_left
      · (intro wS hSw; obtain ⟨⟨c0, c1, c2, -, -⟩, ⟨d0, d1, d2, -, -⟩⟩ := B0.out.later (After.trans (After.drew (After.refl _)) hSw); go_simp; try with_reducible rfl)
      try simp only [Act.put, List.getElem_toArray, List.getElem_cons_succ, List.getElem_cons_zero, List.setIfInBounds_toArray, List.set_cons_zero, List.set_cons_succ]
      refine Script.done (by kernel_rfl) ?_
      intro wD hD hG
      have B1 := Lib.hid (B0.out.later (After.trans (After.drew (After.refl _)) hD))
      clear hD hG B0
      go_wp2_with fail
      go_ret
      exact ⟨rfl, B1.out.1.2.2.2.2⟩
    · obtain ⟨a, b, N, z, p, f', o', t', S⟩ := set5 hp hl
      have C1 := Lib.hid (specPos_is hP hp)
      have C2 := Lib.hid (specIs_is hl)
      obtain ⟨hpb, hf, ho, ht⟩ := S.bounds
      have C3 := Lib.hid (fun w => specBits f' o' t' hf ho ht w)
      have hm := lineM_lt hf ho ht
      obtain ⟨q1, e1, n1, l1, u1⟩ := pow_nat f' hf
      obtain ⟨q2, e2, n2, l2, u2⟩ := pow_nat o' ho
      have h12 : q1 ||| q2 < 2 ^ 63 := Nat.or_lt_two_pow (by omega) (by omega)
      have hor1 := or63 (a := q1) (b := q2) (by omega) (by omega)
      have hw2 : IntKind.i64.wrap (q2 : Int) = (q2 : Int) := IntWalk.i64_in _ (by omega)
      have hw1 : IntKind.i64.wrap (q1 : Int) = (q1 : Int) := IntWalk.i64_in _ (by omega)
      have hand := and63 (a := p) (b := lineM f' o' t') (by omega) (by omega)
      have E : Hid ((((p &&& lineM f' o' t' : Nat) : Int) == ((q1 ||| q2 : Nat) : Int)) = jumpB W H Z P (f, o, t)) := by
        unfold Hid
        simp only [jumpB, hp, hl, S.bef, Bool.true_and]
        rw [← and_bef S.at'.fo S.at'.ft S.at'.ot, n1, n2, Bool.eq_iff_iff]
        simp only [beq_iff_eq]
        omega
      have e3 := S.eP
      have e4 := S.at'.eq
      simp only [Prod.mk.injEq] at e4
      obtain ⟨e4, e5, e6⟩ := e4
      generalize jumpB W H Z P (f, o, t) = R at *
      generalize p &&& lineM f' o' t' = x at *
      generalize lineM f' o' t' = m at *
      generalize q1 ||| q2 = r at *
      clear n2
      clear hp hP hl S n1
      subst e3 e4 e5 e6
      go_enter Try.func84, Try.ntmps84
      go_wp2_with fail
      have B0 := Lib.hid (bx2_new W H Z f' o' t' 25 76 w)
      generalize (w.alloc (.cells #[.int .i64 W, .int .i64 H, .int .i64 Z] 25)).alloc (.cells #[.int .i64 (f' : Int), .int .i64 (o' : Int), .int .i64 (t' : Int)] 76) = W1 at *
      refine wp_region_script (by kernel_rfl) (by kernel_rfl) ?_
      refine Script.load (i := 0) (v := ?_) rfl (by kernel_rfl) (by kernel_rfl) (fun _ _ _ h => h) (by kernel_rfl) ?_ ?_
      rotate_left
      · (intro wS hSw; obtain ⟨⟨c0, c1, c2, -, -⟩, ⟨d0, d1, d2, -, -⟩⟩ := B0.out.later (After.trans (After.drew (After.refl _)) hSw); go_simp; try with_reducible rfl)
      try simp only [Act.put, List.getElem_toArray, List.getElem_cons_succ, List.getElem_cons_zero, List.setIfInBounds_toArray, List.set_cons_zero, List.set_cons_succ]
      refine Script.load (i := 1) (v := ?_) rfl (by kernel_rfl) (by kernel_rfl) (fun _ _ _ h => h) (by kernel_rfl) ?_ ?_
      rotate_left
      · (intro wS hSw; obtain ⟨⟨c0, c1, c2, -, -⟩, ⟨d0, d1, d2, -, -⟩⟩ := B0.out.later (After.trans (After.drew (After.refl _)) hSw); go_simp; try with_reducible rfl)
      try simp only [Act.put, List.getElem_toArray, List.getElem_cons_succ, List.getElem_cons_zero, List.setIfInBounds_toArray, List.set_cons_zero, List.set_cons_succ]
      refine Script.call (i := 2) (v := ?_) rfl (by kernel_rfl) (by kernel_rfl) (fun _ _ _ h => h) (by kernel_rfl) ?_ ?_
      rotate_left
      · (intro wS hSw K hK; obtain ⟨⟨c0, c1, c2, -, -⟩, ⟨d0, d1, d2, -, -⟩⟩ := B0.out.later (After.trans (After.drew (After.refl _)) hSw); go_simp; go_at_call 32; refine (C1.out _).mono ?_; rintro e wc ⟨rfl, hbc⟩; exact hK.out _ hbc)
      try simp only [Act.put, List.getElem_toArray, List.getElem_cons_succ, List.getElem_cons_zero, List.setIfInBounds_toArray, List.set_cons_zero, List.set_cons_succ]
      refine Script.load (i := 3) (v := ?_) rfl (by kernel_rfl) (by kernel_rfl) (fun _ _ _ h => h) (by kernel_rfl) ?_ ?_
      rotate_left
      · (intro wS hSw; obtain ⟨⟨c0, c1, c2, -, -⟩, ⟨d0, d1, d2, -, -⟩⟩ := B0.out.later (After.trans (After.drew (After.refl _)) hSw); go_simp; try with_reducible rfl)
      try simp only [Act.put, List.getElem_toArray, List.getElem_cons_succ, List.getElem_cons_zero, List.setIfInBounds_toArray, List.set_cons_zero, List.set_cons_succ]
      refine Script.load (i := 4) (v := ?_) rfl (by kernel_rfl) (by kernel_rfl) (fun _ _ _ h => h) (by kernel_rfl) ?_ ?_
      rotate_left
      · (intro wS hSw; obtain ⟨⟨c0, c1, c2, -, -⟩, ⟨d0, d1, d2, -, -⟩⟩ := B0.out.later (After.trans (After.drew (After.refl _)) hSw); go_simp; try with_reducible rfl)
      try simp only [Act.put, List.getElem_toArray, List.getElem_cons_succ, List.getElem_cons_zero, List.setIfInBounds_toArray, List.set_cons_zero, List.set_cons_succ]
      refine Script.load (i := 5) (v := ?_) rfl (by kernel_rfl) (by kernel_rfl) (fun _ _ _ h => h) (by kernel_rfl) ?_ ?_
      rotate_left
      · (intro wS hSw; obtain ⟨⟨c0, c1, c2, -, -⟩, ⟨d0, d1, d2, -, -⟩⟩ := B0.out.later (After.trans (After.drew (After.refl _)) hSw); go_simp; try with_reducible rfl)
      try simp only [Act.put, List.getElem_toArray, List.getElem_cons_succ, List.getElem_cons_zero, List.setIfInBounds_toArray, List.set_cons_zero, List.set_cons_succ]
      refine Script.call (i := 6) (v := ?_) rfl (by kernel_rfl) (by kernel_rfl) (fun _ _ _ h => h) (by kernel_rfl) ?_ ?_
      rotate_left
      · (intro wS hSw K hK; obtain ⟨⟨c0, c1, c2, -, -⟩, ⟨d0, d1, d2, -, -⟩⟩ := B0.out.later (After.trans (After.drew (After.refl _)) hSw); go_simp; go_at_call 91; refine (C2.out _).mono ?_; rintro e wc ⟨rfl, hbc⟩; exact hK.out _ hbc)
      try simp only [Act.put, List.getElem_toArray, List.getElem_cons_succ, List.getElem_cons_zero, List.setIfInBounds_toArray, List.set_cons_zero, List.set_cons_succ]
      refine Script.load (i := 7) (v := ?_) rfl (by kernel_rfl) (by kernel_rfl) (fun _ _ _ h => h) (by kernel_rfl) ?_ ?_
      rotate_left
      · (intro wS hSw; obtain ⟨⟨c0, c1, c2, -, -⟩, ⟨d0, d1, d2, -, -⟩⟩ := B0.out.later (After.trans (After.drew (After.refl _)) hSw); go_simp; try with_reducible rfl)
      try simp only [Act.put, List.getElem_toArray, List.getElem_cons_succ, List.getElem_cons_zero, List.setIfInBounds_toArray, List.set_cons_zero, List.set_cons_succ]
      refine Script.load (i := 8) (v := ?_) rfl (by kernel_rfl) (by kernel_rfl) (fun _ _ _ h => h) (by kernel_rfl) ?_ ?_
      rotate_left
      · (intro wS hSw; obtain ⟨⟨c0, c1, c2, -, -⟩, ⟨d0, d1, d2, -, -⟩⟩ := B0.out.later (After.trans (After.drew (After.refl _)) hSw); go_simp; try with_reducible rfl)
      try simp only [Act.put, List.getElem_toArray, List.getElem_cons_succ, List.getElem_cons_zero, List.setIfInBounds_toArray, List.set_cons_zero, List.set_cons_succ]
      refine Script.load (i := 9) (v := ?_) rfl (by kernel_rfl) (by kernel_rfl) (fun _ _ _ h => h) (by kernel_rfl) ?_ ?_
      rotate_left
      · (intro wS hSw; obtain ⟨⟨c0, c1, c2, -, -⟩, ⟨d0, d1, d2, -, -⟩⟩ := B0.out.later (After.trans (After.drew (After.refl _)) hSw); go_simp; try with_reducible rfl)
      try simp only [Act.put, List.getElem_toArray, List.getElem_cons_succ, List.getElem_cons_zero, List.setIfInBounds_toArray, List.set_cons_zero, List.set_cons_succ]
      refine Script.load (i := 10) (v := ?_) rfl (by kernel_rfl) (by kernel_rfl) (fun _ _ _ h => h) (by kernel_rfl) ?_ ?_
      rotate_left
      · (intro wS hSw; obtain ⟨⟨c0, c1, c2, -, -⟩, ⟨d0, d1, d2, -, -⟩⟩ := B0.out.later (After.trans (After.drew (After.refl _)) hSw); go_simp; try with_reducible rfl)
      try simp only [Act.put, List.getElem_toArray, List.getElem_cons_succ, List.getElem_cons_zero, List.setIfInBounds_toArray, List.set_cons_zero, List.set_cons_succ]
      refine Script.call (i := 11) (v := ?_) rfl (by kernel_rfl) (by kernel_rfl) (fun _ _ _ h => h) (by kernel_rfl) ?_ ?_
      rotate_left
      · (intro wS hSw K hK; obtain ⟨⟨c0, c1, c2, -, -⟩, ⟨d0, d1, d2, -, -⟩⟩ := B0.out.later (After.trans (After.drew (After.refl _)) hSw); go_simp; go_at_call 60; refine (C3.out _).mono ?_; rintro e wc ⟨rfl, hbc⟩; exact hK.out _ hbc)
      try simp only [Act.put, List.getElem_toArray, List.getElem_cons_succ, List.getElem_cons_zero, List.setIfInBounds_toArray, List.set_cons_zero, List.set_cons_succ]
      refine Script.load (i := 12) (v := ?_) rfl (by kernel_rfl) (by kernel_rfl) (fun _ _ _ h => h) (by kernel_rfl) ?_ ?_
      rotate_left
      · (intro wS hSw; obtain ⟨⟨c0, c1, c2, -, -⟩, ⟨d0, d1, d2, -, -⟩⟩ := B0.out.later (After.trans (After.drew (After.refl _)) hSw); go_simp; try with_reducible rfl)
      try simp only [Act.put, List.getElem_toArray, List.getElem_cons_succ, List.getElem_cons_zero, List.setIfInBounds_toArray, List.set_cons_zero, List.set_cons_succ]
      refine Script.load (i := 13) (v := ?_) rfl (by kernel_rfl) (by kernel_rfl) (fun _ _ _ h => h) (by kernel_rfl) ?_ ?_
      rotate_left
      · (intro wS hSw; obtain ⟨⟨c0, c1, c2, -, -⟩, ⟨d0, d1, d2, -, -⟩⟩ := B0.out.later (After.trans (After.drew (After.refl _)) hSw); go_simp; try with_reducible rfl)
      try simp only [Act.put, List.getElem_toArray, List.getElem_cons_succ, List.getElem_cons_zero, List.setIfInBounds_toArray, List.set_cons_zero, List.set_cons_succ]
      refine Script.load (i := 14) (v := ?_) rfl (by kernel_rfl) (by kernel_rfl) (fun _ _ _ h => h) (by kernel_rfl) ?_ ?_
      rotate_left
      · (intro wS hSw; obtain ⟨⟨c0, c1, c2, -, -⟩, ⟨d0, d1, d2, -, -⟩⟩ := B0.out.later (After.trans (After.drew (After.refl _)) hSw); go_simp; try with_reducible rfl)
      try simp only [Act.put, List.getElem_toArray, List.getElem_cons_succ, List.getElem_cons_zero, List.setIfInBounds_toArray, List.set_cons_zero, List.set_cons_succ]
      refine Script.load (i := 15) (v := ?_) rfl (by kernel_rfl) (by kernel_rfl) (fun _ _ _ h => h) (by kernel_rfl) ?_ ?_
      rotate_left
      · (intro wS hSw; obtain ⟨⟨c0, c1, c2, -, -⟩, ⟨d0, d1, d2, -, -⟩⟩ := B0.out.later (After.trans (After.drew (After.refl _)) hSw); go_simp; try with_reducible rfl)
      try simp only [Act.put, List.getElem_toArray, List.getElem_cons_succ, List.getElem_cons_zero, List.setIfInBounds_toArray, List.set_cons_zero, List.set_cons_succ]
      refine Script.load (i := 16) (v := ?_) rfl (by kernel_rfl) (by kernel_rfl) (fun _ _ _ h => h) (by kernel_rfl) ?_ ?_
      rotate_left
      · (intro wS hSw; obtain ⟨⟨c0, c1, c2, -, -⟩, ⟨d0, d1, d2, -, -⟩⟩ := B0.out.later (After.trans (After.drew (After.refl _)) hSw); go_simp; try with_reducible rfl)
      try simp only [Act.put, List.getElem_toArray, List.getElem_cons_succ, List.getElem_cons_zero, List.setIfInBounds_toArray, List.set_cons_zero, List.set_cons_succ]
      refine Script.load (i := 17) (v := ?_) rfl (by kernel_rfl) (by kernel_rfl) (fun _ _ _ h => h) (by kernel_rfl) ?_ ?_
      rotate_left
      · (intro wS hSw; obtain ⟨⟨c0, c1, c2, -, -⟩, ⟨d0, d1, d2, -, -⟩⟩ := B0.out.later (After.trans (After.drew (After.refl _)) hSw); go_simp; try with_reducible rfl)
      try simp only [Act.put, List.getElem_toArray, List.getElem_cons_succ, List.getElem_cons_zero, List.setIfInBounds_toArray, List.set_cons_zero, List.set_cons_succ]
      refine Script.load (i := 18) (v := ?_) rfl (by kernel_rfl) (by kernel_rfl) (fun _ _ _ h => h) (by kernel_rfl) ?_ ?_
      rotate_left
      · (intro wS hSw; obtain ⟨⟨c0, c1, c2, -, -⟩, ⟨d0, d1, d2, -, -⟩⟩ := B0.out.later (After.trans (After.drew (After.refl _)) hSw); go_simp; try with_reducible rfl)
      try simp only [Act.put, List.getElem_toArray, List.getElem_cons_succ, List.getElem_cons_zero, List.setIfInBounds_toArray, List.set_cons_zero, List.set_cons_succ]
      refine Script.load (i := 19) (v := ?_) rfl (by kernel_rfl) (by kernel_rfl) (fun _ _ _ h => h) (by kernel_rfl) ?_ ?_
      rotate_left
      · (intro wS hSw; obtain ⟨⟨c0, c1, c2, -, -⟩, ⟨d0, d1, d2, -, -⟩⟩ := B0.out.later (After.trans (After.drew (After.refl _)) hSw); go_simp; try with_reducible rfl)
      try simp only [Act.put, List.getElem_toArray, List.getElem_cons_succ, List.getElem_cons_zero, List.setIfInBounds_toArray, List.set_cons_zero, List.set_cons_succ]
      refine Script.load (i := 20) (v := ?_) rfl (by kernel_rfl) (by kernel_rfl) (fun _ _ _ h => h) (by kernel_rfl) ?_ ?_
      rotate_left
      · (intro wS hSw; obtain ⟨⟨c0, c1, c2, -, -⟩, ⟨d0, d1, d2, -, -⟩⟩ := B0.out.later (After.trans (After.drew (After.refl _)) hSw); go_simp; try with_reducible rfl)
      try simp only [Act.put, List.getElem_toArray, List.getElem_cons_succ, List.getElem_cons_zero, List.setIfInBounds_toArray, List.set_cons_zero, List.set_cons_succ]
      refine Script.load (i := 21) (v := ?_) rfl (by kernel_rfl) (by kernel_rfl) (fun _ _ _ h => h) (by kernel_rfl) ?_ ?_
      rotate_left
      · (intro wS hSw; obtain ⟨⟨c0, c1, c2, -, -⟩, ⟨d0, d1, d2, -, -⟩⟩ := B0.out.later (After.trans (After.drew (After.refl _)) hSw); go_simp; try with_reducible rfl)
      try simp only [Act.put, List.getElem_toArray, List.getElem_cons_succ, List.getElem_cons_zero, List.setIfInBounds_toArray, List.set_cons_zero, List.set_cons_succ]
      refine Script.load (i := 22) (v := ?_) rfl (by kernel_rfl) (by kernel_rfl) (fun _ _ _ h => h) (by kernel_rfl) ?_ ?_
      rotate_left
      · (intro wS hSw; obtain ⟨⟨c0, c1, c2, -, -⟩, ⟨d0, d1, d2, -, -⟩⟩ := B0.out.later (After.trans (After.drew (After.refl _)) hSw); go_simp; try with_reducible rfl)
      try simp only [Act.put, List.getElem_toArray, List.getElem_cons_succ, List.getElem_cons_zero, List.setIfInBounds_toArray, List.set_cons_zero, List.set_cons_succ]
      refine Script.done (by kernel_rfl) ?_
      intro wD hD hG
      have B1 := Lib.hid (B0.out.later (After.trans (After.drew (After.refl _)) hD))
      clear hD hG B0
      go_wp2_with fail
      go_ret
      exact QB.of E.out B1.out.1.2.2.2.2
end Go.Proofs.Ytgkmapemnlgldaa

namespace Go.Proofs.Ytgkmapemnlgldaa
open Go.RowKit
set_option linter.unusedVariables false
set_option linter.unusedSimpArgs false
/-- Whether there is a jump that can be undone on a line. -/
def undoB (W H Z P : Int) (l : Ln) : Bool := posB W H Z P && (lnsOf W H Z).contains l && aftL P l
def backB (W H Z P : Int) (l : Ln) : Int × Bool := if undoB W H Z P l = true then (flipL P l, true) else (P, false)

end Go.Proofs.Ytgkmapemnlgldaa

namespace Go.Proofs.Ytgkmapemnlgldaa
open Go.RowKit
set_option linter.unusedVariables false
set_option linter.unusedSimpArgs false
theorem flip_big {W H Z P : Int} {l : Ln} {a b N z p f o t : Nat} (h : Set5 W H Z P l a b N z p f o t) : flipN p f o t < 562949953421312 := by
  obtain ⟨h1, h2, h3, h4⟩ := h.bounds
  exact flipN_lt h1 h2 h3 h4
theorem jump_set {W H Z P : Int} {l : Ln} (h : jumpB W H Z P l = true) : ∃ a b N z p f o t, Set5 W H Z P l a b N z p f o t ∧ befN p f o t = true := by
  simp only [jumpB, Bool.and_eq_true] at h
  obtain ⟨a, b, N, z, p, f, o, t, S⟩ := set5 h.1.1 h.1.2
  exact ⟨a, b, N, z, p, f, o, t, S, by rw [← S.bef]; exact h.2⟩
theorem do_yes {W H Z P : Int} {l : Ln} (h : jumpB W H Z P l = true) : doB W H Z P l = (flipL P l, true) := by simp [doB, h]
theorem do_no {W H Z P : Int} {l : Ln} (h : jumpB W H Z P l = false) : doB W H Z P l = (P, false) := by simp [doB, h]
set_option maxHeartbeats 1000000 in
set_option maxRecDepth 100000 in
theorem specDo (W H Z P f o t : Int) (hP : P ≤ 9223372036854775807) (w : World) : Calls Try.prog 72 #[.agg #[.int .i64 W, .int .i64 H, .int .i64 Z], .int .i64 P, .agg #[.int .i64 f, .int .i64 o, .int .i64 t]] w (QP (doB W H Z P (f, o, t)) w) := by
  have C1 := Lib.hid (fun w => specCan W H Z P f o t hP w)
  cases hj : jumpB W H Z P (f, o, t)
  · rw [do_no hj]
    rw [hj] at C1
    clear hj hP
    go_enter Try.func72, Try.ntmps72
    go_wp2_with fail
    have B0 := Lib.hid (bx2_new W H Z f o t 25 76 w)
    generalize (w.alloc (.cells #[.int .i64 W, .int .i64 H, .int .i64 Z] 25)).alloc (.cells #[.int .i64 f, .int .i64 o, .int .i64 t] 76) = W1 at *
    obtain ⟨⟨c0, c1, c2, hlt, hb1⟩, ⟨d0, d1, d2, hlt2, -⟩⟩ := B0.out
    go_wp2_with fail
    refine (C1.out _).mono ?_
    rintro e w1 ⟨rfl, hb⟩
    have B1 := Lib.hid (B0.out.later hb)
    clear c0 c1 c2 hlt hb1 d0 d1 d2 hlt2 hb B0
    go_wp2_with fail
    go_ret2
    exact ⟨rfl, B1.out.1.2.2.2.2⟩
  · obtain ⟨a, b, N, z, p, f', o', t', S, -⟩ := jump_set hj
    obtain ⟨hpb, hf, ho, ht⟩ := S.bounds
    rw [do_yes hj, S.flip]
    rw [hj] at C1
    have C2 := Lib.hid (fun w => specBits f' o' t' hf ho ht w)
    have hm := lineM_lt hf ho ht
    have hxor := xor63 (a := p) (b := lineM f' o' t') (by omega) (by omega)
    have e3 := S.eP
    have e4 := S.at'.eq
    simp only [Prod.mk.injEq] at e4
    obtain ⟨e4, e5, e6⟩ := e4
    unfold flipN
    generalize lineM f' o' t' = m at *
    generalize p ^^^ m = x at *
    clear hj hP S hpb hf ho ht hm
    subst e3 e4 e5 e6
    go_enter Try.func72, Try.ntmps72
    go_wp2_with fail
    have B0 := Lib.hid (bx2_new W H Z f' o' t' 25 76 w)
    generalize (w.alloc (.cells #[.int .i64 W, .int .i64 H, .int .i64 Z] 25)).alloc (.cells #[.int .i64 (f' : Int), .int .i64 (o' : Int), .int .i64 (t' : Int)] 76) = W1 at *
    obtain ⟨⟨c0, c1, c2, hlt, hb1⟩, ⟨d0, d1, d2, hlt2, -⟩⟩ := B0.out
    go_wp2_with fail
    refine (C1.out _).mono ?_
    rintro e w1 ⟨rfl, hb⟩
    have B1 := Lib.hid (B0.out.later hb)
    clear c0 c1 c2 hlt hb1 d0 d1 d2 hlt2 hb B0
    obtain ⟨⟨c0, c1, c2, hlt, hb1⟩, ⟨d0, d1, d2, hlt2, -⟩⟩ := B1.out
    go_wp2_with fail
    refine (C2.out _).mono ?_
    rintro e w2 ⟨rfl, hb⟩
    have B2 := Lib.hid (B1.out.later hb)
    clear c0 c1 c2 hlt hb1 d0 d1 d2 hlt2 hb B1
    go_wp2_with fail
    go_ret2
    exact ⟨rfl, B2.out.1.2.2.2.2⟩
/-- The jumps of a position. -/
def jumpsL (W H Z P : Int) : List Ln := if posB W H Z P = true then (lnsOf W H Z).filter (befL P) else []
theorem jumpsL_le (W H Z P : Int) : (jumpsL W H Z P).length ≤ 196 := by
  unfold jumpsL
  split
  · exact Nat.le_trans (List.length_filter_le _ _) (lnsOf_le W H Z)
  · simp
theorem jumpsL_mem {W H Z P : Int} {l : Ln} : l ∈ jumpsL W H Z P ↔ jumpB W H Z P l = true := by
  unfold jumpsL jumpB
  cases posB W H Z P
  · simp
  · simp
end Go.Proofs.Ytgkmapemnlgldaa

namespace Go.Proofs.Ytgkmapemnlgldaa
open Go.RowKit
set_option linter.unusedVariables false
set_option linter.unusedSimpArgs false
theorem undo_set {W H Z P : Int} {l : Ln} (h : undoB W H Z P l = true) : ∃ a b N z p f o t, Set5 W H Z P l a b N z p f o t ∧ aftN p f o t = true := by
  simp only [undoB, Bool.and_eq_true] at h
  obtain ⟨a, b, N, z, p, f, o, t, S⟩ := set5 h.1.1 h.1.2
  exact ⟨a, b, N, z, p, f, o, t, S, by rw [← S.aft]; exact h.2⟩
theorem back_yes {W H Z P : Int} {l : Ln} (h : undoB W H Z P l = true) : backB W H Z P l = (flipL P l, true) := by simp [backB, h]
theorem back_no {W H Z P : Int} {l : Ln} (h : undoB W H Z P l = false) : backB W H Z P l = (P, false) := by simp [backB, h]
/-- The undone jumps of a position. -/
def undosL (W H Z P : Int) : List Ln := if posB W H Z P = true then (lnsOf W H Z).filter (aftL P) else []
theorem undosL_le (W H Z P : Int) : (undosL W H Z P).length ≤ 196 := by
  unfold undosL
  split
  · exact Nat.le_trans (List.length_filter_le _ _) (lnsOf_le W H Z)
  · simp
theorem undosL_mem {W H Z P : Int} {l : Ln} : l ∈ undosL W H Z P ↔ undoB W H Z P l = true := by
  unfold undosL undoB
  cases posB W H Z P
  · simp
  · simp
end Go.Proofs.Ytgkmapemnlgldaa

namespace Go.Proofs.Ytgkmapemnlgldaa
open Go.RowKit
set_option linter.unusedVariables false
set_option linter.unusedSimpArgs false
set_option maxHeartbeats 4000000 in
set_option maxRecDepth 100000 in
theorem specJumps (W H Z P : Int) (hP : P ≤ 9223372036854775807) (w : World) : Calls Try.prog 73 #[.agg #[.int .i64 W, .int .i64 H, .int .i64 Z], .int .i64 P] w (OwnLines (jumpsL W H Z P) w) := by
  obtain ⟨i0, hi, hz0, hz1, hz2⟩ : ∃ i, Try.prog.info? 76 = some i ∧ i.zero = some (.agg #[.int .i64 0, .int .i64 0, .int .i64 0]) ∧ i.size = 3 ∧ i.bytes = 24 := ⟨_, by rfl, by rfl, by rfl, by rfl⟩
  have C1 := Lib.hid (fun w => specLinesA W H Z w)
  cases hp : posB W H Z P
  · have C0 := Lib.hid (specPos_is hP hp)
    rw [show jumpsL W H Z P = [] by simp [jumpsL, hp]]
    obtain ⟨xs, hxs⟩ : ∃ xs, lnsOf W H Z = xs := ⟨_, rfl⟩
    have hle := lnsOf_le W H Z
    rw [hxs] at hle C1
    clear hp hP hxs
    obtain ⟨n, hn⟩ : ∃ n, xs.length = n := ⟨_, rfl⟩
    have HN := Lib.hid hn
    rw [hn] at hle
    clear hn
    go_enter Try.func73, Try.ntmps73
    go_wp2_with fail
    have B00 := Lib.hid (box_new W H Z w)
    have hS : (w.alloc (.cells #[.int .i64 W, .int .i64 H, .int .i64 Z] 25)).heap.size = w.heap.size + 1 := by simp
    generalize w.alloc (.cells #[.int .i64 W, .int .i64 H, .int .i64 Z] 25) = W1 at *
    have HL0 : Hid (Held (W1.alloc (.cells #[] 76)) (w.heap.size + 1) (.slice (some ⟨w.heap.size + 1, 0, none⟩) 0 0) 0 []) := by
      refine ⟨rfl, ?_⟩
      rw [← hS]
      exact World.ownsRow_made W1 #[] 0 (Nat.le_refl _) (by unfold maxLen; omega) rfl
    have B0 := Lib.hid (B00.out.later ((Below.refl _ _).alloc (Nat.le_refl _) (.cells #[] 76)))
    generalize W1.alloc (.cells #[] 76) = W2 at *
    clear B00 hS
    obtain ⟨c0, c1, c2, hlt, hb1⟩ := B0.out
    go_wp2_with fail
    refine (C1.out _).mono ?_
    rintro e w3 ⟨hv, rfl, hh, hb3⟩
    rw [HN.out] at hh
    have HF := Lib.hid (HL0.out.below hb3)
    have B3 := Lib.hid (B0.out.later hb3)
    obtain ⟨ga, gc, rfl⟩ := lines_form hh
    clear hh hb3 B0 HL0 c0 c1 c2 hlt hb1
    go_wp2_with fail
    go_loopw [5, 7] (fun s i wr => i = .int .i64 0 ∧ s = .slice (some ⟨w.heap.size + 1, 0, none⟩) 0 0 ∧ Hid (Held wr (w.heap.size + 1) (.slice (some ⟨w.heap.size + 1, 0, none⟩) 0 0) 0 []) ∧ Hid (Box w.heap.size W H Z w wr)) (fun _ _ _ => 0)
    case atStart => exact ⟨rfl, rfl, HF, B3⟩
    case round =>
      clear HF B3
      obtain ⟨rfl, rfl, HF, B3⟩ := hrel
      obtain ⟨c0, c1, c2, hlt, hb1⟩ := B3.out
      by_cases h0 : 0 < n
      · have k1 : (0 : Int) < (n : Int) := by omega
        go_wp2_with fail
        refine (C0.out _).mono ?_
        rintro e w4 ⟨rfl, hb4⟩
        have HF4 := Lib.hid (own_base (HF.out.below hb4).2 (Nat.le_succ _))
        have B4 := Lib.hid (B3.out.later hb4)
        clear c0 c1 c2 hlt hb1 hb4 HF B3
        go_wp2_with fail
        go_ret
        exact ⟨_, rfl, HF4.out, B4.out.2.2.2.2⟩
      · have k1 : ¬ (0 : Int) < (n : Int) := by omega
        have HF4 := Lib.hid (own_base HF.out.2 (Nat.le_succ _))
        clear c0 c1 c2 hlt hb1 HF
        go_wp2_with fail
        go_ret
        exact ⟨_, rfl, HF4.out, B3.out.2.2.2.2⟩
  · have C0 := Lib.hid (specPos_is hP hp)
    rw [show jumpsL W H Z P = (lnsOf W H Z).filter (befL P) by simp [jumpsL, hp]]
    have CB : Hid (∀ (f o t : Int), (f, o, t) ∈ lnsOf W H Z → ∃ a b N z p f' o' t', Set5 W H Z P (f, o, t) a b N z p f' o' t') := fun f o t hm => set5 hp (mem_contains hm)
    obtain ⟨xs, hxs⟩ : ∃ xs, lnsOf W H Z = xs := ⟨_, rfl⟩
    have hle := lnsOf_le W H Z
    rw [hxs] at hle C1 CB ⊢
    clear hxs hp hP
    obtain ⟨n, hn⟩ : ∃ n, xs.length = n := ⟨_, rfl⟩
    have HN := Lib.hid hn
    rw [hn] at hle
    clear hn
    go_enter Try.func73, Try.ntmps73
    go_wp2_with fail
    have B00 := Lib.hid (box_new W H Z w)
    have hS : (w.alloc (.cells #[.int .i64 W, .int .i64 H, .int .i64 Z] 25)).heap.size = w.heap.size + 1 := by simp
    generalize w.alloc (.cells #[.int .i64 W, .int .i64 H, .int .i64 Z] 25) = W1 at *
    have HL0 : Hid (Held (W1.alloc (.cells #[] 76)) (w.heap.size + 1) (.slice (some ⟨w.heap.size + 1, 0, none⟩) 0 0) 0 []) := by
      refine ⟨rfl, ?_⟩
      rw [← hS]
      exact World.ownsRow_made W1 #[] 0 (Nat.le_refl _) (by unfold maxLen; omega) rfl
    have B0 := Lib.hid (B00.out.later ((Below.refl _ _).alloc (Nat.le_refl _) (.cells #[] 76)))
    have hS2 : w.heap.size + 2 ≤ (W1.alloc (.cells #[] 76)).heap.size := by simp; omega
    generalize W1.alloc (.cells #[] 76) = W2 at *
    clear B00 hS
    obtain ⟨c0, c1, c2, hlt, hb1⟩ := B0.out
    go_wp2_with fail
    refine (C1.out _).mono ?_
    rintro e w4 ⟨hv, rfl, hh, hb3⟩
    rw [HN.out] at hh
    have B3 := Lib.hid (B0.out.later hb3)
    have HL3 := Lib.hid (HL0.out.below hb3)
    have HH3 := Lib.hid hh
    obtain ⟨ga, gc, rfl⟩ := lines_form hh
    clear hh B0 HL0 hb3 c0 c1 c2 hlt hb1
    obtain ⟨B, hB⟩ : ∃ B, W2.heap.size = B := ⟨_, rfl⟩
    rw [hB] at HH3 hS2
    clear hB
    have HA3 : Hid (∀ g0, ga = some ⟨g0, 0, none⟩ → (Value.slice (some ⟨w.heap.size + 1, 0, none⟩) 0 0).ownBlock ≠ some g0) := fun g0 h1 h2 => by
      have h3 := (HH3.out.lt g0 (by rw [h1]; rfl)).1
      simp [Value.ownBlock] at h2
      omega
    go_wp2_with fail
    go_loopw [5, 7] (fun s i wr => ∃ (k m : Nat) (v : Value) (ys : List Ln), k ≤ n ∧ m ≤ k ∧ i = .int .i64 k ∧ v = s ∧ Hid (ys = (xs.take k).filter (befL P)) ∧ Hid (Held wr (w.heap.size + 1) v m ys) ∧ Hid (wr.ownsRow B 76 3 (.slice ga n gc) n (lv xs)) ∧ Hid (∀ g0, ga = some ⟨g0, 0, none⟩ → v.ownBlock ≠ some g0) ∧ Hid (Box w.heap.size W H Z w wr)) (fun _ i _ => n - (intOf i).toNat)
    case atStart => exact ⟨0, 0, _, [], by omega, by omega, rfl, rfl, rfl, HL3, HH3, HA3, B3⟩
    case round =>
      clear HL3 HH3 HA3 B3
      obtain ⟨k, m, v, ys, hk, hm, rfl, rfl, hys, HL, HH, HA, B4⟩ := hrel
      by_cases hkn : k < n
      · obtain ⟨⟨f, o, t⟩, hl⟩ : ∃ l, xs[k]? = some l := ⟨_, List.getElem?_eq_getElem (by rw [HN.out]; exact hkn)⟩
        obtain ⟨a, b, N, z, p, f', o', t', S⟩ := CB.out f o t (List.mem_of_getElem? hl)
        have k0 : (0 : Int) ≤ (k : Int) := by omega
        have k1 : (k : Int) < (n : Int) := by omega
        obtain ⟨g, rfl⟩ : ∃ g, ga = some ⟨g, 0, none⟩ := by
          rcases Go.Joins.ownsRow_forms HH.out with ⟨h, h0⟩ | ⟨g, cap, h⟩
          · omega
          · injection h with h1 h2 h3; exact ⟨g, h1⟩
        have hln : Hid (m ≤ 1000000000) := by unfold Hid; omega
        obtain ⟨hpb, hf, ho, ht⟩ := S.bounds
        have C3 := Lib.hid (fun w => specBits f' o' t' hf ho ht w)
        have hm := lineM_lt hf ho ht
        obtain ⟨q1, e1, n1, l1, u1⟩ := pow_nat f' hf
        obtain ⟨q2, e2, n2, l2, u2⟩ := pow_nat o' ho
        have h12 : q1 ||| q2 < 2 ^ 63 := Nat.or_lt_two_pow (by omega) (by omega)
        have hor1 := or63 (a := q1) (b := q2) (by omega) (by omega)
        have hw2 : IntKind.i64.wrap (q2 : Int) = (q2 : Int) := IntWalk.i64_in _ (by omega)
        have hw1 : IntKind.i64.wrap (q1 : Int) = (q1 : Int) := IntWalk.i64_in _ (by omega)
        have hand := and63 (a := p) (b := lineM f' o' t') (by omega) (by omega)
        have E : Hid ((((p &&& lineM f' o' t' : Nat) : Int) == ((q1 ||| q2 : Nat) : Int)) = befL P (f, o, t)) := by
          unfold Hid
          rw [S.bef, ← and_bef S.at'.fo S.at'.ft S.at'.ot, n1, n2, Bool.eq_iff_iff]
          simp only [beq_iff_eq]
          omega
        have CE : Hid (∀ w' : World, w'.ownsRow B 76 3 (.slice (some ⟨g, 0, none⟩) n gc) n (lv xs) → w'.cell? ⟨g, k * 3, none⟩ = some (.int .i64 f) ∧ w'.cell? ⟨g, k * 3 + 1, none⟩ = some (.int .i64 o) ∧ w'.cell? ⟨g, k * 3 + 2, none⟩ = some (.int .i64 t)) := fun w' hh => line_cells hh HN.out hl
        have e3 := S.eP
        have e4 := S.at'.eq
        simp only [Prod.mk.injEq] at e4
        obtain ⟨e4, e5, e6⟩ := e4
        generalize p &&& lineM f' o' t' = x at *
        generalize lineM f' o' t' = lm at *
        generalize q1 ||| q2 = r at *
        clear n2
        clear S n1
        subst e4 e5 e6
        subst e3
        obtain ⟨c0, c1, c2, hlt, hb1⟩ := B4.out
        go_wp2_with fail
        refine (C0.out _).mono ?_
        rintro e wb ⟨rfl, hb⟩
        have HLb := Lib.hid (HL.out.below hb)
        have HHb := Lib.hid (own_below HH.out hb)
        have Bb := Lib.hid (B4.out.later hb)
        clear HL HH B4 hb c0 c1 c2 hlt hb1
        cases hc : befL (p : Int) ((f' : Int), (o' : Int), (t' : Int))
        · have HF := Lib.hid (filter_no hl hc)
          have E1 : ((x : Int) == ((r : Nat) : Int)) = false := E.out.trans hc
          clear hl hc E
          go_wp2_with fail
          refine wp_region_script (by kernel_rfl) (by kernel_rfl) ?_
          refine Script.load (i := 0) (v := ?_) rfl (by kernel_rfl) (by kernel_rfl) (fun _ _ _ h => h) (by kernel_rfl) ?_ ?_
          rotate_left
          · (intro wS hSw; obtain ⟨l0, l1, l2⟩ := CE.out _ (own_below HHb.out (After.trans (After.drew (After.refl _)) hSw)); go_simp; try with_reducible rfl)
          try simp only [Act.put, List.getElem_toArray, List.getElem_cons_succ, List.getElem_cons_zero, List.setIfInBounds_toArray, List.set_cons_zero, List.set_cons_succ]
          refine Script.load (i := 1) (v := ?_) rfl (by kernel_rfl) (by kernel_rfl) (fun _ _ _ h => h) (by kernel_rfl) ?_ ?_
          rotate_left
          · (intro wS hSw; obtain ⟨l0, l1, l2⟩ := CE.out _ (own_below HHb.out (After.trans (After.drew (After.refl _)) hSw)); go_simp; try with_reducible rfl)
          try simp only [Act.put, List.getElem_toArray, List.getElem_cons_succ, List.getElem_cons_zero, List.setIfInBounds_toArray, List.set_cons_zero, List.set_cons_succ]
          refine Script.load (i := 2) (v := ?_) rfl (by kernel_rfl) (by kernel_rfl) (fun _ _ _ h => h) (by kernel_rfl) ?_ ?_
          rotate_left
          · (intro wS hSw; obtain ⟨l0, l1, l2⟩ := CE.out _ (own_below HHb.out (After.trans (After.drew (After.refl _)) hSw)); go_simp; try with_reducible rfl)
          try simp only [Act.put, List.getElem_toArray, List.getElem_cons_succ, List.getElem_cons_zero, List.setIfInBounds_toArray, List.set_cons_zero, List.set_cons_succ]
          refine Script.load (i := 3) (v := ?_) rfl (by kernel_rfl) (by kernel_rfl) (fun _ _ _ h => h) (by kernel_rfl) ?_ ?_
          rotate_left
          · (intro wS hSw; obtain ⟨l0, l1, l2⟩ := CE.out _ (own_below HHb.out (After.trans (After.drew (After.refl _)) hSw)); go_simp; try with_reducible rfl)
          try simp only [Act.put, List.getElem_toArray, List.getElem_cons_succ, List.getElem_cons_zero, List.setIfInBounds_toArray, List.set_cons_zero, List.set_cons_succ]
          refine Script.load (i := 4) (v := ?_) rfl (by kernel_rfl) (by kernel_rfl) (fun _ _ _ h => h) (by kernel_rfl) ?_ ?_
          rotate_left
          · (intro wS hSw; obtain ⟨l0, l1, l2⟩ := CE.out _ (own_below HHb.out (After.trans (After.drew (After.refl _)) hSw)); go_simp; try with_reducible rfl)
          try simp only [Act.put, List.getElem_toArray, List.getElem_cons_succ, List.getElem_cons_zero, List.setIfInBounds_toArray, List.set_cons_zero, List.set_cons_succ]
          refine Script.call (i := 5) (v := ?_) rfl (by kernel_rfl) (by kernel_rfl) (fun _ _ _ h => h) (by kernel_rfl) ?_ ?_
          rotate_left
          · (intro wS hSw K hK; obtain ⟨l0, l1, l2⟩ := CE.out _ (own_below HHb.out (After.trans (After.drew (After.refl _)) hSw)); go_simp; go_at_call 60; refine (C3.out _).mono ?_; rintro e wc ⟨rfl, hbc⟩; exact hK.out _ hbc)
          try simp only [Act.put, List.getElem_toArray, List.getElem_cons_succ, List.getElem_cons_zero, List.setIfInBounds_toArray, List.set_cons_zero, List.set_cons_succ]
          refine Script.load (i := 6) (v := ?_) rfl (by kernel_rfl) (by kernel_rfl) (fun _ _ _ h => h) (by kernel_rfl) ?_ ?_
          rotate_left
          · (intro wS hSw; obtain ⟨l0, l1, l2⟩ := CE.out _ (own_below HHb.out (After.trans (After.drew (After.refl _)) hSw)); go_simp; try with_reducible rfl)
          try simp only [Act.put, List.getElem_toArray, List.getElem_cons_succ, List.getElem_cons_zero, List.setIfInBounds_toArray, List.set_cons_zero, List.set_cons_succ]
          refine Script.load (i := 7) (v := ?_) rfl (by kernel_rfl) (by kernel_rfl) (fun _ _ _ h => h) (by kernel_rfl) ?_ ?_
          rotate_left
          · (intro wS hSw; obtain ⟨l0, l1, l2⟩ := CE.out _ (own_below HHb.out (After.trans (After.drew (After.refl _)) hSw)); go_simp; try with_reducible rfl)
          try simp only [Act.put, List.getElem_toArray, List.getElem_cons_succ, List.getElem_cons_zero, List.setIfInBounds_toArray, List.set_cons_zero, List.set_cons_succ]
          refine Script.load (i := 8) (v := ?_) rfl (by kernel_rfl) (by kernel_rfl) (fun _ _ _ h => h) (by kernel_rfl) ?_ ?_
          rotate_left
          · (intro wS hSw; obtain ⟨l0, l1, l2⟩ := CE.out _ (own_below HHb.out (After.trans (After.drew (After.refl _)) hSw)); go_simp; try with_reducible rfl)
          try simp only [Act.put, List.getElem_toArray, List.getElem_cons_succ, List.getElem_cons_zero, List.setIfInBounds_toArray, List.set_cons_zero, List.set_cons_succ]
          refine Script.load (i := 9) (v := ?_) rfl (by kernel_rfl) (by kernel_rfl) (fun _ _ _ h => h) (by kernel_rfl) ?_ ?_
          rotate_left
          · (intro wS hSw; obtain ⟨l0, l1, l2⟩ := CE.out _ (own_below HHb.out (After.trans (After.drew (After.refl _)) hSw)); go_simp; try with_reducible rfl)
          try simp only [Act.put, List.getElem_toArray, List.getElem_cons_succ, List.getElem_cons_zero, List.setIfInBounds_toArray, List.set_cons_zero, List.set_cons_succ]
          refine Script.load (i := 10) (v := ?_) rfl (by kernel_rfl) (by kernel_rfl) (fun _ _ _ h => h) (by kernel_rfl) ?_ ?_
          rotate_left
          · (intro wS hSw; obtain ⟨l0, l1, l2⟩ := CE.out _ (own_below HHb.out (After.trans (After.drew (After.refl _)) hSw)); go_simp; try with_reducible rfl)
          try simp only [Act.put, List.getElem_toArray, List.getElem_cons_succ, List.getElem_cons_zero, List.setIfInBounds_toArray, List.set_cons_zero, List.set_cons_succ]
          refine Script.load (i := 11) (v := ?_) rfl (by kernel_rfl) (by kernel_rfl) (fun _ _ _ h => h) (by kernel_rfl) ?_ ?_
          rotate_left
          · (intro wS hSw; obtain ⟨l0, l1, l2⟩ := CE.out _ (own_below HHb.out (After.trans (After.drew (After.refl _)) hSw)); go_simp; try with_reducible rfl)
          try simp only [Act.put, List.getElem_toArray, List.getElem_cons_succ, List.getElem_cons_zero, List.setIfInBounds_toArray, List.set_cons_zero, List.set_cons_succ]
          refine Script.load (i := 12) (v := ?_) rfl (by kernel_rfl) (by kernel_rfl) (fun _ _ _ h => h) (by kernel_rfl) ?_ ?_
          rotate_left
          · (intro wS hSw; obtain ⟨l0, l1, l2⟩ := CE.out _ (own_below HHb.out (After.trans (After.drew (After.refl _)) hSw)); go_simp; try with_reducible rfl)
          try simp only [Act.put, List.getElem_toArray, List.getElem_cons_succ, List.getElem_cons_zero, List.setIfInBounds_toArray, List.set_cons_zero, List.set_cons_succ]
          refine Script.load (i := 13) (v := ?_) rfl (by kernel_rfl) (by kernel_rfl) (fun _ _ _ h => h) (by kernel_rfl) ?_ ?_
          rotate_left
          · (intro wS hSw; obtain ⟨l0, l1, l2⟩ := CE.out _ (own_below HHb.out (After.trans (After.drew (After.refl _)) hSw)); go_simp; try with_reducible rfl)
          try simp only [Act.put, List.getElem_toArray, List.getElem_cons_succ, List.getElem_cons_zero, List.setIfInBounds_toArray, List.set_cons_zero, List.set_cons_succ]
          refine Script.load (i := 14) (v := ?_) rfl (by kernel_rfl) (by kernel_rfl) (fun _ _ _ h => h) (by kernel_rfl) ?_ ?_
          rotate_left
          · (intro wS hSw; obtain ⟨l0, l1, l2⟩ := CE.out _ (own_below HHb.out (After.trans (After.drew (After.refl _)) hSw)); go_simp; try with_reducible rfl)
          try simp only [Act.put, List.getElem_toArray, List.getElem_cons_succ, List.getElem_cons_zero, List.setIfInBounds_toArray, List.set_cons_zero, List.set_cons_succ]
          refine Script.load (i := 15) (v := ?_) rfl (by kernel_rfl) (by kernel_rfl) (fun _ _ _ h => h) (by kernel_rfl) ?_ ?_
          rotate_left
          · (intro wS hSw; obtain ⟨l0, l1, l2⟩ := CE.out _ (own_below HHb.out (After.trans (After.drew (After.refl _)) hSw)); go_simp; try with_reducible rfl)
          try simp only [Act.put, List.getElem_toArray, List.getElem_cons_succ, List.getElem_cons_zero, List.setIfInBounds_toArray, List.set_cons_zero, List.set_cons_succ]
          refine Script.load (i := 16) (v := ?_) rfl (by kernel_rfl) (by kernel_rfl) (fun _ _ _ h => h) (by kernel_rfl) ?_ ?_
          rotate_left
          · (intro wS hSw; obtain ⟨l0, l1, l2⟩ := CE.out _ (own_below HHb.out (After.trans (After.drew (After.refl _)) hSw)); go_simp; try with_reducible rfl)
          try simp only [Act.put, List.getElem_toArray, List.getElem_cons_succ, List.getElem_cons_zero, List.setIfInBounds_toArray, List.set_cons_zero, List.set_cons_succ]
          refine Script.load (i := 17) (v := ?_) rfl (by kernel_rfl) (by kernel_rfl) (fun _ _ _ h => h) (by kernel_rfl) ?_ ?_
          rotate_left
          · (intro wS hSw; obtain ⟨l0, l1, l2⟩ := CE.out _ (own_below HHb.out (After.trans (After.drew (After.refl _)) hSw)); go_simp; try with_reducible rfl)
          try simp only [Act.put, List.getElem_toArray, List.getElem_cons_succ, List.getElem_cons_zero, List.setIfInBounds_toArray, List.set_cons_zero, List.set_cons_succ]
          refine Script.load (i := 18) (v := ?_) rfl (by kernel_rfl) (by kernel_rfl) (fun _ _ _ h => h) (by kernel_rfl) ?_ ?_
          rotate_left
          · (intro wS hSw; obtain ⟨l0, l1, l2⟩ := CE.out _ (own_below HHb.out (After.trans (After.drew (After.refl _)) hSw)); go_simp; try with_reducible rfl)
          try simp only [Act.put, List.getElem_toArray, List.getElem_cons_succ, List.getElem_cons_zero, List.setIfInBounds_toArray, List.set_cons_zero, List.set_cons_succ]
          refine Script.load (i := 19) (v := ?_) rfl (by kernel_rfl) (by kernel_rfl) (fun _ _ _ h => h) (by kernel_rfl) ?_ ?_
          rotate_left
          · (intro wS hSw; obtain ⟨l0, l1, l2⟩ := CE.out _ (own_below HHb.out (After.trans (After.drew (After.refl _)) hSw)); go_simp; try with_reducible rfl)
          try simp only [Act.put, List.getElem_toArray, List.getElem_cons_succ, List.getElem_cons_zero, List.setIfInBounds_toArray, List.set_cons_zero, List.set_cons_succ]
          refine Script.load (i := 20) (v := ?_) rfl (by kernel_rfl) (by kernel_rfl) (fun _ _ _ h => h) (by kernel_rfl) ?_ ?_
          rotate_left
          · (intro wS hSw; obtain ⟨l0, l1, l2⟩ := CE.out _ (own_below HHb.out (After.trans (After.drew (After.refl _)) hSw)); go_simp; try with_reducible rfl)
          try simp only [Act.put, List.getElem_toArray, List.getElem_cons_succ, List.getElem_cons_zero, List.setIfInBounds_toArray, List.set_cons_zero, List.set_cons_succ]
          refine Script.done (by kernel_rfl) ?_
          intro wD hD hG
          have hb6 := After.trans (After.drew (After.refl _)) hD
          have HL6 := Lib.hid (HLb.out.below hb6)
          have HH6 := Lib.hid (own_below HHb.out hb6)
          have B6 := Lib.hid (Bb.out.later hb6)
          clear hD hG hb6 HLb HHb Bb
          go_wp2_with fail
          go_roundw
          case rel => exact ⟨k + 1, m, _, ys, by omega, by omega, by go_num, rfl, by unfold Hid; rw [HF.out]; exact hys.out, HL6, HH6, HA, B6⟩
          case measure => simp [intOf]; omega
        · have HF := Lib.hid (filter_yes hl hc)
          have E1 : ((x : Int) == ((r : Nat) : Int)) = true := E.out.trans hc
          clear hl hc E
          go_wp2_with fail
          refine wp_region_script (by kernel_rfl) (by kernel_rfl) ?_
          refine Script.load (i := 0) (v := ?_) rfl (by kernel_rfl) (by kernel_rfl) (fun _ _ _ h => h) (by kernel_rfl) ?_ ?_
          rotate_left
          · (intro wS hSw; obtain ⟨l0, l1, l2⟩ := CE.out _ (own_below HHb.out (After.trans (After.drew (After.refl _)) hSw)); go_simp; try with_reducible rfl)
          try simp only [Act.put, List.getElem_toArray, List.getElem_cons_succ, List.getElem_cons_zero, List.setIfInBounds_toArray, List.set_cons_zero, List.set_cons_succ]
          refine Script.load (i := 1) (v := ?_) rfl (by kernel_rfl) (by kernel_rfl) (fun _ _ _ h => h) (by kernel_rfl) ?_ ?_
          rotate_left
          · (intro wS hSw; obtain ⟨l0, l1, l2⟩ := CE.out _ (own_below HHb.out (After.trans (After.drew (After.refl _)) hSw)); go_simp; try with_reducible rfl)
          try simp only [Act.put, List.getElem_toArray, List.getElem_cons_succ, List.getElem_cons_zero, List.setIfInBounds_toArray, List.set_cons_zero, List.set_cons_succ]
          refine Script.load (i := 2) (v := ?_) rfl (by kernel_rfl) (by kernel_rfl) (fun _ _ _ h => h) (by kernel_rfl) ?_ ?_
          rotate_left
          · (intro wS hSw; obtain ⟨l0, l1, l2⟩ := CE.out _ (own_below HHb.out (After.trans (After.drew (After.refl _)) hSw)); go_simp; try with_reducible rfl)
          try simp only [Act.put, List.getElem_toArray, List.getElem_cons_succ, List.getElem_cons_zero, List.setIfInBounds_toArray, List.set_cons_zero, List.set_cons_succ]
          refine Script.load (i := 3) (v := ?_) rfl (by kernel_rfl) (by kernel_rfl) (fun _ _ _ h => h) (by kernel_rfl) ?_ ?_
          rotate_left
          · (intro wS hSw; obtain ⟨l0, l1, l2⟩ := CE.out _ (own_below HHb.out (After.trans (After.drew (After.refl _)) hSw)); go_simp; try with_reducible rfl)
          try simp only [Act.put, List.getElem_toArray, List.getElem_cons_succ, List.getElem_cons_zero, List.setIfInBounds_toArray, List.set_cons_zero, List.set_cons_succ]
          refine Script.load (i := 4) (v := ?_) rfl (by kernel_rfl) (by kernel_rfl) (fun _ _ _ h => h) (by kernel_rfl) ?_ ?_
          rotate_left
          · (intro wS hSw; obtain ⟨l0, l1, l2⟩ := CE.out _ (own_below HHb.out (After.trans (After.drew (After.refl _)) hSw)); go_simp; try with_reducible rfl)
          try simp only [Act.put, List.getElem_toArray, List.getElem_cons_succ, List.getElem_cons_zero, List.setIfInBounds_toArray, List.set_cons_zero, List.set_cons_succ]
          refine Script.call (i := 5) (v := ?_) rfl (by kernel_rfl) (by kernel_rfl) (fun _ _ _ h => h) (by kernel_rfl) ?_ ?_
          rotate_left
          · (intro wS hSw K hK; obtain ⟨l0, l1, l2⟩ := CE.out _ (own_below HHb.out (After.trans (After.drew (After.refl _)) hSw)); go_simp; go_at_call 60; refine (C3.out _).mono ?_; rintro e wc ⟨rfl, hbc⟩; exact hK.out _ hbc)
          try simp only [Act.put, List.getElem_toArray, List.getElem_cons_succ, List.getElem_cons_zero, List.setIfInBounds_toArray, List.set_cons_zero, List.set_cons_succ]
          refine Script.load (i := 6) (v := ?_) rfl (by kernel_rfl) (by kernel_rfl) (fun _ _ _ h => h) (by kernel_rfl) ?_ ?_
          rotate_left
          · (intro wS hSw; obtain ⟨l0, l1, l2⟩ := CE.out _ (own_below HHb.out (After.trans (After.drew (After.refl _)) hSw)); go_simp; try with_reducible rfl)
          try simp only [Act.put, List.getElem_toArray, List.getElem_cons_succ, List.getElem_cons_zero, List.setIfInBounds_toArray, List.set_cons_zero, List.set_cons_succ]
          refine Script.load (i := 7) (v := ?_) rfl (by kernel_rfl) (by kernel_rfl) (fun _ _ _ h => h) (by kernel_rfl) ?_ ?_
          rotate_left
          · (intro wS hSw; obtain ⟨l0, l1, l2⟩ := CE.out _ (own_below HHb.out (After.trans (After.drew (After.refl _)) hSw)); go_simp; try with_reducible rfl)
          try simp only [Act.put, List.getElem_toArray, List.getElem_cons_succ, List.getElem_cons_zero, List.setIfInBounds_toArray, List.set_cons_zero, List.set_cons_succ]
          refine Script.load (i := 8) (v := ?_) rfl (by kernel_rfl) (by kernel_rfl) (fun _ _ _ h => h) (by kernel_rfl) ?_ ?_
          rotate_left
          · (intro wS hSw; obtain ⟨l0, l1, l2⟩ := CE.out _ (own_below HHb.out (After.trans (After.drew (After.refl _)) hSw)); go_simp; try with_reducible rfl)
          try simp only [Act.put, List.getElem_toArray, List.getElem_cons_succ, List.getElem_cons_zero, List.setIfInBounds_toArray, List.set_cons_zero, List.set_cons_succ]
          refine Script.load (i := 9) (v := ?_) rfl (by kernel_rfl) (by kernel_rfl) (fun _ _ _ h => h) (by kernel_rfl) ?_ ?_
          rotate_left
          · (intro wS hSw; obtain ⟨l0, l1, l2⟩ := CE.out _ (own_below HHb.out (After.trans (After.drew (After.refl _)) hSw)); go_simp; try with_reducible rfl)
          try simp only [Act.put, List.getElem_toArray, List.getElem_cons_succ, List.getElem_cons_zero, List.setIfInBounds_toArray, List.set_cons_zero, List.set_cons_succ]
          refine Script.load (i := 10) (v := ?_) rfl (by kernel_rfl) (by kernel_rfl) (fun _ _ _ h => h) (by kernel_rfl) ?_ ?_
          rotate_left
          · (intro wS hSw; obtain ⟨l0, l1, l2⟩ := CE.out _ (own_below HHb.out (After.trans (After.drew (After.refl _)) hSw)); go_simp; try with_reducible rfl)
          try simp only [Act.put, List.getElem_toArray, List.getElem_cons_succ, List.getElem_cons_zero, List.setIfInBounds_toArray, List.set_cons_zero, List.set_cons_succ]
          refine Script.load (i := 11) (v := ?_) rfl (by kernel_rfl) (by kernel_rfl) (fun _ _ _ h => h) (by kernel_rfl) ?_ ?_
          rotate_left
          · (intro wS hSw; obtain ⟨l0, l1, l2⟩ := CE.out _ (own_below HHb.out (After.trans (After.drew (After.refl _)) hSw)); go_simp; try with_reducible rfl)
          try simp only [Act.put, List.getElem_toArray, List.getElem_cons_succ, List.getElem_cons_zero, List.setIfInBounds_toArray, List.set_cons_zero, List.set_cons_succ]
          refine Script.load (i := 12) (v := ?_) rfl (by kernel_rfl) (by kernel_rfl) (fun _ _ _ h => h) (by kernel_rfl) ?_ ?_
          rotate_left
          · (intro wS hSw; obtain ⟨l0, l1, l2⟩ := CE.out _ (own_below HHb.out (After.trans (After.drew (After.refl _)) hSw)); go_simp; try with_reducible rfl)
          try simp only [Act.put, List.getElem_toArray, List.getElem_cons_succ, List.getElem_cons_zero, List.setIfInBounds_toArray, List.set_cons_zero, List.set_cons_succ]
          refine Script.load (i := 13) (v := ?_) rfl (by kernel_rfl) (by kernel_rfl) (fun _ _ _ h => h) (by kernel_rfl) ?_ ?_
          rotate_left
          · (intro wS hSw; obtain ⟨l0, l1, l2⟩ := CE.out _ (own_below HHb.out (After.trans (After.drew (After.refl _)) hSw)); go_simp; try with_reducible rfl)
          try simp only [Act.put, List.getElem_toArray, List.getElem_cons_succ, List.getElem_cons_zero, List.setIfInBounds_toArray, List.set_cons_zero, List.set_cons_succ]
          refine Script.load (i := 14) (v := ?_) rfl (by kernel_rfl) (by kernel_rfl) (fun _ _ _ h => h) (by kernel_rfl) ?_ ?_
          rotate_left
          · (intro wS hSw; obtain ⟨l0, l1, l2⟩ := CE.out _ (own_below HHb.out (After.trans (After.drew (After.refl _)) hSw)); go_simp; try with_reducible rfl)
          try simp only [Act.put, List.getElem_toArray, List.getElem_cons_succ, List.getElem_cons_zero, List.setIfInBounds_toArray, List.set_cons_zero, List.set_cons_succ]
          refine Script.load (i := 15) (v := ?_) rfl (by kernel_rfl) (by kernel_rfl) (fun _ _ _ h => h) (by kernel_rfl) ?_ ?_
          rotate_left
          · (intro wS hSw; obtain ⟨l0, l1, l2⟩ := CE.out _ (own_below HHb.out (After.trans (After.drew (After.refl _)) hSw)); go_simp; try with_reducible rfl)
          try simp only [Act.put, List.getElem_toArray, List.getElem_cons_succ, List.getElem_cons_zero, List.setIfInBounds_toArray, List.set_cons_zero, List.set_cons_succ]
          refine Script.load (i := 16) (v := ?_) rfl (by kernel_rfl) (by kernel_rfl) (fun _ _ _ h => h) (by kernel_rfl) ?_ ?_
          rotate_left
          · (intro wS hSw; obtain ⟨l0, l1, l2⟩ := CE.out _ (own_below HHb.out (After.trans (After.drew (After.refl _)) hSw)); go_simp; try with_reducible rfl)
          try simp only [Act.put, List.getElem_toArray, List.getElem_cons_succ, List.getElem_cons_zero, List.setIfInBounds_toArray, List.set_cons_zero, List.set_cons_succ]
          refine Script.load (i := 17) (v := ?_) rfl (by kernel_rfl) (by kernel_rfl) (fun _ _ _ h => h) (by kernel_rfl) ?_ ?_
          rotate_left
          · (intro wS hSw; obtain ⟨l0, l1, l2⟩ := CE.out _ (own_below HHb.out (After.trans (After.drew (After.refl _)) hSw)); go_simp; try with_reducible rfl)
          try simp only [Act.put, List.getElem_toArray, List.getElem_cons_succ, List.getElem_cons_zero, List.setIfInBounds_toArray, List.set_cons_zero, List.set_cons_succ]
          refine Script.load (i := 18) (v := ?_) rfl (by kernel_rfl) (by kernel_rfl) (fun _ _ _ h => h) (by kernel_rfl) ?_ ?_
          rotate_left
          · (intro wS hSw; obtain ⟨l0, l1, l2⟩ := CE.out _ (own_below HHb.out (After.trans (After.drew (After.refl _)) hSw)); go_simp; try with_reducible rfl)
          try simp only [Act.put, List.getElem_toArray, List.getElem_cons_succ, List.getElem_cons_zero, List.setIfInBounds_toArray, List.set_cons_zero, List.set_cons_succ]
          refine Script.load (i := 19) (v := ?_) rfl (by kernel_rfl) (by kernel_rfl) (fun _ _ _ h => h) (by kernel_rfl) ?_ ?_
          rotate_left
          · (intro wS hSw; obtain ⟨l0, l1, l2⟩ := CE.out _ (own_below HHb.out (After.trans (After.drew (After.refl _)) hSw)); go_simp; try with_reducible rfl)
          try simp only [Act.put, List.getElem_toArray, List.getElem_cons_succ, List.getElem_cons_zero, List.setIfInBounds_toArray, List.set_cons_zero, List.set_cons_succ]
          refine Script.load (i := 20) (v := ?_) rfl (by kernel_rfl) (by kernel_rfl) (fun _ _ _ h => h) (by kernel_rfl) ?_ ?_
          rotate_left
          · (intro wS hSw; obtain ⟨l0, l1, l2⟩ := CE.out _ (own_below HHb.out (After.trans (After.drew (After.refl _)) hSw)); go_simp; try with_reducible rfl)
          try simp only [Act.put, List.getElem_toArray, List.getElem_cons_succ, List.getElem_cons_zero, List.setIfInBounds_toArray, List.set_cons_zero, List.set_cons_succ]
          refine Script.done (by kernel_rfl) ?_
          intro wD hD hG
          have hb6 := After.trans (After.drew (After.refl _)) hD
          have HL6 := Lib.hid (HLb.out.below hb6)
          have HH6 := Lib.hid (own_below HHb.out hb6)
          have B6 := Lib.hid (Bb.out.later hb6)
          clear hD hG hb6 HLb HHb Bb
          have hbz : Hid (w.heap.size + 1 ≤ wD.heap.size) := B6.out.2.2.2.1
          obtain ⟨l0, l1, l2⟩ := CE.out _ HH6.out
          go_wp2_with (at_builtin; refine wpList_append_line rfl (.tmp 43) (.tmp 48) 51 rfl (w.heap.size + 1) 76 i0 (.agg #[.int .i64 0, .int .i64 0, .int .i64 0]) Try.underlying51 hi hz0 hz1 hz2 rfl _ _ ys rfl HL6.out.2 _ rfl rfl hln.out hbz.out ?_; intro g' cap' w7 hown' hgrow hb2 hat)
          have hl7 : ys.length = m := HL6.out.1
          have HL7 : Hid (Held w7 (w.heap.size + 1) (.slice (some ⟨g', 0, none⟩) (m + 1) cap') (m + 1) (ys ++ [((f' : Int), (o' : Int), (t' : Int))])) := ⟨by rw [List.length_append, hl7]; rfl, hown'⟩
          have hne := HA.out g rfl
          have HH7 : Hid (w7.ownsRow B 76 3 (.slice (some ⟨g, 0, none⟩) n gc) n (lv xs)) := (own_below HH6.out ((Below.refl _ _).alloc (Nat.le_refl _) _)).kept hgrow (.inr (fun h => hne h.symm))
          have B7 := Lib.hid (B6.out.kept hb2 (Nat.lt_succ_self _) (Nat.le_succ _))
          have HA7 : Hid (∀ g0, some (⟨g, 0, none⟩ : Addr) = some ⟨g0, 0, none⟩ → (Value.slice (some ⟨g', 0, none⟩) (m + 1) cap').ownBlock ≠ some g0) := fun g0 h1 h2 => by
            have hg0 : g = g0 := by simpa using h1
            have hg' : g' = g0 := by simpa [Value.ownBlock] using h2
            rw [← hg0] at hg'
            rcases hat with h3 | h3
            · exact hne ((show v.ownBlock = some g' from h3).trans (by rw [hg']))
            · have h4 := (HH6.out.lt g rfl).2
              have h5 : g' = wD.heap.size + 1 := h3
              omega
          clear hown' hgrow hb2 hl7 hbz HL6 HH6 B6 hln hat hne l0 l1 l2
          go_wp2_with fail
          go_roundw
          case rel => exact ⟨k + 1, m + 1, _, _, by omega, by omega, by go_num, rfl, by unfold Hid; rw [HF.out, hys.out], HL7, HH7, HA7, B7⟩
          case measure => simp [intOf]; omega
      · obtain rfl : k = n := by omega
        have hp : Hid (OwnLines (xs.filter (befL P)) w (.returned v) wr) := by
          refine ⟨_, rfl, ?_, B4.out.2.2.2.2⟩
          have e : xs.filter (befL P) = ys := by rw [hys.out, List.take_of_length_le (by rw [HN.out]; exact Nat.le_refl _)]
          rw [e, HL.out.1]
          exact own_base HL.out.2 (Nat.le_succ _)
        clear HL HH B4
        go_wp2_with fail
        go_ret
        exact hp.out
end Go.Proofs.Ytgkmapemnlgldaa

namespace Go.Proofs.Ytgkmapemnlgldaa
open Go.RowKit
set_option linter.unusedVariables false
set_option linter.unusedSimpArgs false
end Go.Proofs.Ytgkmapemnlgldaa
